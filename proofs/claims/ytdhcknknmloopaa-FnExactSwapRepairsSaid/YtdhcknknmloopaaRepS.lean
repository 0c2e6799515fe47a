/- Numbers that come of a number when two neighbours are exchanged: the model. No conditions. -/
import Derived.Test.YtdhcknknmloopaaRep
namespace Go.Proofs.Ytdhcknknmloopaa
open Go.RowKit

set_option maxRecDepth 100000 in
set_option maxHeartbeats 1500000 in
theorem srS_any (m : Int) (v : Value) (zs : List Int) (s : ByteArray) (w : World) (h : IntsA w v zs) (hm : -9223372036854775808 ≤ m ∧ m ≤ 9223372036854775807) (hs : s.size ≤ maxLen) : Calls Try.prog 36 #[.agg #[.int .i64 m, v], .string s] w (ResS (srV m zs s) (isNum m zs s) w) := by
  have X0 := Lib.hid (show Ext w (w.alloc (.cells #[.int .i64 m, v] 27)) from (Ext.refl w).alloc _)
  have HI := Lib.hid (h.ext X0.out)
  have HN := Lib.hid (ckNumber_any m v zs s _ HI.out hm hs)
  obtain ⟨va, vc, hv⟩ := h.at
  clear h
  cases hn : isNum m zs s
  · have HV := Lib.hid (srV_no hn)
    rw [hn] at HN
    clear hn hv
    go_enter Try.func36, Try.ntmps36
    go_wp2_with (go_at_call 50; refine HN.out.mono ?_; rintro e w1 ⟨rfl, x1⟩)
    go_ret2
    exact ⟨_, rfl, by rw [HV.out]; exact RowS.nil _ _, X0.out.trans x1⟩
  have HV := Lib.hid (srV_yes hn)
  have hlen := (isNum_parts hn).2.1
  have hb := isSch_bd (isNum_parts hn).1
  have hz1 : 1 ≤ zs.length := hb.l1
  have hz12 : zs.length ≤ 12 := hb.l2
  have HCR := Lib.hid (fun j (hj : j + 1 < zs.length) (w' : World) (x : Ext (w.alloc (.cells #[.int .i64 m, v] 27)) w') => ckRight_any m v zs (swp s j) w' (HI.out.ext x) (num_swp hn hj))
  rw [hn] at HN
  rw [hv] at HN HI HCR X0 ⊢
  clear hn hb hv
  go_enter Try.func36, Try.ntmps36
  go_wp2_with (go_at_call 50; refine HN.out.mono ?_; rintro e w1 ⟨rfl, x1⟩; obtain ⟨c1, c2⟩ := sc_cells x1)
  go_loopw [6, 7] (fun o i wr => ∃ j : Nat, j + 1 ≤ zs.length ∧ i = .int .i64 (j + 1 : Nat) ∧ RowS w.heap.size wr o (putAll (rps m zs s j)) ∧ ((rps m zs s j).length = 0 → o = .slice none 0 0) ∧ Ext (w.alloc (.cells #[.int .i64 m, .slice va zs.length vc] 27)) wr) (fun _ i _ => zs.length - (intOf i).toNat)
  case atStart => exact ⟨0, by omega, rfl, RowS.nil _ _, fun _ => rfl, x1⟩
  case round =>
    obtain ⟨j, hj, rfl, hr, hn, hx⟩ := hrel
    have HR := Lib.hid hr
    have HZ := Lib.hid hn
    obtain ⟨d1, d2⟩ := sc_cells hx
    clear hr hn
    have hcl := rps_len m zs s j
    have hpl := all_len (rps m zs s j)
    obtain ⟨k, hk⟩ : ∃ k, k = j + 1 := ⟨_, rfl⟩
    have HK := Lib.hid hk
    rw [← hk]
    by_cases hlt : k < zs.length
    · have hkl : k < s.size := by omega
      have ik : ∀ w, (Instr.index 9 (.string s) (.int .i64 (k : Int))).run Try.prog w = .ok (.int .u8 ((sg s k).toNat : Int)) w := fun w => ixB s k hkl w
      have hjl : j < s.size := by omega
      have ij : ∀ w, (Instr.index 9 (.string s) (.int .i64 (j : Int))).run Try.prog w = .ok (.int .u8 ((sg s j).toNat : Int)) w := fun w => ixB s j hjl w
      have W1 : IntKind.i64.wrap ((k : Int) - 1) = ((j : Nat) : Int) := by simp only [IntKind.wrap_i64]; omega
      have W2 : IntKind.i64.wrap ((k : Int) + 1) = ((k + 1 : Nat) : Int) := by simp only [IntKind.wrap_i64]; omega
      have HCJ := Lib.hid (fun w' x => HCR.out j (by omega) w' x)
      by_cases he : ((sg s j).toNat : Int) = ((sg s k).toNat : Int)
      · have HN2 := Lib.hid (rps_eq (m := m) (zs := zs) (s := s) (j := j) (by rw [← hk]; exact sg_eq.2 he))
        clear hk
        go_wp2
        go_quiet (fail)
        go_wp2
        exact ⟨⟨k, by omega, by go_num, by rw [HK.out, HN2.out]; exact HR.out.ext (ext_drewN (Ext.refl _) _), by rw [HK.out, HN2.out]; exact HZ.out, ext_drewN hx _⟩, by simp [intOf]; omega⟩
      · have hb : (((sg s j).toNat : Int) != ((sg s k).toNat : Int)) = true := bne_iff_ne.2 he
        have HNE := Lib.hid (show ¬ sg s j = sg s (j + 1) by rw [← hk]; exact fun h => he (sg_eq.1 h))
        have HSW := Lib.hid (show swp s j = s.extract 0 j ++ s.extract k (k + 1) ++ s.extract j k ++ s.extract (k + 1) s.size by rw [hk]; rfl)
        have n1 : j ≤ s.size := by omega
        have n2 : k ≤ k + 1 := by omega
        have n3 : k + 1 ≤ s.size := by omega
        have n4 : j ≤ k := by omega
        have n5 : k ≤ s.size := by omega
        obtain ⟨A1, hA1⟩ : ∃ A, A = s.extract 0 j := ⟨_, rfl⟩
        obtain ⟨A2, hA2⟩ : ∃ A, A = s.extract k (k + 1) := ⟨_, rfl⟩
        obtain ⟨A3, hA3⟩ : ∃ A, A = s.extract j k := ⟨_, rfl⟩
        obtain ⟨A4, hA4⟩ : ∃ A, A = s.extract (k + 1) s.size := ⟨_, rfl⟩
        have z1 : A1.size ≤ 20 := by rw [hA1, ByteArray.size_extract]; omega
        have z2 : A2.size ≤ 20 := by rw [hA2, ByteArray.size_extract]; omega
        have z3 : A3.size ≤ 20 := by rw [hA3, ByteArray.size_extract]; omega
        have z4 : A4.size ≤ 20 := by rw [hA4, ByteArray.size_extract]; omega
        rw [← hA1, ← hA2, ← hA3, ← hA4] at HSW
        have q1 : ¬ 9223372036854775807 < A1.size + A2.size := by omega
        have q2 : ¬ 9223372036854775807 < (A1 ++ A2).size + A3.size := by rw [ByteArray.size_append]; omega
        have q3 : ¬ 9223372036854775807 < (A1 ++ A2 ++ A3).size + A4.size := by rw [ByteArray.size_append, ByteArray.size_append]; omega
        have q4 : ¬ 9223372036854775807 < A1.size + A2.size + A3.size := by omega
        have q5 : ¬ 9223372036854775807 < A1.size + A2.size + A3.size + A4.size := by omega
        have l1 : ∀ w, (Instr.slice 9 (.string s) none (some (.int .i64 (j : Int))) none).run Try.prog w = .ok (.string A1) w := fun w => by rw [hA1]; exact slB_to s j n1 w
        have l2 : ∀ w, (Instr.slice 9 (.string s) (some (.int .i64 (k : Int))) (some (.int .i64 ((k : Int) + 1))) none).run Try.prog w = .ok (.string A2) w := fun w => by rw [hA2]; exact slB s k (k + 1) n2 n3 w
        have l3 : ∀ w, (Instr.slice 9 (.string s) (some (.int .i64 (j : Int))) (some (.int .i64 (k : Int))) none).run Try.prog w = .ok (.string A3) w := fun w => by rw [hA3]; exact slB s j k n4 n5 w
        have l4 : ∀ w, (Instr.slice 9 (.string s) (some (.int .i64 ((k : Int) + 1))) none none).run Try.prog w = .ok (.string A4) w := fun w => by rw [hA4]; exact slB_from s (k + 1) n3 w
        obtain ⟨Z, hZ⟩ : ∃ Z, Z = swp s j := ⟨_, rfl⟩
        have HZZ := Lib.hid (show A1 ++ A2 ++ A3 ++ A4 = Z by rw [hZ, HSW.out])
        clear hA1 hA2 hA3 hA4
        clear hk
        rw [← hZ] at HCJ
        have HRB := Lib.hid (show decide (sumN zs Z % m = 0) = rb m zs (swp s j) by rw [hZ]; rfl)
        rw [HRB.out] at HCJ
        clear HRB
        have HSZ := Lib.hid (show ∀ t ∈ putAll (rps m zs s j), t.size ≤ maxLen from fun t ht => by
          have := rps_size j hjl t ((putAll_mem _ t).1 ht)
          unfold maxLen
          omega)
        cases hrb : rb m zs (swp s j)
        · have HN2 := Lib.hid (rps_no HNE.out hrb)
          rw [hrb] at HCJ
          clear hrb hZ
          go_wp2
          go_quiet (fail)
          go_wp2_with (fail)
          go_quiet (fail)
          go_wp2_with (fail)
          rw [HZZ.out]
          refine (HCJ.out _ (ext_drewN hx _)).mono ?_
          rintro e w9 ⟨rfl, x9⟩
          have X9 := (ext_drewN hx _).trans x9
          have R9 := Lib.hid (RowS.ext HR.out ((ext_drewN (Ext.refl _) _).trans x9))
          clear x9
          go_wp2
          exact ⟨⟨k, by omega, by go_num, by rw [HK.out, HN2.out]; exact R9.out, by rw [HK.out, HN2.out]; exact HZ.out, X9⟩, by simp [intOf]; omega⟩
        · have HN2 := Lib.hid (rps_yes HNE.out hrb)
          rw [hrb] at HCJ
          have HNZ := Lib.hid (show ¬ (rps m zs s (j + 1)).length = 0 by rw [HN2.out, List.length_append]; simp)
          have HPN := Lib.hid (show putAll (rps m zs s k) = putL (putAll (rps m zs s j)) Z by rw [HK.out, HN2.out, putAll_snoc, hZ])
          clear hrb hZ
          go_wp2
          go_quiet (fail)
          go_wp2_with (fail)
          go_quiet (fail)
          go_wp2_with (fail)
          rw [HZZ.out]
          refine (HCJ.out _ (ext_drewN hx _)).mono ?_
          rintro e w9 ⟨rfl, x9⟩
          have X9 := (ext_drewN hx _).trans x9
          have R9 := Lib.hid (RowS.ext HR.out ((ext_drewN (Ext.refl _) _).trans x9))
          clear x9
          by_cases h0 : (rps m zs s j).length = 0
          · obtain rfl := HZ.out h0
            have HE := Lib.hid (show putAll (rps m zs s j) = [] by rw [List.length_eq_zero_iff.1 h0]; rfl)
            clear h0
            go_wp2_with (fail)
            refine (ckPut_nil _ _).mono ?_
            rintro e w8 ⟨v8, rfl, r8, x8⟩
            have R8 := Lib.hid (r8.down (B' := w.heap.size) (X0.out.trans X9).size)
            have X8 := X9.trans x8
            clear r8 x8
            go_wp2
            exact ⟨⟨k, by omega, by go_num, by rw [HPN.out, HE.out]; exact R8.out, fun h => absurd (by rw [← HK.out]; exact h) HNZ.out, X8⟩, by simp [intOf]; omega⟩
          · have HPOS := Lib.hid (show 0 < (putAll (rps m zs s j)).length from List.length_pos_of_mem ((putAll_mem _ ((rps m zs s j)[0]'(by omega))).2 (List.getElem_mem _)))
            clear h0
            go_wp2_with (fail)
            refine (ckPut_any w.heap.size _ _ _ _ R9.out (X0.out.trans X9).size (by omega) (putAll_inc _) HPOS.out).mono ?_
            rintro e w8 ⟨v8, rfl, r8, x8, _⟩
            have R8 := Lib.hid r8
            have X8 := X9.trans x8
            clear r8 x8
            go_wp2
            exact ⟨⟨k, by omega, by go_num, by rw [HPN.out]; exact R8.out, fun h => absurd (by rw [← HK.out]; exact h) HNZ.out, X8⟩, by simp [intOf]; omega⟩
    · have HE := Lib.hid (show srV m zs s = putAll (rps m zs s j) by rw [HV.out, show zs.length - 1 = j by omega])
      clear hk
      go_wp2
      go_ret2
      exact ⟨_, rfl, by rw [HE.out]; exact HR.out, X0.out.trans hx⟩
end Go.Proofs.Ytdhcknknmloopaa
