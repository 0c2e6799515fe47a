/- Whether a pattern can be drawn: both sides. No conditions. -/
import Derived.Test.YtmpajijnpoekgaaPatD
import Derived.Test.YtmpajijnpoekgaaPatS
namespace Go.Proofs.Ytmpajijnpoekgaa
open Go.RowKit

theorem pts_of {s : ByteArray} (h : isPt s = true) (k : Nat) : Pts ((plcs s).take k) := ⟨by have := isPt_size h; rw [List.length_take, plcs_len]; omega, fun p hp => isPt_lt h p (List.mem_of_mem_take hp)⟩

set_option maxHeartbeats 1000000 in
theorem piDrw_any (s : ByteArray) (w : World) (h : isPt s = true) : Calls Try.prog 43 #[.string s] w fun e w' => e = .returned (.bool (drwP (plcs s))) ∧ Ext w w' := by
  have hz := isPt_size h
  have HPT := Lib.hid (isPt_pT h)
  have HL := Lib.hid (plcs_len s)
  have HLT := Lib.hid (isPt_lt h)
  have HTK := Lib.hid (fun k => pts_of h k)
  obtain ⟨ps, hps⟩ : ∃ ps, ps = plcs s := ⟨_, rfl⟩
  rw [← hps] at HPT HL HLT HTK ⊢
  clear hps h
  go_enter Try.func43, Try.ntmps43
  go_wp2
  go_loopw [3] (fun i wr => ∃ k : Nat, k + 1 ≤ s.size ∧ i = .int .i64 ((k + 1 : Nat) : Int) ∧ dwP ps k = true ∧ Ext w wr) (fun i _ => s.size - (intOf i).toNat)
  case atStart => exact ⟨0, by omega, rfl, rfl, Ext.refl _⟩
  case round =>
    obtain ⟨k, hk, rfl, hdw, hx⟩ := hrel
    have HDW := Lib.hid hdw
    clear hdw
    by_cases hlt : k + 1 < s.size
    · have hk0 : k < ps.length := by rw [HL.out]; omega
      have hk1 : k + 1 < ps.length := by rw [HL.out]; omega
      have hp9 : ps.getD (k + 1) 0 < 9 := by
        rw [getD_get hk1]
        exact HLT.out _ (List.getElem_mem _)
      have HY := Lib.hid (fun h => dwP_yes (ps := ps) HDW.out h)
      have HN := Lib.hid (fun h => drwP_no (ps := ps) (k := k + 1) (dwP_bad h) (by rw [HL.out]; omega))
      have htk : ps.take (k + 1) = ps.take k ++ [ps.getD k 0] := by rw [List.take_succ_eq_append_getElem hk0, getD_get hk0]
      have HG := Lib.hid (fun w => (show Calls Try.prog 46 #[.string (pT (ps.take (k + 1))), .int .u8 (49 + (ps.getD (k + 1) 0 : Int))] w fun e w' => e = .returned (.bool (goP (ps.take (k + 1)) (ps.getD k 0) (ps.getD (k + 1) 0))) ∧ w = w' from by
        have hpt := HTK.out (k + 1)
        rw [htk] at hpt ⊢
        exact piGoes_any (ps.take k) (ps.getD k 0) (ps.getD (k + 1) 0) _ w hpt hp9 rfl))
      have hsl := fun w => slT s (k + 1) (by omega) w
      have e1 : s.extract 0 (k + 1) = pT (ps.take (k + 1)) := by
        conv => lhs; rw [← HPT.out]
        exact pT_take ps (k + 1) (by omega)
      rw [e1] at hsl
      have ik1 : ∀ w, (Instr.index 9 (.string s) (.int .i64 ((k + 1 : Nat) : Int))).run Try.prog w = .ok (.int .u8 (49 + (ps.getD (k + 1) 0 : Int))) w := fun w => by
        have h1 : k + 1 < (pT ps).size := by rw [pT_size]; exact hk1
        have h2 := ixS (pT ps) (k + 1) h1 w
        rw [pT_get ps (k + 1) h1 hk1, pBn _ (HLT.out _ (List.getElem_mem _)), HPT.out] at h2
        rw [getD_get hk1]
        exact h2
      obtain ⟨x, hxx⟩ : ∃ x, x = ps.getD (k + 1) 0 := ⟨_, rfl⟩
      rw [← hxx] at HY HN HG ik1
      obtain ⟨E, hE⟩ : ∃ E, E = pT (ps.take (k + 1)) := ⟨_, rfl⟩
      rw [← hE] at HG hsl
      obtain ⟨k1, hk1e⟩ : ∃ k1, k1 = k + 1 := ⟨_, rfl⟩
      rw [← hk1e] at hsl ik1 ⊢
      have hk1i : (k1 : Int) < (s.size : Int) := by omega
      have hk1n : ¬ (s.size : Int) < (k1 : Int) := by omega
      have HKK := Lib.hid hk1e
      have hk19 : k1 ≤ 9 := by omega
      clear hE hxx hk1e htk e1 hk0 hk1 hlt hk hp9
      cases hg : goP (ps.take (k + 1)) (ps.getD k 0) x
      · have HV := Lib.hid (HN.out hg)
        rw [hg] at HG
        clear hg
        go_wp2
        go_quiet (first | exact Calls.quiet_of_same ((HG.out _).mono fun e w' h => ⟨h.1, h.2.symm⟩))
        go_wp2
        go_ret
        exact ⟨ret_bool HV.out.symm, ext_drewN hx _⟩
      · have HV := Lib.hid (HY.out hg)
        rw [hg] at HG
        clear hg
        go_wp2
        go_quiet (first | exact Calls.quiet_of_same ((HG.out _).mono fun e w' h => ⟨h.1, h.2.symm⟩))
        go_wp2
        go_roundw
        case rel => exact ⟨k + 1, by have := HKK.out; omega, by have := HKK.out; rw [show ((k + 1 + 1 : Nat) : Int) = (k1 : Int) + 1 by omega], HV.out, ext_drewN hx _⟩
        case measure => simp [intOf]; omega
    · have HV := Lib.hid (show drwP ps = true by unfold drwP; rw [HL.out, show s.size - 1 = k by omega]; exact HDW.out)
      go_wp2
      go_ret
      exact ⟨ret_bool HV.out.symm, hx⟩

/-! ### IsDrawn -/
theorem doV_is (ps : List Nat) : ∃ d l, doV ps = dvA d l := by
  unfold doV
  split
  · exact ⟨_, _, rfl⟩
  · exact ⟨_, _, rfl⟩
/-- A drawing is laid into a new block. -/
theorem dv_new (w1 : World) (A : Array Value) (d : Nat → Bool) (l : Int) (hA : A = (dvA d l).toArray) : ∃ W4, (storeCells ⟨w1.heap.size, 0, none⟩ A.toList).run Try.prog (w1.alloc (.cells #[.bool false, .bool false, .bool false, .bool false, .bool false, .bool false, .bool false, .bool false, .bool false, .int .i64 0] 48)) = .ok () W4 ∧ W4.heap[w1.heap.size]? = some (.cells A 48) ∧ Ext w1 W4 := by
  obtain ⟨W4, h1, h2, h3, _⟩ := dv_store (w1.alloc (.cells #[.bool false, .bool false, .bool false, .bool false, .bool false, .bool false, .bool false, .bool false, .bool false, .int .i64 0] 48)) w1.heap.size _ (by rfl) (heap_alloc_new w1 _) A d l hA (Ext.refl w1 |>.alloc _ : Ext w1 _) (Nat.le_refl _)
  exact ⟨W4, h1, h2, h3⟩
def isdV (s : ByteArray) : Bool := isPt s && drwP (plcs s)
theorem isdV_no {s : ByteArray} (h : isPt s = false) : isdV s = false := by unfold isdV; rw [h]; rfl
theorem isdV_yes {s : ByteArray} (h : isPt s = true) : isdV s = drwP (plcs s) := by unfold isdV; rw [h]; rfl
theorem ret_BBe {a a' b b' : Bool} (h : a = a') (h2 : b = b') : Ending.returned (.tuple #[.bool a, .bool b]) = .returned (.tuple #[.bool a', .bool b']) := by rw [h, h2]
theorem isdI_any (s : ByteArray) (w : World) (hs : s.size ≤ maxLen) : Calls Try.prog 16 #[.string s] w fun e w' => e = .returned (.tuple #[.bool (isdV s), .bool (isPt s)]) ∧ Ext w w' := by
  cases h : isPt s
  · have HV := Lib.hid (isdV_no h)
    go_enter Try.func16, Try.ntmps16
    go_wp2_with (go_at_call 44; refine (isPat_any _ _ hs).mono ?_; rintro e w1 ⟨rfl, x1⟩; rw [h])
    go_ret2
    exact ⟨ret_BBe HV.out.symm rfl, x1⟩
  have HV := Lib.hid (isdV_yes h)
  have HD := Lib.hid (fun w => dof_any s w h)
  obtain ⟨V, hV⟩ : ∃ V, V = (doV (plcs s)).toArray := ⟨_, rfl⟩
  obtain ⟨b, hb⟩ : ∃ b, b = drwP (plcs s) := ⟨_, rfl⟩
  rw [← hV, ← hb] at HD
  rw [← hb] at HV
  have hV10 : V.size = 10 := by rw [hV]; unfold doV; split <;> rfl
  obtain ⟨dd, dl, hdd⟩ := doV_is (plcs s)
  have HDV := Lib.hid (show V = (dvA dd dl).toArray by rw [hV, hdd])
  clear hV hb hdd
  go_enter Try.func16, Try.ntmps16
  go_wp2_with (first | (go_at_call 44; refine (isPat_any _ _ hs).mono ?_; rintro e w1 ⟨rfl, x1⟩; rw [h]) | (go_at_call 45; refine (HD.out _).mono ?_; rintro e w2 ⟨rfl, x2⟩; obtain ⟨W3, st3, G3, X3⟩ := dv_new w2 V dd dl HDV.out))
  go_ret2
  exact ⟨ret_BBe HV.out.symm rfl, (x1.trans x2).trans X3⟩
theorem isdS_any (s : ByteArray) (w : World) (hs : s.size ≤ maxLen) : Calls Try.prog 15 #[.string s] w fun e w' => e = .returned (.tuple #[.bool (isdV s), .bool (isPt s)]) ∧ Ext w w' := by
  cases h : isPt s
  · have HV := Lib.hid (isdV_no h)
    go_enter Try.func15, Try.ntmps15
    go_wp2_with (go_at_call 42; refine (piPat_any _ _ hs).mono ?_; rintro e w1 ⟨rfl, x1⟩; rw [h])
    go_ret2
    exact ⟨ret_BBe HV.out.symm rfl, x1⟩
  have HV := Lib.hid (isdV_yes h)
  have HD := Lib.hid (fun w => piDrw_any s w h)
  go_enter Try.func15, Try.ntmps15
  go_wp2_with (first | (go_at_call 42; refine (piPat_any _ _ hs).mono ?_; rintro e w1 ⟨rfl, x1⟩; rw [h]) | (go_at_call 43; refine (HD.out _).mono ?_; rintro e w2 ⟨rfl, x2⟩))
  go_ret2
  exact ⟨ret_BBe HV.out.symm rfl, x1.trans x2⟩
end Go.Proofs.Ytmpajijnpoekgaa
