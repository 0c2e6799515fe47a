/- Numbers of a scheme: the program's. No conditions. -/
import Derived.Test.YtdhcknknmloopaaNumS
namespace Go.Proofs.Ytdhcknknmloopaa
open Go.RowKit

theorem slFrC (s : ByteArray) (i : Nat) (h1 : i ≤ s.size) (w : World) : (Instr.slice 9 (.string s) (some (.int .i64 (i : Int))) none none).run Try.prog w = .ok (.string (s.extract i s.size)) w := by
  have a1 : (0 : Int) ≤ (i : Int) := by omega
  have a2 : (i : Int) ≤ (s.size : Int) := by omega
  simp [go_sem, h1]
/-- All are signs of checks. -/
def allSg (s : ByteArray) : Prop := ∀ i (h : i < s.size), isSg s[i] = true
theorem isNum_sg {m : Int} {zs : List Int} {s : ByteArray} (h : isNum m zs s = true) : allSg s := by
  intro i hi
  obtain ⟨_, h2, _, h4⟩ := isNum_parts h
  by_cases e : i < zs.length
  · obtain ⟨_, h5⟩ := isNum_dg h i e
    unfold isSg isSgN
    rw [h5]; rfl
  · obtain rfl : i = zs.length := by omega
    rw [lastSg_at h2] at h4
    exact h4

set_option maxHeartbeats 1000000 in
theorem valuesOf_any (s : ByteArray) (w : World) (hK : allSg s) (h40 : s.size ≤ 40) : Calls Try.prog 54 #[.string s] w fun e w' => OwnP w w' e (vls s) := by
  have HD := Lib.hid hK
  have HL := Lib.hid (vls_len s)
  clear hK
  obtain ⟨i0, hi, hz0, hzs, hzb⟩ := info_parts info_intP
  have HI := Lib.hid (show Try.prog.info? 3 = some i0 ∧ i0.zero = some (.int .i64 0) ∧ i0.size = 1 ∧ i0.bytes = 8 from ⟨hi, hz0, hzs, hzb⟩)
  clear hi hz0 hzs hzb
  go_enter Try.func54, Try.ntmps54
  go_wp2_with (at_make; refine wpList_make_full _ rfl _ _ 22 rfl w.heap.size 3 i0 (.int .i64 0) 1 Try.underlying22 HI.out.1 HI.out.2.1 HI.out.2.2.1 .i64 .i64 _ _ s.size rfl rfl rfl rfl (by rw [HI.out.2.2.2]; omega) (by unfold maxLen; omega) (Nat.le_refl _) ?_; intro w1 hown hgr)
  have X1 : Ext w w1 := ext_grown (Ext.refl w) hgr (by intro k hk; cases hk)
  obtain ⟨xs1, hxs1⟩ : ∃ xs, xs = (madeCells (Value.int .i64 0).cells (s.size * 1)).toList := ⟨_, rfl⟩
  rw [← hxs1] at hown
  clear hxs1 hgr
  go_loopw [10] (fun i wr => ∃ k : Nat, k ≤ s.size ∧ i = .int .i64 k ∧ ∃ xs : List Value, wr.ownsRow w.heap.size 3 1 (.slice (some ⟨w.heap.size, 0, none⟩) s.size s.size) s.size xs ∧ (∀ j (hj : j < s.size), j < k → xs[j]? = some (.int .i64 (svB s[j] : Nat))) ∧ Ext w wr) (fun i _ => s.size - (intOf i).toNat)
  case atStart => exact ⟨0, Nat.zero_le _, rfl, xs1, hown, fun j _ h => absurd h (by omega), X1⟩
  case round =>
    obtain ⟨k, hk, rfl, xs, hown, hxs, hx⟩ := hrel
    have HO := Lib.hid hown
    have HX := Lib.hid hxs
    clear hown hxs
    by_cases hlt : k < s.size
    · have hlen : xs.length = s.size := by have := HO.out.1; omega
      obtain ⟨u, hu⟩ : ∃ u, xs[k]? = some u := ⟨xs[k]'(by omega), List.getElem?_eq_getElem _⟩
      have hc3 := (HO.out.cellAt k (by omega)).trans hu
      have hf3 := HO.out.frozenAt k
      clear hu hlen
      have HS := Lib.hid (fun w => (show Calls Try.prog 81 #[.string ⟨#[48, 49, 50, 51, 52, 53, 54, 55, 56, 57, 88]⟩, .int .u8 ((s[k]'hlt).toNat : Int)] w fun e w' => e = .returned (.int .i64 (svB (s[k]'hlt) : Nat)) ∧ w = w' from by rw [← sgx_yes (HD.out k hlt)]; exact sidx_any _ w))
      go_wp2_with (go_at_call 81; refine (HS.out _).mono ?_; rintro e w' ⟨rfl, rfl⟩)
      go_roundw
      case rel =>
        refine ⟨k + 1, by omega, by go_num, xs.set k (.int .i64 (svB s[k] : Nat)), (HO.out.stored k _).1, ?_, hx.setCell (Nat.le_refl _) _⟩
        intro j hj hjk
        by_cases e : j = k
        · subst e
          rw [List.getElem?_set_self (by have := HO.out.1; omega)]
        · rw [List.getElem?_set_ne (by omega)]
          exact HX.out j hj (by omega)
      case measure => simp [intOf]; omega
    · go_wp2
      go_ret
      have hk' : k = s.size := by omega
      have e : xs = pcs (vls s) := by
        apply List.ext_getElem?
        intro j
        by_cases hj : j < s.size
        · rw [HX.out j hj (by omega), pcs_at _ j (by rw [vls_len]; exact hj), vls_at s j hj]
        · rw [List.getElem?_eq_none (by have := HO.out.1; omega), List.getElem?_eq_none (by rw [pcs_len, vls_len]; omega)]
      exact ⟨_, rfl, by unfold RowP; rw [vls_len, ← e]; exact HO.out, hx⟩

theorem chkPlace_any (m : Int) (v : Value) (zs : List Int) (w : World) (h : IntsA w v zs) : Calls Try.prog 70 #[.agg #[.int .i64 m, v]] w fun e w' => e = .returned (.int .i64 zs.length) ∧ Ext w w' := by
  have hl := h.1
  unfold maxLen at hl
  obtain ⟨a, cap, hv⟩ := h.at
  rw [hv]
  clear hv h
  go_enter Try.func70, Try.ntmps70
  go_wp2
  go_ret
  exact ⟨rfl, (Ext.refl _).alloc _⟩

set_option maxHeartbeats 1000000 in
theorem weightAt_any (m : Int) (v : Value) (zs : List Int) (j : Nat) (w : World) (h : IntsA w v zs) (hj : j ≤ zs.length) : Calls Try.prog 82 #[.agg #[.int .i64 m, v], .int .i64 (j : Int)] w fun e w' => e = .returned (.int .i64 (wt zs j)) ∧ Ext w w' := by
  have X0 := Lib.hid (show Ext w (w.alloc (.cells #[.int .i64 m, v] 27)) from (Ext.refl w).alloc _)
  have H := Lib.hid (h.ext X0.out)
  have HCP := Lib.hid (fun w' (x : Ext (w.alloc (.cells #[.int .i64 m, v] 27)) w') => chkPlace_any m v zs w' (H.out.ext x))
  obtain ⟨a, cap, hv⟩ := h.at
  rw [hv] at X0 H HCP ⊢
  clear hv h
  by_cases e : j = zs.length
  · have HV := Lib.hid (show wt zs j = 1 by rw [e, wt_end])
    have t : ((j : Int) == (zs.length : Int)) = true := beq_iff_eq.2 (by omega)
    clear e
    go_enter Try.func82, Try.ntmps82
    go_wp2_with (go_at_call 70; refine (HCP.out _ (Ext.refl _)).mono ?_; rintro e w1 ⟨rfl, x1⟩)
    go_ret
    exact ⟨by rw [HV.out]; rfl, X0.out.trans x1⟩
  · have hlt : j < zs.length := by omega
    have HV := Lib.hid (wt_at hlt)
    have t : ((j : Int) == (zs.length : Int)) = false := beq_eq_false_iff_ne.2 (by omega)
    clear e
    go_enter Try.func82, Try.ntmps82
    go_wp2_with (go_at_call 70; refine (HCP.out _ (Ext.refl _)).mono ?_; rintro e w1 ⟨rfl, x1⟩; have hx1 := Lib.hid x1; obtain ⟨c1, c2⟩ := sc_cells x1; obtain ⟨b, off, ha, _, e1⟩ := (H.out.ext x1).get2 j hlt; subst ha; clear x1)
    go_ret
    exact ⟨by rw [HV.out]; rfl, X0.out.trans hx1.out⟩

set_option maxHeartbeats 2000000 in
theorem sumOf_any (m : Int) (v : Value) (zs : List Int) (pv : Value) (ps : List Nat) (w : World) (h : IntsA w v zs) (hb : SchB m zs) (hp : Ps w pv ps) (hps : ∀ p ∈ ps, p ≤ 10) (hlen : ps.length ≤ zs.length + 1) : Calls Try.prog 57 #[.agg #[.int .i64 m, v], pv] w fun e w' => e = .returned (.int .i64 (sP zs ps ps.length)) ∧ Ext w w' := by
  have HB := Lib.hid hb
  have HPS := Lib.hid hps
  have X0 := Lib.hid (show Ext w (w.alloc (.cells #[.int .i64 m, v] 27)) from (Ext.refl w).alloc _)
  have H := Lib.hid (h.ext X0.out)
  have HP := Lib.hid (hp.ext X0.out)
  have hl2 := hb.l2
  obtain ⟨a, cap, hpv⟩ := hp.at
  rw [hpv] at HP ⊢
  have HWA := Lib.hid (fun j (hj : j ≤ zs.length) w' (x : Ext (w.alloc (.cells #[.int .i64 m, v] 27)) w') => weightAt_any m v zs j w' (H.out.ext x) hj)
  clear hpv hp h hps hb
  go_enter Try.func57, Try.ntmps57
  go_wp2
  go_loopw [5, 10] (fun u i wr => ∃ k : Nat, k ≤ ps.length ∧ i = .int .i64 k ∧ u = .int .i64 (sP zs ps k) ∧ Ext (w.alloc (.cells #[.int .i64 m, v] 27)) wr) (fun _ i _ => ps.length - (intOf i).toNat)
  case atStart => exact ⟨0, Nat.zero_le _, rfl, rfl, Ext.refl _⟩
  case round =>
    obtain ⟨k, hk, rfl, rfl, hx⟩ := hrel
    have hbd := sP_bd HB.out HPS.out k (by omega)
    by_cases hlt : k < ps.length
    · obtain ⟨b, off, ha, _, e1⟩ := (HP.out.ext hx).get k hlt
      have hwz := wt_bd HB.out (j := k) (by omega)
      have hpk := HPS.out _ (List.getElem_mem hlt)
      have HS := Lib.hid (show sP zs ps (k + 1) = sP zs ps k + ((ps[k] : Nat) : Int) * wt zs k by rw [sP, List.getD_eq_getElem?_getD, List.getElem?_eq_getElem hlt]; rfl)
      have hmb := mul_bd (a := ((ps[k] : Nat) : Int)) (by omega) (by omega) hwz.1 hwz.2
      have HWK := Lib.hid (HWA.out k (by omega))
      obtain ⟨S, hS⟩ : ∃ S, S = sP zs ps k := ⟨_, rfl⟩
      obtain ⟨d, hd⟩ : ∃ d, d = ps[k] := ⟨_, rfl⟩
      obtain ⟨z, hz⟩ : ∃ z, z = wt zs k := ⟨_, rfl⟩
      rw [← hS] at HS hbd ⊢
      rw [← hd] at HS hmb hpk e1
      rw [← hz] at HS hmb hwz HWK
      obtain ⟨q, hq⟩ : ∃ q, q = (d : Int) * z := ⟨_, rfl⟩
      rw [← hq] at HS hmb
      have hq2 : (d : Int) * z = q := hq.symm
      have wq : IntKind.i64.wrap q = q := by simp only [IntKind.wrap_i64]; omega
      subst ha
      clear hS hd hz hq
      obtain ⟨c1, c2⟩ := sc_cells hx
      go_wp2_with (go_at_call 82; refine (HWK.out _ hx).mono ?_; rintro e w2 ⟨rfl, x2⟩)
      go_roundw
      case rel => exact ⟨k + 1, by omega, by go_num, by rw [HS.out], hx.trans x2⟩
      case measure => simp [intOf]; omega
    · obtain rfl : k = ps.length := by omega
      go_wp2
      go_ret
      exact ⟨rfl, X0.out.trans hx⟩

set_option maxHeartbeats 1000000 in
theorem isRightM_any (m : Int) (v : Value) (zs : List Int) (pv : Value) (ps : List Nat) (w : World) (h : IntsA w v zs) (hb : SchB m zs) (hp : Ps w pv ps) (hps : ∀ p ∈ ps, p ≤ 10) (hlen : ps.length ≤ zs.length + 1) : Calls Try.prog 53 #[.agg #[.int .i64 m, v], pv] w fun e w' => e = .returned (.bool (decide (sP zs ps ps.length % m = 0))) ∧ Ext w w' := by
  have X0 := Lib.hid (show Ext w (w.alloc (.cells #[.int .i64 m, v] 27)) from (Ext.refl w).alloc _)
  have H := Lib.hid (h.ext X0.out)
  have HP := Lib.hid (hp.ext X0.out)
  have hm1 := hb.m1
  have hm2 := hb.m2
  have hl2 := hb.l2
  have hbd := sP_bd hb hps ps.length hlen
  have HSO := Lib.hid (fun w' (x : Ext (w.alloc (.cells #[.int .i64 m, v] 27)) w') => sumOf_any m v zs pv ps w' (H.out.ext x) hb (HP.out.ext x) hps hlen)
  have HSN := Lib.hid (fun (w' : World) (x' : Ext (w.alloc (.cells #[.int .i64 m, v] 27)) w') => (show (w'.cell? ⟨w.heap.size, 0, none⟩ = some (.int .i64 m) ∧ w'.cell? ⟨w.heap.size, 1, none⟩ = some v) ∧ Ext (w.alloc (.cells #[.int .i64 m, v] 27)) w' from ⟨sc_cells x', x'⟩))
  obtain ⟨T, hT⟩ : ∃ T, T = sP zs ps ps.length := ⟨_, rfl⟩
  rw [← hT] at HSO hbd ⊢
  have q0 : Int.tmod T m = T % m := Int.tmod_eq_emod_of_nonneg hbd.1
  have hmne : ¬ m = 0 := by omega
  clear hT hb h hp hps
  go_enter Try.func53, Try.ntmps53
  go_wp2
  go_region_held3 (fun w' => (w'.cell? ⟨w.heap.size, 0, none⟩ = some (.int .i64 m) ∧ w'.cell? ⟨w.heap.size, 1, none⟩ = some v) ∧ Ext (w.alloc (.cells #[.int .i64 m, v] 27)) w') (first | assumption | exact HSN.out _ (Ext.refl _).drew | exact HSN.out _ (Ext.trans (And.right (by assumption)) x6)) (first | (go_at_call 57; refine (HSO.out _ (And.right (by assumption))).mono ?_; rintro e w6 ⟨rfl, x6⟩))
  all_goals (rename_i hHeld)
  all_goals (have hE := X0.out.trans hHeld.2)
  all_goals clear hHeld
  all_goals go_wp2
  all_goals go_ret
  all_goals exact ⟨ret_bool rfl, hE⟩

set_option maxHeartbeats 1000000 in
theorem areDigO_any (m : Int) (v : Value) (zs : List Int) (s : ByteArray) (w : World) (h : IntsA w v zs) (hm : -9223372036854775808 ≤ m ∧ m ≤ 9223372036854775807) (hs : s.size ≤ maxLen) : Calls Try.prog 79 #[.agg #[.int .i64 m, v], .string s] w fun e w' => e = .returned (.bool (isSch m zs && isDg zs.length zs.length s)) ∧ Ext w w' := by
  have X0 := Lib.hid (show Ext w (w.alloc (.cells #[.int .i64 m, v] 27)) from (Ext.refl w).alloc _)
  have HG := Lib.hid (isSch_any m v zs _ (h.ext X0.out) hm)
  have hl := h.1
  unfold maxLen at hl
  obtain ⟨a, cap, hv⟩ := h.at
  rw [hv] at X0 HG ⊢
  clear hv h
  cases h1 : isSch m zs
  · rw [h1] at HG
    clear h1
    go_enter Try.func79, Try.ntmps79
    go_wp2_with (go_at_call 16; refine HG.out.mono ?_; rintro e w1 ⟨rfl, x1⟩)
    go_ret
    exact ⟨rfl, X0.out.trans x1⟩
  · rw [h1] at HG
    clear h1
    go_enter Try.func79, Try.ntmps79
    go_wp2_with (first | (go_at_call 16; refine HG.out.mono ?_; rintro e w1 ⟨rfl, x1⟩; obtain ⟨c1, c2⟩ := sc_cells x1) | (go_at_call 88; refine (areDig_any _ _ _ _ hs).mono ?_; rintro e w2 ⟨rfl, rfl⟩))
    go_ret
    exact ⟨by rw [Bool.true_and]; rfl, X0.out.trans x1⟩

set_option maxRecDepth 100000 in
set_option maxHeartbeats 1000000 in
theorem isNumber_any (m : Int) (v : Value) (zs : List Int) (s : ByteArray) (w : World) (h : IntsA w v zs) (hm : -9223372036854775808 ≤ m ∧ m ≤ 9223372036854775807) (hs : s.size ≤ maxLen) : Calls Try.prog 52 #[.agg #[.int .i64 m, v], .string s] w fun e w' => e = .returned (.bool (isNum m zs s)) ∧ Ext w w' := by
  have h63 : s.size ≤ 9223372036854775807 := hs
  have X0 := Lib.hid (show Ext w (w.alloc (.cells #[.int .i64 m, v] 27)) from (Ext.refl w).alloc _)
  have HI := Lib.hid (h.ext X0.out)
  have hl := h.1
  unfold maxLen at hl
  obtain ⟨a, cap, hv⟩ := h.at
  rw [hv] at X0 HI ⊢
  clear hv h
  by_cases h2 : zs.length < s.size
  · have hxs : (s.extract 0 zs.length).size = zs.length := exto_size (by omega)
    have hxm : (s.extract 0 zs.length).size ≤ maxLen := by rw [hxs]; omega
    have HG := Lib.hid (fun w' (x : Ext (w.alloc (.cells #[.int .i64 m, .slice a zs.length cap] 27)) w') => (show Calls Try.prog 79 #[.agg #[.int .i64 m, .slice a zs.length cap], .string (s.extract 0 zs.length)] w' fun e w2 => e = .returned (.bool (isSch m zs && allDg (s.extract 0 zs.length))) ∧ Ext w' w2 from by
      have := areDigO_any m (.slice a zs.length cap) zs (s.extract 0 zs.length) w' (HI.out.ext x) hm hxm
      rw [isDg_all (by omega) (by omega)] at this
      exact this))
    have h2i : (zs.length : Int) < (s.size : Int) := by omega
    have td : decide ((zs.length : Int) < (s.size : Int)) = true := decide_eq_true h2i
    have hsl0 : ∀ w, (Instr.slice 9 (.string s) none (some (.int .i64 (zs.length : Int))) none).run Try.prog w = .ok (.string (s.extract 0 zs.length)) w := fun w => by
      have a2 : (zs.length : Int) ≤ (s.size : Int) := by omega
      have a4 : (0 : Int) ≤ (zs.length : Int) := by omega
      have a5 : zs.length ≤ s.size := by omega
      simp [go_sem, a5]
    have hsl1 := fun w => slFrC s zs.length (by omega) w
    have hys : (s.extract zs.length s.size).size = s.size - zs.length := by
      have hd : (s.extract zs.length s.size).data = s.data.extract zs.length s.size := ByteArray.data_extract
      show (s.extract zs.length s.size).data.size = s.size - zs.length
      rw [hd, Array.size_extract]
      have : s.data.size = s.size := rfl
      omega
    have HNS := Lib.hid (fun h => isNum_s (m := m) (zs := zs) (s := s) h)
    have HND := Lib.hid (fun h => isNum_d (m := m) (zs := zs) (s := s) h)
    cases h1 : isSch m zs && allDg (s.extract 0 zs.length)
    · have HV := Lib.hid (show isNum m zs s = false from by
        rw [Bool.and_eq_false_iff] at h1
        rcases h1 with h1 | h1
        · exact HNS.out h1
        · exact HND.out h1)
      rw [h1] at HG
      clear h1 hys hxs hsl1
      go_enter Try.func52, Try.ntmps52
      go_wp2
      first | (go_region_with (go_at_call 79; refine (HG.out _ (ext_drewN (Ext.refl _) _)).mono ?_; rintro e w1 ⟨rfl, x1⟩)) | fail
      all_goals go_wp2
      all_goals go_ret
      all_goals exact ⟨ret_bool HV.out.symm, X0.out.trans (Ext.trans (ext_drewN (Ext.refl _) _) x1)⟩
    · rw [h1] at HG
      rw [Bool.and_eq_true] at h1
      have HV := Lib.hid (show oneSg (s.extract zs.length s.size) = isNum m zs s from by
        by_cases e : s.size = zs.length + 1
        · unfold oneSg isNum
          rw [h1.1, h1.2, decide_eq_true e, decide_eq_true (by omega)]
          simp only [Bool.true_and]
          congr 1
          have := congrArg (fun (l : List UInt8) => l.getD 0 0) (show (s.extract zs.length s.size).data.toList = s.data.toList.drop zs.length by
            rw [ByteArray.data_extract]
            simp
            exact List.take_of_length_le (by rw [List.length_drop]; simp))
          rw [show (s.extract zs.length s.size).data.toList.getD 0 0 = (s.data.toList.drop zs.length).getD 0 0 from this]
          simp [List.getD_eq_getElem?_getD, List.getElem?_drop]
        · rw [isNum_l e, oneSg_no (by omega)])
      clear h1
      have HSN := Lib.hid (fun (w' : World) (x' : Ext (w.alloc (.cells #[.int .i64 m, .slice a zs.length cap] 27)) w') => (show (w'.cell? ⟨w.heap.size, 0, none⟩ = some (.int .i64 m) ∧ w'.cell? ⟨w.heap.size, 1, none⟩ = some (.slice a zs.length cap)) ∧ Ext (w.alloc (.cells #[.int .i64 m, .slice a zs.length cap] 27)) w' from ⟨sc_cells x', x'⟩))
      go_enter Try.func52, Try.ntmps52
      go_wp2
      go_region_held3 (fun w' => (w'.cell? ⟨w.heap.size, 0, none⟩ = some (.int .i64 m) ∧ w'.cell? ⟨w.heap.size, 1, none⟩ = some (.slice a zs.length cap)) ∧ Ext (w.alloc (.cells #[.int .i64 m, .slice a zs.length cap] 27)) w') (first | assumption | exact HSN.out _ (Ext.refl _).drew | exact HSN.out _ (Ext.trans (And.right (by assumption)) x6)) (first | (go_at_call 79; refine (HG.out _ (And.right (by assumption))).mono ?_; rintro e w6 ⟨rfl, x6⟩) | (go_at_call 80; refine (isCheck_any _ _ (by rw [hys]; unfold maxLen; omega)).mono ?_; rintro e w6 ⟨rfl, rfl⟩; have x6 := Ext.refl w6))
      all_goals (rename_i hHeld)
      all_goals (have hE := X0.out.trans hHeld.2)
      all_goals clear hHeld
      all_goals go_wp2
      all_goals go_ret
      all_goals exact ⟨ret_bool HV.out, hE⟩
  · have h2i : ¬ (zs.length : Int) < (s.size : Int) := by omega
    have td : decide ((zs.length : Int) < (s.size : Int)) = false := decide_eq_false h2i
    have HV := Lib.hid (isNum_l (m := m) (zs := zs) (s := s) (by omega))
    go_enter Try.func52, Try.ntmps52
    go_wp2
    go_quiet (fail)
    all_goals go_wp2
    all_goals go_ret
    all_goals exact ⟨ret_bool HV.out.symm, X0.out.trans (ext_drewN (Ext.refl _) _)⟩

end Go.Proofs.Ytdhcknknmloopaa
