/- Digits that a scheme misses, at a place: the answers of the program and of its model. No conditions. -/
import Derived.Test.YtdhcknknmloopaaMis
namespace Go.Proofs.Ytdhcknknmloopaa
open Go.RowKit

def m1Ok (m : Int) (zs : List Int) (p : Int) : Bool := isSch m zs && inW p 0 ((zs.length : Int) - 1)
def m2Ok (m : Int) (zs : List Int) (p : Int) : Bool := isSch m zs && inW p 0 ((zs.length : Int) - 2)
def m1V (m : Int) (zs : List Int) (p : Int) : List (List Int) := if m1Ok m zs p = true then prs (pM m (zs.getD p.toNat 0)) else []
def m2V (m : Int) (zs : List Int) (p : Int) : List (List Int) := if m2Ok m zs p = true then prs (pM m (zs.getD p.toNat 0 - zs.getD (p.toNat + 1) 0)) else []
theorem m1V_no {m : Int} {zs : List Int} {p : Int} (h : m1Ok m zs p = false) : m1V m zs p = [] := by unfold m1V; rw [h]; rfl
theorem m2V_no {m : Int} {zs : List Int} {p : Int} (h : m2Ok m zs p = false) : m2V m zs p = [] := by unfold m2V; rw [h]; rfl
theorem getZ {zs : List Int} {j : Nat} (h : j < zs.length) : zs.getD j 0 = zs[j] := by rw [List.getD_eq_getElem?_getD, List.getElem?_eq_getElem h]; rfl
theorem m1V_yes {m : Int} {zs : List Int} {j : Nat} (h : m1Ok m zs (j : Int) = true) (hj : j < zs.length) : m1V m zs (j : Int) = prs (pM m zs[j]) := by
  unfold m1V
  rw [if_pos h, Int.toNat_natCast, getZ hj]
theorem m2V_yes {m : Int} {zs : List Int} {j : Nat} (h : m2Ok m zs (j : Int) = true) (hj : j + 1 < zs.length) : m2V m zs (j : Int) = prs (pM m (zs[j] - zs[j + 1])) := by
  unfold m2V
  rw [if_pos h, Int.toNat_natCast, getZ (show j < zs.length by omega), getZ hj]
theorem res_nil (ok : Bool) (w w' : World) (x : Ext w w') (L : List (List Int)) (h : L = []) : ResII L ok w (.returned (.tuple #[.slice none 0 0, .bool ok])) w' := ⟨_, fun _ => .slice none 0 0, rfl, by rw [h]; exact RowF.nil _ _ _ _, x⟩

set_option maxRecDepth 100000 in
set_option maxHeartbeats 2000000 in
theorem m1S_any (m : Int) (v : Value) (zs : List Int) (p : Int) (w : World) (h : IntsA w v zs) (hm : -9223372036854775808 ≤ m ∧ m ≤ 9223372036854775807) : Calls Try.prog 22 #[.agg #[.int .i64 m, v], .int .i64 p] w (ResII (m1V m zs p) (m1Ok m zs p) w) := by
  have X0 := Lib.hid (show Ext w (w.alloc (.cells #[.int .i64 m, v] 27)) from (Ext.refl w).alloc _)
  have H := Lib.hid (h.ext X0.out)
  have HG := Lib.hid (ckGood_any m v zs _ (h.ext X0.out) hm)
  have hl := h.1
  unfold maxLen at hl
  obtain ⟨a, cap, hv⟩ := h.at
  rw [hv] at X0 H HG ⊢
  clear hv h
  cases h1 : isSch m zs
  · have HO := Lib.hid (show m1Ok m zs p = false by unfold m1Ok; rw [h1]; rfl)
    have HV := Lib.hid (m1V_no HO.out)
    rw [h1] at HG
    clear h1
    go_enter Try.func22, Try.ntmps22
    go_wp2_with (go_at_call 44; refine HG.out.mono ?_; rintro e w1 ⟨rfl, x1⟩)
    go_ret2
    rw [HO.out]
    exact res_nil _ _ _ (X0.out.trans x1) _ HV.out
  rw [h1] at HG
  have HB := Lib.hid (isSch_bd h1)
  have hl2 := HB.out.l2
  have hmb : 2 ≤ m ∧ m ≤ 13 := ⟨HB.out.m1, HB.out.m2⟩
  cases h2 : inW p 0 ((zs.length : Int) - 1)
  · have HO := Lib.hid (show m1Ok m zs p = false by unfold m1Ok; rw [h2, Bool.and_false])
    have HV := Lib.hid (m1V_no HO.out)
    go_enter Try.func22, Try.ntmps22
    go_wp2_with (first | (go_at_call 44; refine HG.out.mono ?_; rintro e w1 ⟨rfl, x1⟩; obtain ⟨c1, c2⟩ := sc_cells x1) | (go_at_call 58; refine (inW_any _ _ _ _).mono ?_; rintro e w2 ⟨rfl, rfl⟩; rw [h2]))
    go_ret2
    rw [HO.out]
    exact res_nil _ _ _ (X0.out.trans x1) _ HV.out
  have hpb := inW_bd h2
  obtain ⟨j, hj⟩ : ∃ j : Nat, p = (j : Int) := ⟨p.toNat, by omega⟩
  subst hj
  have hjn : j < zs.length := by omega
  have HO := Lib.hid (show m1Ok m zs (j : Int) = true by unfold m1Ok; rw [h1, h2]; rfl)
  have HV := Lib.hid (m1V_yes HO.out hjn)
  obtain ⟨b, off, ha, hbs, e1⟩ := H.out.get2 j hjn
  have htb := wz_bd HB.out hjn
  obtain ⟨t, ht⟩ : ∃ t, t = zs[j] := ⟨_, rfl⟩
  rw [← ht] at e1 htb HV
  subst ha
  have hjl : (j : Int) < (zs.length : Int) := by omega
  clear ht
  have HM := Lib.hid (fun w' => ckMissed_any t m w' hmb htb)
  obtain ⟨L, hL⟩ : ∃ L, L = prs (pM m t) := ⟨_, rfl⟩
  rw [← hL] at HM HV
  have HSN := Lib.hid (fun (w' : World) (x' : Ext (w.alloc (.cells #[.int .i64 m, .slice (some ⟨b, off, none⟩) zs.length cap] 27)) w') => (show ((w'.cell? ⟨w.heap.size, 0, none⟩ = some (.int .i64 m) ∧ w'.cell? ⟨w.heap.size, 1, none⟩ = some (.slice (some ⟨b, off, none⟩) zs.length cap)) ∧ w'.cell? ⟨b, off + j, none⟩ = some (.int .i64 t)) ∧ Ext (w.alloc (.cells #[.int .i64 m, .slice (some ⟨b, off, none⟩) zs.length cap] 27)) w' from ⟨⟨sc_cells x', (x'.cell (p := ⟨b, off + j, none⟩) hbs).trans e1⟩, x'⟩))
  clear hL h1 hpb
  go_enter Try.func22, Try.ntmps22
  go_wp2_with (first | (go_at_call 44; refine HG.out.mono ?_; rintro e w1 ⟨rfl, x1⟩; obtain ⟨⟨⟨c1, c2⟩, c3⟩, _⟩ := HSN.out _ x1) | (go_at_call 58; refine (inW_any _ _ _ _).mono ?_; rintro e w2 ⟨rfl, rfl⟩; rw [h2]))
  go_region_held3 (fun w' => ((w'.cell? ⟨w.heap.size, 0, none⟩ = some (.int .i64 m) ∧ w'.cell? ⟨w.heap.size, 1, none⟩ = some (.slice (some ⟨b, off, none⟩) zs.length cap)) ∧ w'.cell? ⟨b, off + j, none⟩ = some (.int .i64 t)) ∧ Ext (w.alloc (.cells #[.int .i64 m, .slice (some ⟨b, off, none⟩) zs.length cap] 27)) w') (first | assumption | exact HSN.out _ (x1.trans (Ext.refl _).drew) | exact HSN.out _ (Ext.trans (And.right (by assumption)) x6)) (first | (go_at_call 59; refine (HM.out _).mono ?_; rintro e w6 ⟨u, U, rfl, hr, x6⟩))
  all_goals (rename_i hHeld)
  all_goals (have hE := X0.out.trans hHeld.2)
  all_goals clear hHeld
  all_goals go_wp2
  all_goals go_ret2
  all_goals (rw [HO.out])
  all_goals exact ⟨_, U, rfl, by rw [HV.out]; exact hr.down (by have := x1.size; simp at this ⊢; omega), hE⟩

set_option maxRecDepth 100000 in
set_option maxHeartbeats 2000000 in
theorem m2S_any (m : Int) (v : Value) (zs : List Int) (p : Int) (w : World) (h : IntsA w v zs) (hm : -9223372036854775808 ≤ m ∧ m ≤ 9223372036854775807) : Calls Try.prog 28 #[.agg #[.int .i64 m, v], .int .i64 p] w (ResII (m2V m zs p) (m2Ok m zs p) w) := by
  have X0 := Lib.hid (show Ext w (w.alloc (.cells #[.int .i64 m, v] 27)) from (Ext.refl w).alloc _)
  have H := Lib.hid (h.ext X0.out)
  have HG := Lib.hid (ckGood_any m v zs _ (h.ext X0.out) hm)
  have hl := h.1
  unfold maxLen at hl
  obtain ⟨a, cap, hv⟩ := h.at
  rw [hv] at X0 H HG ⊢
  clear hv h
  cases h1 : isSch m zs
  · have HO := Lib.hid (show m2Ok m zs p = false by unfold m2Ok; rw [h1]; rfl)
    have HV := Lib.hid (m2V_no HO.out)
    rw [h1] at HG
    clear h1
    go_enter Try.func28, Try.ntmps28
    go_wp2_with (go_at_call 44; refine HG.out.mono ?_; rintro e w1 ⟨rfl, x1⟩)
    go_ret2
    rw [HO.out]
    exact res_nil _ _ _ (X0.out.trans x1) _ HV.out
  rw [h1] at HG
  have HB := Lib.hid (isSch_bd h1)
  have hl2 := HB.out.l2
  have hmb : 2 ≤ m ∧ m ≤ 13 := ⟨HB.out.m1, HB.out.m2⟩
  cases h2 : inW p 0 ((zs.length : Int) - 2)
  · have HO := Lib.hid (show m2Ok m zs p = false by unfold m2Ok; rw [h2, Bool.and_false])
    have HV := Lib.hid (m2V_no HO.out)
    go_enter Try.func28, Try.ntmps28
    go_wp2_with (first | (go_at_call 44; refine HG.out.mono ?_; rintro e w1 ⟨rfl, x1⟩; obtain ⟨c1, c2⟩ := sc_cells x1) | (go_at_call 58; refine (inW_any _ _ _ _).mono ?_; rintro e w2 ⟨rfl, rfl⟩; rw [h2]))
    go_ret2
    rw [HO.out]
    exact res_nil _ _ _ (X0.out.trans x1) _ HV.out
  have hpb := inW_bd h2
  obtain ⟨j, hj⟩ : ∃ j : Nat, p = (j : Int) := ⟨p.toNat, by omega⟩
  subst hj
  have hjn : j + 1 < zs.length := by omega
  have HO := Lib.hid (show m2Ok m zs (j : Int) = true by unfold m2Ok; rw [h1, h2]; rfl)
  have HV := Lib.hid (m2V_yes HO.out hjn)
  obtain ⟨b, off, ha, hbs, e1⟩ := H.out.get2 j (by omega)
  obtain ⟨b2, off2, ha2, _, e2⟩ := H.out.get2 (j + 1) hjn
  rw [ha] at ha2
  injection ha2 with ha2
  injection ha2 with hb2 ho2
  subst hb2; subst ho2
  have hz1 := wz_bd HB.out (show j < zs.length by omega)
  have hy1 := wz_bd HB.out hjn
  have htb := wd_bd HB.out (show j < zs.length by omega) hjn
  obtain ⟨t, ht⟩ : ∃ t, t = zs[j] - zs[j + 1] := ⟨_, rfl⟩
  rw [← ht] at htb HV
  obtain ⟨z, hz⟩ : ∃ z, z = zs[j] := ⟨_, rfl⟩
  obtain ⟨y, hy⟩ : ∃ y, y = zs[j + 1] := ⟨_, rfl⟩
  rw [← hz] at e1 ht hz1
  rw [← hy] at e2 ht hy1
  subst ha
  have hjl : (j : Int) < (zs.length : Int) := by omega
  obtain ⟨j1, hj1⟩ : ∃ j1, j1 = j + 1 := ⟨_, rfl⟩
  rw [← hj1] at e2
  have hjj : (j : Int) + 1 = (j1 : Int) := by omega
  have hjl1 : (j1 : Int) < (zs.length : Int) := by omega
  have hjn1 : j1 < zs.length := by omega
  have wj : IntKind.i64.wrap ((j : Int) + 1) = (j1 : Int) := by simp only [IntKind.wrap_i64]; omega
  have wj1 : IntKind.i64.wrap (j1 : Int) = (j1 : Int) := by simp only [IntKind.wrap_i64]; omega
  have hzy : z - y = t := ht.symm
  have wt' : IntKind.i64.wrap t = t := by simp only [IntKind.wrap_i64]; omega
  clear hz hy ht hj1
  have HM := Lib.hid (fun w' => ckMissed_any t m w' hmb htb)
  obtain ⟨L, hL⟩ : ∃ L, L = prs (pM m t) := ⟨_, rfl⟩
  rw [← hL] at HM HV
  have HSN := Lib.hid (fun (w' : World) (x' : Ext (w.alloc (.cells #[.int .i64 m, .slice (some ⟨b, off, none⟩) zs.length cap] 27)) w') => (show ((w'.cell? ⟨w.heap.size, 0, none⟩ = some (.int .i64 m) ∧ w'.cell? ⟨w.heap.size, 1, none⟩ = some (.slice (some ⟨b, off, none⟩) zs.length cap)) ∧ w'.cell? ⟨b, off + j, none⟩ = some (.int .i64 z) ∧ w'.cell? ⟨b, off + j1, none⟩ = some (.int .i64 y)) ∧ Ext (w.alloc (.cells #[.int .i64 m, .slice (some ⟨b, off, none⟩) zs.length cap] 27)) w' from ⟨⟨sc_cells x', ⟨(x'.cell (p := ⟨b, off + j, none⟩) hbs).trans e1, (x'.cell (p := ⟨b, off + j1, none⟩) hbs).trans e2⟩⟩, x'⟩))
  clear hL h1 hpb
  go_enter Try.func28, Try.ntmps28
  go_wp2_with (first | (go_at_call 44; refine HG.out.mono ?_; rintro e w1 ⟨rfl, x1⟩; obtain ⟨⟨⟨c1, c2⟩, c3⟩, _⟩ := HSN.out _ x1) | (go_at_call 58; refine (inW_any _ _ _ _).mono ?_; rintro e w2 ⟨rfl, rfl⟩; rw [h2]))
  go_region_held3 (fun w' => ((w'.cell? ⟨w.heap.size, 0, none⟩ = some (.int .i64 m) ∧ w'.cell? ⟨w.heap.size, 1, none⟩ = some (.slice (some ⟨b, off, none⟩) zs.length cap)) ∧ w'.cell? ⟨b, off + j, none⟩ = some (.int .i64 z) ∧ w'.cell? ⟨b, off + j1, none⟩ = some (.int .i64 y)) ∧ Ext (w.alloc (.cells #[.int .i64 m, .slice (some ⟨b, off, none⟩) zs.length cap] 27)) w') (first | assumption | exact HSN.out _ (x1.trans (Ext.refl _).drew) | exact HSN.out _ (Ext.trans (And.right (by assumption)) x6)) (first | (go_at_call 59; refine (HM.out _).mono ?_; rintro e w6 ⟨u, U, rfl, hr, x6⟩))
  all_goals (rename_i hHeld)
  all_goals (have hE := X0.out.trans hHeld.2)
  all_goals clear hHeld
  all_goals go_wp2
  all_goals go_ret2
  all_goals (rw [HO.out])
  all_goals exact ⟨_, U, rfl, by rw [HV.out]; exact hr.down (by have := x1.size; simp at this ⊢; omega), hE⟩

set_option maxRecDepth 100000 in
set_option maxHeartbeats 2000000 in
theorem m1I_any (m : Int) (v : Value) (zs : List Int) (p : Int) (w : World) (h : IntsA w v zs) (hm : -9223372036854775808 ≤ m ∧ m ≤ 9223372036854775807) : Calls Try.prog 23 #[.agg #[.int .i64 m, v], .int .i64 p] w (ResII (m1V m zs p) (m1Ok m zs p) w) := by
  have X0 := Lib.hid (show Ext w (w.alloc (.cells #[.int .i64 m, v] 27)) from (Ext.refl w).alloc _)
  have H := Lib.hid (h.ext X0.out)
  have HG := Lib.hid (hasW_any m v zs p _ (h.ext X0.out) hm)
  have hl := h.1
  unfold maxLen at hl
  clear h
  cases h1 : isSch m zs && inW p 0 ((zs.length : Int) - 1)
  · have HO := Lib.hid (show m1Ok m zs p = false from h1)
    have HV := Lib.hid (m1V_no HO.out)
    rw [h1] at HG
    clear h1
    go_enter Try.func23, Try.ntmps23
    go_wp2_with (go_at_call 60; refine HG.out.mono ?_; rintro e w1 ⟨rfl, x1⟩)
    go_ret2
    rw [HO.out]
    exact res_nil _ _ _ (X0.out.trans x1) _ HV.out
  have HO := Lib.hid (show m1Ok m zs p = true from h1)
  rw [h1] at HG
  rw [Bool.and_eq_true] at h1
  have hb := isSch_bd h1.1
  have hpb := inW_bd h1.2
  obtain ⟨j, hj⟩ : ∃ j : Nat, p = (j : Int) := ⟨p.toNat, by omega⟩
  subst hj
  have hjn : j < zs.length := by omega
  have HV := Lib.hid (m1V_yes HO.out hjn)
  have HMS := Lib.hid (fun w' (x : Ext (w.alloc (.cells #[.int .i64 m, v] 27)) w') => mSing_any m v zs j w' (H.out.ext x) hb hjn)
  obtain ⟨t, ht⟩ : ∃ t, t = zs[j] := ⟨_, rfl⟩
  rw [← ht] at HMS HV
  obtain ⟨L, hL⟩ : ∃ L, L = prs (pM m t) := ⟨_, rfl⟩
  rw [← hL] at HMS HV
  clear h1 hb ht hL
  go_enter Try.func23, Try.ntmps23
  go_wp2_with (first | (go_at_call 60; refine HG.out.mono ?_; rintro e w1 ⟨rfl, x1⟩; obtain ⟨c1, c2⟩ := sc_cells x1) | (go_at_call 61; refine (HMS.out _ x1).mono ?_; rintro e w2 ⟨u, U, rfl, hr, x2⟩))
  go_ret2
  rw [HO.out]
  exact ⟨_, U, rfl, by rw [HV.out]; exact hr.down (Nat.le_trans X0.out.size x1.size), X0.out.trans (x1.trans x2)⟩

set_option maxRecDepth 100000 in
set_option maxHeartbeats 2000000 in
theorem m2I_any (m : Int) (v : Value) (zs : List Int) (p : Int) (w : World) (h : IntsA w v zs) (hm : -9223372036854775808 ≤ m ∧ m ≤ 9223372036854775807) : Calls Try.prog 29 #[.agg #[.int .i64 m, v], .int .i64 p] w (ResII (m2V m zs p) (m2Ok m zs p) w) := by
  have X0 := Lib.hid (show Ext w (w.alloc (.cells #[.int .i64 m, v] 27)) from (Ext.refl w).alloc _)
  have H := Lib.hid (h.ext X0.out)
  have HG := Lib.hid (hasW_any m v zs p _ (h.ext X0.out) hm)
  have hl := h.1
  unfold maxLen at hl
  obtain ⟨a, cap, hv⟩ := h.at
  rw [hv] at X0 H HG ⊢
  clear hv h
  cases h1 : isSch m zs && inW p 0 ((zs.length : Int) - 1)
  · have HO := Lib.hid (show m2Ok m zs p = false by
      unfold m2Ok
      cases h3 : isSch m zs
      · rfl
      · rw [h3, Bool.true_and] at h1
        cases h4 : inW p 0 ((zs.length : Int) - 2)
        · rfl
        · have := inW_bd h4
          rw [inW_yes (by omega) (by omega)] at h1
          cases h1)
    have HV := Lib.hid (m2V_no HO.out)
    rw [h1] at HG
    clear h1
    go_enter Try.func29, Try.ntmps29
    go_wp2_with (go_at_call 60; refine HG.out.mono ?_; rintro e w1 ⟨rfl, x1⟩)
    go_ret2
    rw [HO.out]
    exact res_nil _ _ _ (X0.out.trans x1) _ HV.out
  rw [h1] at HG
  rw [Bool.and_eq_true] at h1
  have hb := isSch_bd h1.1
  have hl2 := hb.l2
  have hpb := inW_bd h1.2
  obtain ⟨j, hj⟩ : ∃ j : Nat, p = (j : Int) := ⟨p.toNat, by omega⟩
  subst hj
  by_cases hj1 : j + 1 = zs.length
  · have HO := Lib.hid (show m2Ok m zs (j : Int) = false by unfold m2Ok; rw [inW_hi (by omega), Bool.and_false])
    have HV := Lib.hid (m2V_no HO.out)
    have t1 : ((j : Int) == (zs.length : Int) - 1) = true := beq_iff_eq.2 (by omega)
    clear h1 hb hj1
    go_enter Try.func29, Try.ntmps29
    go_wp2_with (go_at_call 60; refine HG.out.mono ?_; rintro e w1 ⟨rfl, x1⟩; obtain ⟨c1, c2⟩ := sc_cells x1)
    go_ret2
    rw [HO.out]
    exact res_nil _ _ _ (X0.out.trans x1) _ HV.out
  have hjn : j + 1 < zs.length := by omega
  have t1 : ((j : Int) == (zs.length : Int) - 1) = false := beq_eq_false_iff_ne.2 (by omega)
  have HO := Lib.hid (show m2Ok m zs (j : Int) = true by unfold m2Ok; rw [h1.1, inW_yes (by omega) (by omega)]; rfl)
  have HV := Lib.hid (m2V_yes HO.out hjn)
  have HMS := Lib.hid (fun w' (x : Ext (w.alloc (.cells #[.int .i64 m, .slice a zs.length cap] 27)) w') => mSwap_any m (.slice a zs.length cap) zs j w' (H.out.ext x) hb hjn)
  obtain ⟨t, ht⟩ : ∃ t, t = zs[j] - zs[j + 1] := ⟨_, rfl⟩
  rw [← ht] at HMS HV
  obtain ⟨L, hL⟩ : ∃ L, L = prs (pM m t) := ⟨_, rfl⟩
  rw [← hL] at HMS HV
  clear h1 hb ht hL hj1
  go_enter Try.func29, Try.ntmps29
  go_wp2_with (first | (go_at_call 60; refine HG.out.mono ?_; rintro e w1 ⟨rfl, x1⟩; obtain ⟨c1, c2⟩ := sc_cells x1) | (go_at_call 64; refine (HMS.out _ x1).mono ?_; rintro e w2 ⟨u, U, rfl, hr, x2⟩))
  go_ret2
  rw [HO.out]
  exact ⟨_, U, rfl, by rw [HV.out]; exact hr.down (Nat.le_trans X0.out.size x1.size), X0.out.trans (x1.trans x2)⟩

theorem nilOr {L : List (List Int)} (h : L = [] ∨ ∃ P, L = prs P) : L.length ≤ 1000 ∧ (∀ i, i < L.length → (tl L i).length ≤ 1048576) ∧ tot (tl L) L.length ≤ 1000000 := by
  rcases h with h | ⟨P, h⟩
  · subst h
    exact ⟨by simp, fun i hi => absurd hi (by simp), by simp [tot]⟩
  · have a := prs_len P
    have b := prs_at P
    have c := prs_tot P
    rw [← h] at a b c
    exact ⟨Nat.le_trans a (by decide), b, c⟩
theorem m1V_or (m : Int) (zs : List Int) (p : Int) : m1V m zs p = [] ∨ ∃ P, m1V m zs p = prs P := by
  cases h : m1Ok m zs p
  · exact .inl (m1V_no h)
  · exact .inr ⟨pM m (zs.getD p.toNat 0), by unfold m1V; rw [if_pos h]⟩
theorem m2V_or (m : Int) (zs : List Int) (p : Int) : m2V m zs p = [] ∨ ∃ P, m2V m zs p = prs P := by
  cases h : m2Ok m zs p
  · exact .inl (m2V_no h)
  · exact .inr ⟨pM m (zs.getD p.toNat 0 - zs.getD (p.toNat + 1) 0), by unfold m2V; rw [if_pos h]⟩
end Go.Proofs.Ytdhcknknmloopaa
