/- Digits that a scheme misses, at a place: the program's and the model's. No conditions. -/
import Derived.Test.YtdhcknknmloopaaPrI
import Derived.Test.YtdhcknknmloopaaNumP
namespace Go.Proofs.Ytdhcknknmloopaa
open Go.RowKit

theorem sc_heap {w w' : World} {m : Int} {u : Value} {T : TypeId} (x : Ext (w.alloc (.cells #[.int .i64 m, u] T)) w') : w'.heap[w.heap.size]? = some (.cells #[.int .i64 m, u] T) := (x.block w.heap.size (by simp)).trans (heap_alloc_new w _)

set_option maxHeartbeats 1000000 in
theorem pairsM_any (m t : Int) (v : Value) (w : World) (hm : 2 ≤ m ∧ m ≤ 13) (ht : -13 ≤ t ∧ t ≤ 13) : Calls Try.prog 84 #[.agg #[.int .i64 m, v], .int .i64 t] w (OneII (prs (pM m t)) w) := by
  have X0 := Lib.hid (show Ext w ((w.alloc (.cells #[.int .i64 m, v] 27)).alloc (.cells #[.int .i64 t] 3)) from ((Ext.refl w).alloc _).alloc _)
  have HC := Lib.hid (dpM_any (pM m t) w.heap.size (w.heap.size + 1) ((w.alloc (.cells #[.int .i64 m, v] 27)).alloc (.cells #[.int .i64 t] 3)) (fun a b w' x hab hb => by
    have h1 : w'.heap[w.heap.size]? = some (.cells #[.int .i64 m, v] 27) := (x.block w.heap.size (by simp; omega)).trans (by rw [heap_alloc_old _ _ (by simp)]; exact heap_alloc_new w _)
    have h2 : w'.heap[w.heap.size + 1]? = some (.cells #[.int .i64 t] 3) := (x.block (w.heap.size + 1) (by simp)).trans (heap_alloc2_new w _ _)
    exact pmC_any m t w.heap.size (w.heap.size + 1) a b w' (cell_of h1 (j := 0) rfl).1 (cell_of h2 (j := 0) rfl).1 hm ht hab hb))
  obtain ⟨L, hL⟩ : ∃ L, L = prs (pM m t) := ⟨_, rfl⟩
  rw [← hL] at HC ⊢
  clear hL
  go_enter Try.func84, Try.ntmps84
  go_wp2_with (go_at_call 66; refine HC.out.mono ?_; rintro e w1 ⟨u, U, rfl, hr, x1⟩)
  go_ret
  exact ⟨_, U, rfl, hr.down (X0.out.size), X0.out.trans x1⟩

theorem hasW_any (m : Int) (v : Value) (zs : List Int) (p : Int) (w : World) (h : IntsA w v zs) (hm : -9223372036854775808 ≤ m ∧ m ≤ 9223372036854775807) : Calls Try.prog 60 #[.agg #[.int .i64 m, v], .int .i64 p] w fun e w' => e = .returned (.bool (isSch m zs && inW p 0 ((zs.length : Int) - 1))) ∧ Ext w w' := by
  have X0 := Lib.hid (show Ext w (w.alloc (.cells #[.int .i64 m, v] 27)) from (Ext.refl w).alloc _)
  have HG := Lib.hid (isSch_any m v zs _ (h.ext X0.out) hm)
  have hl := h.1
  unfold maxLen at hl
  obtain ⟨a, cap, hv⟩ := h.at
  rw [hv] at X0 HG ⊢
  clear hv h
  cases h1 : isSch m zs
  · rw [h1] at HG
    clear h1
    go_enter Try.func60, Try.ntmps60
    go_wp2_with (go_at_call 16; refine HG.out.mono ?_; rintro e w1 ⟨rfl, x1⟩)
    go_ret
    exact ⟨rfl, X0.out.trans x1⟩
  · rw [h1] at HG
    clear h1
    by_cases h2 : 0 ≤ p
    · by_cases h3 : p < (zs.length : Int)
      · have HV := Lib.hid (inW_yes (n := p) (lo := 0) (hi := (zs.length : Int) - 1) h2 (by omega))
        go_enter Try.func60, Try.ntmps60
        go_wp2_with (go_at_call 16; refine HG.out.mono ?_; rintro e w1 ⟨rfl, x1⟩; obtain ⟨c1, c2⟩ := sc_cells x1)
        go_ret
        exact ⟨ret_bool (by rw [HV.out] <;> simp), X0.out.trans x1⟩
      · have HV := Lib.hid (inW_hi (n := p) (lo := 0) (hi := (zs.length : Int) - 1) (by omega))
        go_enter Try.func60, Try.ntmps60
        go_wp2_with (go_at_call 16; refine HG.out.mono ?_; rintro e w1 ⟨rfl, x1⟩; obtain ⟨c1, c2⟩ := sc_cells x1)
        go_ret
        exact ⟨ret_bool (by rw [HV.out] <;> simp <;> omega), X0.out.trans x1⟩
    · have HV := Lib.hid (inW_lo (n := p) (lo := 0) (hi := (zs.length : Int) - 1) (by omega))
      go_enter Try.func60, Try.ntmps60
      go_wp2_with (go_at_call 16; refine HG.out.mono ?_; rintro e w1 ⟨rfl, x1⟩; obtain ⟨c1, c2⟩ := sc_cells x1)
      go_ret
      exact ⟨ret_bool (by rw [HV.out] <;> simp), X0.out.trans x1⟩

theorem wz_bd {m : Int} {zs : List Int} (h : SchB m zs) {j : Nat} (hj : j < zs.length) : -13 ≤ zs[j] ∧ zs[j] ≤ 13 := by
  have := h.at_ j hj
  have := h.m2
  omega
theorem wd_bd {m : Int} {zs : List Int} (h : SchB m zs) {i j : Nat} (hi : i < zs.length) (hj : j < zs.length) : -13 ≤ zs[i] - zs[j] ∧ zs[i] - zs[j] ≤ 13 := by
  have := h.at_ j hj
  have := h.at_ i hi
  have := h.m2
  omega

set_option maxHeartbeats 2000000 in
theorem mSing_any (m : Int) (v : Value) (zs : List Int) (j : Nat) (w : World) (h : IntsA w v zs) (hb : SchB m zs) (hj : j < zs.length) : Calls Try.prog 61 #[.agg #[.int .i64 m, v], .int .i64 (j : Int)] w (OneII (prs (pM m (zs[j]))) w) := by
  have X0 := Lib.hid (show Ext w (w.alloc (.cells #[.int .i64 m, v] 27)) from (Ext.refl w).alloc _)
  have H := Lib.hid (h.ext X0.out)
  have hzb := wz_bd hb hj
  have hmb : 2 ≤ m ∧ m ≤ 13 := ⟨hb.m1, hb.m2⟩
  have hl2 := hb.l2
  obtain ⟨t, ht⟩ : ∃ t, t = zs[j] := ⟨_, rfl⟩
  rw [← ht] at hzb ⊢
  have HP := Lib.hid (fun w' => pairsM_any m t v w' hmb hzb)
  obtain ⟨L, hL⟩ : ∃ L, L = prs (pM m t) := ⟨_, rfl⟩
  rw [← hL] at HP ⊢
  obtain ⟨a, cap, hv⟩ := h.at
  rw [hv] at X0 H HP ⊢
  obtain ⟨b, off, ha, hbs, e1⟩ := H.out.get2 j hj
  rw [← ht] at e1
  obtain ⟨z, hz⟩ : ∃ z, z = t := ⟨_, rfl⟩
  rw [← hz] at e1 HP hzb
  clear hz ht
  subst ha
  have hjl : (j : Int) < (zs.length : Int) := by omega
  have HSN := Lib.hid (fun (w' : World) (x' : Ext (w.alloc (.cells #[.int .i64 m, .slice (some ⟨b, off, none⟩) zs.length cap] 27)) w') => (show ((w'.cell? ⟨w.heap.size, 0, none⟩ = some (.int .i64 m) ∧ w'.cell? ⟨w.heap.size, 1, none⟩ = some (.slice (some ⟨b, off, none⟩) zs.length cap)) ∧ w'.cell? ⟨b, off + j, none⟩ = some (.int .i64 z)) ∧ Ext (w.alloc (.cells #[.int .i64 m, .slice (some ⟨b, off, none⟩) zs.length cap] 27)) w' from ⟨⟨sc_cells x', (x'.cell (p := ⟨b, off + j, none⟩) hbs).trans e1⟩, x'⟩))
  clear hL hv h hmb hb
  go_enter Try.func61, Try.ntmps61
  go_wp2
  go_region_held3 (fun w' => ((w'.cell? ⟨w.heap.size, 0, none⟩ = some (.int .i64 m) ∧ w'.cell? ⟨w.heap.size, 1, none⟩ = some (.slice (some ⟨b, off, none⟩) zs.length cap)) ∧ w'.cell? ⟨b, off + j, none⟩ = some (.int .i64 z)) ∧ Ext (w.alloc (.cells #[.int .i64 m, .slice (some ⟨b, off, none⟩) zs.length cap] 27)) w') (first | assumption | exact HSN.out _ (Ext.refl _).drew | exact HSN.out _ (Ext.trans (And.right (by assumption)) x6)) (first | (go_at_call 84; refine (HP.out _).mono ?_; rintro e w6 ⟨u, U, rfl, hr, x6⟩))
  all_goals (rename_i hHeld)
  all_goals (have hE := X0.out.trans hHeld.2)
  all_goals clear hHeld
  all_goals go_wp2
  all_goals go_ret
  all_goals exact ⟨_, U, rfl, hr.down (by simp), hE⟩

set_option maxHeartbeats 2000000 in
theorem mSwap_any (m : Int) (v : Value) (zs : List Int) (j : Nat) (w : World) (h : IntsA w v zs) (hb : SchB m zs) (hj : j + 1 < zs.length) : Calls Try.prog 64 #[.agg #[.int .i64 m, v], .int .i64 (j : Int)] w (OneII (prs (pM m (zs[j] - zs[j + 1]))) w) := by
  have X0 := Lib.hid (show Ext w (w.alloc (.cells #[.int .i64 m, v] 27)) from (Ext.refl w).alloc _)
  have H := Lib.hid (h.ext X0.out)
  have hzb := wd_bd hb (show j < zs.length by omega) hj
  have hmb : 2 ≤ m ∧ m ≤ 13 := ⟨hb.m1, hb.m2⟩
  have hl2 := hb.l2
  obtain ⟨t, ht⟩ : ∃ t, t = zs[j] - zs[j + 1] := ⟨_, rfl⟩
  rw [← ht] at hzb ⊢
  have HP := Lib.hid (fun w' => pairsM_any m t v w' hmb hzb)
  obtain ⟨L, hL⟩ : ∃ L, L = prs (pM m t) := ⟨_, rfl⟩
  rw [← hL] at HP ⊢
  obtain ⟨a, cap, hv⟩ := h.at
  rw [hv] at X0 H HP ⊢
  have hz1 := wz_bd hb (show j < zs.length by omega)
  have hy1 := wz_bd hb hj
  obtain ⟨b, off, ha, hbs, e1⟩ := H.out.get2 j (by omega)
  obtain ⟨b2, off2, ha2, _, e2⟩ := H.out.get2 (j + 1) hj
  rw [ha] at ha2
  injection ha2 with ha2
  injection ha2 with hb2 ho2
  subst hb2; subst ho2
  obtain ⟨z, hz⟩ : ∃ z, z = zs[j] := ⟨_, rfl⟩
  obtain ⟨y, hy⟩ : ∃ y, y = zs[j + 1] := ⟨_, rfl⟩
  rw [← hz] at e1 ht hz1
  rw [← hy] at e2 ht hy1
  subst ha
  have hjl : (j : Int) < (zs.length : Int) := by omega
  obtain ⟨j1, hj1⟩ : ∃ j1, j1 = j + 1 := ⟨_, rfl⟩
  rw [← hj1] at e2
  have hjj : (j : Int) + 1 = (j1 : Int) := by omega
  have hjl1 : (j1 : Int) < (zs.length : Int) := by omega
  have hjn1 : j1 < zs.length := by omega
  have wj : IntKind.i64.wrap ((j : Int) + 1) = (j1 : Int) := by simp only [IntKind.wrap_i64]; omega
  have wj1 : IntKind.i64.wrap (j1 : Int) = (j1 : Int) := by simp only [IntKind.wrap_i64]; omega
  clear hj1
  have hzy : z - y = t := ht.symm
  have wt' : IntKind.i64.wrap t = t := by simp only [IntKind.wrap_i64]; omega
  clear hz hy ht
  have HSN := Lib.hid (fun (w' : World) (x' : Ext (w.alloc (.cells #[.int .i64 m, .slice (some ⟨b, off, none⟩) zs.length cap] 27)) w') => (show ((w'.cell? ⟨w.heap.size, 0, none⟩ = some (.int .i64 m) ∧ w'.cell? ⟨w.heap.size, 1, none⟩ = some (.slice (some ⟨b, off, none⟩) zs.length cap)) ∧ w'.cell? ⟨b, off + j, none⟩ = some (.int .i64 z) ∧ w'.cell? ⟨b, off + j1, none⟩ = some (.int .i64 y)) ∧ Ext (w.alloc (.cells #[.int .i64 m, .slice (some ⟨b, off, none⟩) zs.length cap] 27)) w' from ⟨⟨sc_cells x', ⟨(x'.cell (p := ⟨b, off + j, none⟩) hbs).trans e1, (x'.cell (p := ⟨b, off + j1, none⟩) hbs).trans e2⟩⟩, x'⟩))
  clear hL hv h hmb hb
  go_enter Try.func64, Try.ntmps64
  go_wp2
  go_region_held3 (fun w' => ((w'.cell? ⟨w.heap.size, 0, none⟩ = some (.int .i64 m) ∧ w'.cell? ⟨w.heap.size, 1, none⟩ = some (.slice (some ⟨b, off, none⟩) zs.length cap)) ∧ w'.cell? ⟨b, off + j, none⟩ = some (.int .i64 z) ∧ w'.cell? ⟨b, off + j1, none⟩ = some (.int .i64 y)) ∧ Ext (w.alloc (.cells #[.int .i64 m, .slice (some ⟨b, off, none⟩) zs.length cap] 27)) w') (first | assumption | exact HSN.out _ (Ext.refl _).drew | exact HSN.out _ (Ext.trans (And.right (by assumption)) x6)) (first | (go_at_call 84; refine (HP.out _).mono ?_; rintro e w6 ⟨u, U, rfl, hr, x6⟩))
  all_goals (rename_i hHeld)
  all_goals (have hE := X0.out.trans hHeld.2)
  all_goals clear hHeld
  all_goals go_wp2
  all_goals go_ret
  all_goals exact ⟨_, U, rfl, hr.down (by simp), hE⟩

end Go.Proofs.Ytdhcknknmloopaa
