/- Parts of a puzzle's clues. No conditions. -/
import Derived.Test.YtpdnpphjlnlneaaGreatDoorCts
import Derived.Deep.RegionWith
namespace Go.Proofs.YtpdnpphjlnlneaaGreatDoor
open Go.RowKit

theorem cls_nil (w : World) (x : Option Addr) (c : Nat) : Cls w (.slice x 0 c) [] := ⟨by unfold maxLen; simp, by simp, .inl ⟨rfl, x, c, rfl⟩⟩
theorem part_len (gs : List Cl) {f t : Nat} (ht : t ≤ gs.length) : ((gs.take t).drop f).length = t - f := by rw [List.length_drop, List.length_take]; omega
theorem Cls.sub {w : World} {a : Option Addr} {cap : Nat} {gs : List Cl} (h : Cls w (.slice a gs.length cap) gs) {f t : Nat} (hft : f < t) (ht : t ≤ gs.length) : ∃ b off, a = some ⟨b, off, none⟩ ∧ ∀ c, Cls w (.slice (some ⟨b, off + f * 3, none⟩) (t - f) c) ((gs.take t).drop f) := by
  rcases h.2.2 with ⟨h0, _⟩ | ⟨b, off, cap', e, hb, hc⟩
  · rw [h0] at ht; simp at ht; omega
  injection e with e1 _ _
  refine ⟨b, off, e1, fun c => ⟨by rw [part_len gs ht]; have := h.1; omega, fun g hg => h.2.1 g (List.mem_of_mem_take (List.mem_of_mem_drop hg)), .inr ⟨b, off + f * 3, c, by rw [part_len gs ht], hb, fun j hj => ?_⟩⟩⟩
  have hj2 : f + j < gs.length := by rw [part_len gs ht] at hj; omega
  have e2 : ((gs.take t).drop f)[j] = gs[f + j] := by rw [List.getElem_drop, List.getElem_take]
  rw [e2, show off + f * 3 + j * 3 = off + (f + j) * 3 by omega]
  exact hc (f + j) hj2

set_option maxRecDepth 100000 in
set_option maxHeartbeats 1000000 in
theorem cut_any (d : Int) (a : Option Addr) (cap : Nat) (gs : List Cl) (f t : Nat) (w : World) (h : Cls w (.slice a gs.length cap) gs) (hcap : gs.length ≤ cap) (hft : f ≤ t) (ht : t ≤ gs.length) :
    Calls Tryz.prog 63 #[.agg #[.int .i64 d, .slice a gs.length cap], .int .i64 f, .int .i64 t] w fun e w' => ∃ u, e = .returned (.agg #[.int .i64 d, u]) ∧ Cls w' u ((gs.take t).drop f) ∧ Ext w w' := by
  have X0 := Lib.hid (show Ext w (w.alloc (.cells #[.int .i64 d, .slice a gs.length cap] 37)) from (Ext.refl w).alloc _)
  have H := Lib.hid h
  obtain ⟨L, hL⟩ : ∃ L, L = gs.length := ⟨_, rfl⟩
  by_cases h0 : f < t
  · obtain ⟨b, off, rfl, hs⟩ := h.sub h0 ht
    have HS := Lib.hid hs
    rw [← hL] at X0 hcap ht ⊢
    clear hs h hL
    go_enter Tryz.func63, Tryz.ntmps63
    go_wp2
    go_region_with (fail)
    all_goals go_wp2
    all_goals (
      have XF : Ext w (((w.alloc (.cells #[.int .i64 d, .slice (some ⟨b, off, none⟩) L cap] 37)).alloc (.cells #[.int .i64 d, .slice (some ⟨b, off + f * 3, none⟩) (t - f) (t - f)] 37)).drew) := (X0.out.alloc _).drew
      exact bodyPost_ret (results_cell_row (P := Tryz.prog) (p := 6) (ty := 37) rfl _ _ (w.heap.size + 1) 37 #[.int .i64 d, .slice (some ⟨b, off + f * 3, none⟩) (t - f) (t - f)] (0, 0) _ rfl (heap_alloc2_new w _ _) Tryz.underlying37 rfl (pz_size _ _)) rfl ⟨_, rfl, (HS.out _).ext XF, XF⟩)
  · obtain rfl : f = t := by omega
    rw [← hL] at X0 hcap ht ⊢
    clear h hL
    go_enter Tryz.func63, Tryz.ntmps63
    go_wp2
    go_region_with (fail)
    all_goals go_wp2
    all_goals (
      have XF : Ext w (((w.alloc (.cells #[.int .i64 d, .slice a L cap] 37)).alloc (.cells #[.int .i64 d, .slice a 0 0] 37)).drew) := (X0.out.alloc _).drew
      exact bodyPost_ret (results_cell_row (P := Tryz.prog) (p := 6) (ty := 37) rfl _ _ (w.heap.size + 1) 37 #[.int .i64 d, .slice a 0 0] (0, 0) _ rfl (heap_alloc2_new w _ _) Tryz.underlying37 rfl (pz_size _ _)) rfl ⟨_, rfl, by rw [List.drop_of_length_le (by rw [List.length_take]; omega)]; exact cls_nil _ _ _, XF⟩)
end Go.Proofs.YtpdnpphjlnlneaaGreatDoor
