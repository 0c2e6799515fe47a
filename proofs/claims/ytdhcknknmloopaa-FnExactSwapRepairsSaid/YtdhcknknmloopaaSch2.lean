/- Schemes: a copy whose weights' block is told, and the laws' marks on it. No conditions. -/
import Derived.Test.YtdhcknknmloopaaSch
import Derived.Test.YtdhcknknmloopaaMarkI
namespace Go.Proofs.Ytdhcknknmloopaa
open Go.RowKit Go.ChangeShapes Go.WideShapes Go.ChangeAt Go.Deep

/-- A copy of a scheme that the call made, with the block of its weights. -/
def OwnSc2 (w w' : World) (e : Ending) (m : Int) (zs : List Int) : Prop := ∃ u, e = .returned (.agg #[.int .i64 m, u]) ∧ IntsA w' u zs ∧ RowI w.heap.size w' u zs ∧ Ext w w' ∧ ∃ g cap, u = .slice (some ⟨g, 0, none⟩) zs.length cap ∧ w.heap.size ≤ g ∧ g < w'.heap.size

set_option maxHeartbeats 1000000 in
theorem toSc2_any (m : Int) (v : Value) (zs : List Int) (w : World) (h : IntsA w v zs) (hn : zs.length ≤ 1048576) : Calls Try.prog 15 #[.agg #[.int .i64 m, v]] w fun e w' => OwnSc2 w w' e m zs := by
  have HS := Lib.hid h
  clear h
  go_enter Try.func15, Try.ntmps15
  go_wp2_with fail
  have X0 := Lib.hid (show Ext w (((w.alloc (.cells #[.int .i64 m, v] 24)).alloc (.cells #[.int .i64 0, .slice none 0 0] 27)).alloc (.cells #[.int .i64 m, .slice none 0 0] 27)) from (((Ext.refl w).alloc _).alloc _).alloc _)
  refine (toI_any v zs _ (HS.out.ext X0.out) hn).mono ?_
  rintro e w1 ⟨u, rfl, hu, x1, g, cap, rfl, hg1, hg2, hr⟩
  have hs0 : (((w.alloc (.cells #[.int .i64 m, v] 24)).alloc (.cells #[.int .i64 0, .slice none 0 0] 27)).alloc (.cells #[.int .i64 m, .slice none 0 0] 27)).heap.size = w.heap.size + 3 := by simp
  have HR := Lib.hid (show w1.ownsRow (w.heap.size + 3) 3 1 (.slice (some ⟨g, 0, none⟩) zs.length cap) zs.length (zs.map (Value.int .i64)) from hs0 ▸ hr)
  have HX1 := Lib.hid (X0.out.trans x1)
  have G1 := Lib.hid (show w1.heap[w.heap.size + 1]? = some (.cells #[.int .i64 0, .slice none 0 0] 27) from (x1.block (w.heap.size + 1) (by simp)).trans (by rw [heap_alloc_old _ _ (by simp)]; exact heap_alloc2_new w _ _))
  have G2 : w1.heap[w.heap.size + 1 + 1]? = some (.cells #[.int .i64 m, .slice none 0 0] 27) := (x1.block (w.heap.size + 1 + 1) (by simp)).trans (by have := heap_alloc_new ((w.alloc (.cells #[.int .i64 m, v] 24)).alloc (.cells #[.int .i64 0, .slice none 0 0] 27)) (.cells #[.int .i64 m, .slice none 0 0] 27); simpa using this)
  have HG1 := Lib.hid (show w.heap.size + 3 ≤ g from hs0 ▸ hg1)
  have HG2b := Lib.hid hg2
  clear hu hr hg1 hg2 x1 hs0 HS X0
  obtain ⟨hc, hf⟩ := cell_of G2 (j := 1) rfl
  have HG2 := Lib.hid (set_cells2 (j := 1) (u := .slice (some ⟨g, 0, none⟩) zs.length cap) G2)
  have HO := Lib.hid (fun k (hk : k ≠ w.heap.size + 1 + 1) => Below.heap_setCell w1 ⟨w.heap.size + 1 + 1, 1, none⟩ (.slice (some ⟨g, 0, none⟩) zs.length cap) k hk)
  have g1 := G1.out
  obtain ⟨hc0, hf0⟩ := cell_of g1 (j := 0) rfl
  obtain ⟨hc1, hf1⟩ := cell_of g1 (j := 1) rfl
  have HG3 := Lib.hid (set_cells2 (j := 1) (u := .slice (some ⟨g, 0, none⟩) zs.length cap) (set_cells2 (j := 0) (u := .int .i64 m) ((HO.out _ (by omega)).trans g1)))
  have HX3 := Lib.hid (((HX1.out.setCell (p := ⟨w.heap.size + 1 + 1, 1, none⟩) (by show w.heap.size ≤ w.heap.size + 1 + 1; omega) (.slice (some ⟨g, 0, none⟩) zs.length cap)).setCell (p := ⟨w.heap.size + 1, 0, none⟩) (by show w.heap.size ≤ w.heap.size + 1; omega) (.int .i64 m)).setCell (p := ⟨w.heap.size + 1, 1, none⟩) (by show w.heap.size ≤ w.heap.size + 1; omega) (.slice (some ⟨g, 0, none⟩) zs.length cap))
  have HO3 := Lib.hid (fun k (hk : w.heap.size + 3 ≤ k) => (((Below.heap_setCell _ ⟨w.heap.size + 1, 1, none⟩ (.slice (some ⟨g, 0, none⟩) zs.length cap) k (show k ≠ w.heap.size + 1 by omega)).trans (Below.heap_setCell _ ⟨w.heap.size + 1, 0, none⟩ (.int .i64 m) k (show k ≠ w.heap.size + 1 by omega))).trans (HO.out k (by omega))))
  clear G2 g1
  go_wp2_with (refine wpList_load_row rfl _ _ rfl (w.heap.size + 1 + 1) rfl 27 #[.int .i64 m, .slice (some ⟨g, 0, none⟩) zs.length cap] (0, 0) _ HG2.out Try.underlying27 rfl (sc_size _ _) ?_)
  have hrow := row_sameS HR.out HO3.out
  exact bodyPost_ret (results_cell_row (P := Try.prog) (p := 2) (ty := 27) rfl _ _ (w.heap.size + 1) 27 #[.int .i64 m, .slice (some ⟨g, 0, none⟩) zs.length cap] (0, 0) _ rfl HG3.out Try.underlying27 rfl (sc_size _ _)) rfl ⟨_, rfl, RowI.ints (B := w.heap.size + 3) hrow (by unfold maxLen; omega), row_downS hrow (by omega), HX3.out, g, cap, rfl, by have := HG1.out; omega, by have := HG2b.out; simpa using this⟩

theorem markSc_any (m : Int) (u : Value) (zs : List Int) (B : Nat) (w : World) (h : RowI B w u zs) (hn : zs.length ≤ 1048576) : Calls Try.prog 25 #[.agg #[.int .i64 m, u], .int .i64 1] w fun e w' => e = .returned (.int .i64 (1 + (zs.length : Int))) ∧ (w.alloc (.cells #[.int .i64 m, u] 27)).grownBy w' u.ownBlock := by
  have H := Lib.hid (h.ext ((Ext.refl w).alloc (.cells #[.int .i64 m, u] 27)))
  clear h
  go_enter Try.func25, Try.ntmps25
  go_wp2_with (go_at_call 62; refine (markI_any u zs B _ H.out hn).mono ?_; rintro e w1 ⟨rfl, _, g1⟩)
  go_ret
  exact ⟨rfl, g1⟩
end Go.Proofs.Ytdhcknknmloopaa
