/- Ten numbers in a block. No conditions. -/
import Derived.Test.YtmpajijnpoekgaaGrid
import Derived.Deep.MidRow
namespace Go.Proofs.Ytmpajijnpoekgaa
open Go.RowKit

/-- Ten numbers in a block. -/
def TabD (w : World) (C : Nat) (t : Nat → Int) : Prop := w.heap[C]? = some (.cells (rowN 10 t).toArray 88)
theorem TabD.lt {w : World} {C : Nat} {t : Nat → Int} (h : TabD w C t) : C < w.heap.size := (Array.getElem?_eq_some_iff.1 h).1
theorem TabD.ext {w w' : World} {C : Nat} {t : Nat → Int} (h : TabD w C t) (hx : Ext w w') : TabD w' C t := (hx.block C h.lt).trans h
theorem TabD.at {w : World} {C : Nat} {t : Nat → Int} (h : TabD w C t) (r : Nat) (hr : r < 10) : w.cell? ⟨C, r, none⟩ = some (.int .i64 (t r)) := by
  rw [cell_of_row w C _ _ _ _ h, List.getElem?_toArray, rowN_at 10 t r hr]
theorem TabD.fr {w : World} {C : Nat} {t : Nat → Int} (h : TabD w C t) (j : Nat) : w.frozen? ⟨C, j, none⟩ = false := frozen_of_row w C j _ _ h
theorem TabD.set {w : World} {C : Nat} {t : Nat → Int} (h : TabD w C t) (r : Nat) (x : Int) : TabD (w.setCell ⟨C, r, none⟩ (.int .i64 x)) C (fun a => if a = r then x else t a) := by
  have h1 := heap_setCell_same w C r _ _ (.int .i64 x) h
  unfold TabD
  rw [h1]
  congr 2
  rw [← rowN_set 10 t r x]
  apply Array.toList_inj.1
  simp
theorem TabD.congr {w : World} {C : Nat} {t t' : Nat → Int} (h : TabD w C t) (he : ∀ r, r < 10 → t r = t' r) : TabD w C t' := by
  have : rowN 10 t = rowN 10 t' := by
    unfold rowN
    exact List.map_congr_left fun j hj => by rw [he j (List.mem_range.1 hj)]
  unfold TabD
  rw [← this]
  exact h
theorem zero10 : (rowN 10 fun _ => 0).toArray = #[.int .i64 0, .int .i64 0, .int .i64 0, .int .i64 0, .int .i64 0, .int .i64 0, .int .i64 0, .int .i64 0, .int .i64 0, .int .i64 0] := by kernel_rfl
end Go.Proofs.Ytmpajijnpoekgaa
