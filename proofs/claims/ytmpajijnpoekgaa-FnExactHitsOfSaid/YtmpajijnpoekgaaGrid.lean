/- Lists of rows of numbers, all of the call's own. No conditions. -/
import Derived.Test.YtmpajijnpoekgaaIApp
namespace Go.Proofs.Ytmpajijnpoekgaa
open Go.RowKit

def rowN (n : Nat) (t : Nat → Int) : List Value := (List.range n).map fun j => .int .i64 (t j)
theorem rowN_len (n : Nat) (t : Nat → Int) : (rowN n t).length = n := by simp [rowN]
theorem rowN_at (n : Nat) (t : Nat → Int) (j : Nat) (h : j < n) : (rowN n t)[j]? = some (.int .i64 (t j)) := by
  unfold rowN
  rw [List.getElem?_map, List.getElem?_range h]
  rfl
theorem rowN_set (n : Nat) (t : Nat → Int) (i : Nat) (x : Int) : (rowN n t).set i (.int .i64 x) = rowN n (fun j => if j = i then x else t j) := by
  apply List.ext_getElem?
  intro j
  by_cases hj : j < n
  · by_cases e : j = i
    · subst e
      rw [List.getElem?_set_self (by rw [rowN_len]; exact hj), rowN_at _ _ _ hj]
      simp
    · rw [List.getElem?_set_ne (fun h => e h.symm), rowN_at _ _ _ hj, rowN_at _ _ _ hj, if_neg e]
  · rw [List.getElem?_eq_none (by rw [List.length_set, rowN_len]; omega), List.getElem?_eq_none (by rw [rowN_len]; omega)]
/-- So many numbers in a block of the call's own. -/
def RowN (n B : Nat) (w : World) (g : Nat) (t : Nat → Int) : Prop := w.ownsRow B 3 1 (.slice (some ⟨g, 0, none⟩) n n) n (rowN n t)
theorem RowN.ext {n B : Nat} {w w' : World} {g : Nat} {t : Nat → Int} (h : RowN n B w g t) (hx : Ext w w') : RowN n B w' g t := row_ext h hx
theorem RowN.at {n B : Nat} {w : World} {g : Nat} {t : Nat → Int} (h : RowN n B w g t) (j : Nat) (hj : j < n) : w.cell? ⟨g, j, none⟩ = some (.int .i64 (t j)) := (World.ownsRow.cellAt h j (by omega)).trans (rowN_at n t j hj)
theorem RowN.fr {n B : Nat} {w : World} {g : Nat} {t : Nat → Int} (h : RowN n B w g t) (j : Nat) : w.frozen? ⟨g, j, none⟩ = false := World.ownsRow.frozenAt h j
theorem RowN.set {n B : Nat} {w : World} {g : Nat} {t : Nat → Int} (h : RowN n B w g t) (i : Nat) (x : Int) : RowN n B (w.setCell ⟨g, i, none⟩ (.int .i64 x)) g (fun j => if j = i then x else t j) := by
  have := (World.ownsRow.stored h i (.int .i64 x)).1
  rw [rowN_set] at this
  exact this
theorem RowN.congr {n B : Nat} {w : World} {g : Nat} {t t' : Nat → Int} (h : RowN n B w g t) (he : ∀ j, j < n → t j = t' j) : RowN n B w g t' := by
  have : rowN n t = rowN n t' := by
    unfold rowN
    exact List.map_congr_left fun j hj => by rw [he j (List.mem_range.1 hj)]
  unfold RowN
  rw [← this]
  exact h
theorem RowN.lt {n B : Nat} {w : World} {g : Nat} {t : Nat → Int} (h : RowN n B w g t) : B ≤ g ∧ g < w.heap.size := World.ownsRow.lt h g rfl
theorem RowN.made {n B : Nat} {w : World} {g : Nat} {xs : List Value} (h : w.ownsRow B 3 1 (.slice (some ⟨g, 0, none⟩) n n) n xs) (hz : xs = (madeCells (Value.int .i64 0).cells (n * 1)).toList) : RowN n B w g (fun _ => 0) := by
  have e : xs = rowN n (fun _ => 0) := by
    rw [hz, Nat.mul_one]
    apply List.ext_getElem?
    intro j
    by_cases hj : j < n
    · rw [rowN_at _ _ _ hj]
      simp [madeCells, Value.cells, hj, Nat.mod_one]
    · rw [List.getElem?_eq_none (by simp [madeCells]; omega), List.getElem?_eq_none (by rw [rowN_len]; omega)]
  unfold RowN
  rw [← e]
  exact h
theorem RowN.int {n B : Nat} {w : World} {g : Nat} {t : Nat → Int} (h : RowN n B w g t) : ∃ cur fr, w.heap[g]? = some (.cells cur 3 fr) := by
  rcases h.2 with ⟨h0, _⟩ | ⟨g2, cap2, cur2, h0, _, hg2, _⟩
  · cases h0
  · injection h0 with h0
    injection h0 with h0
    injection h0 with h0
    subst h0
    exact ⟨_, _, hg2⟩
theorem row_other {w : World} {B : Nat} {e : TypeId} {size : Nat} {v : Value} {n : Nat} {xs : List Value} (h : w.ownsRow B e size v n xs) (p : Addr) (x : Value) (hne : v.ownBlock ≠ some p.block) : (w.setCell p x).ownsRow B e size v n xs := by
  refine ⟨h.1, h.2.imp id fun ⟨g, cap, cur, h1, h2, h3, h4⟩ => ⟨g, cap, cur, h1, h2, ?_, h4⟩⟩
  rw [heap_setCell_other w _ _ _ (fun e => hne (by rw [h1, e]; rfl))]
  exact h3