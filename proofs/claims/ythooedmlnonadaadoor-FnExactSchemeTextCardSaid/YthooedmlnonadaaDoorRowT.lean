/- A list of texts of the call's own in a block that is told. No conditions. -/
import Derived.Test.YthooedmlnonadaaDoorParts
namespace Go.Proofs.YthooedmlnonadaaDoor
open Go.RowKit

/-- A list of texts of the call's own in a block that is told. -/
def RowT (B : Nat) (w : World) (g n : Nat) (l : List ByteArray) : Prop := w.ownsRow B 9 1 (.slice (some ⟨g, 0, none⟩) n n) n (l.map Value.string)
theorem RowT.at {B : Nat} {w : World} {g n : Nat} {l : List ByteArray} (h : RowT B w g n l) (j : Nat) (hj : j < n) (hl : l.length = n) : w.cell? ⟨g, j, none⟩ = some (.string (l[j]'(by omega))) ∧ w.frozen? ⟨g, j, none⟩ = false := by
  refine ⟨?_, World.ownsRow.frozenAt h j⟩
  rw [World.ownsRow.cellAt h j (by omega), List.getElem?_map, List.getElem?_eq_getElem (by omega)]
  rfl
theorem RowT.put {B : Nat} {w : World} {g n : Nat} {l : List ByteArray} (h : RowT B w g n l) (j : Nat) (x : ByteArray) : RowT B (w.setCell ⟨g, j, none⟩ (.string x)) g n (l.set j x) := by
  have h1 := (World.ownsRow.stored h j (.string x)).1
  unfold RowT
  rw [List.map_set]
  exact h1
def partT (l : List ByteArray) (k : Nat) : List ByteArray := l.take k ++ List.replicate (l.length - k) ⟨#[]⟩
theorem partT_len (l : List ByteArray) (k : Nat) (h : k ≤ l.length) : (partT l k).length = l.length := by
  unfold partT
  rw [List.length_append, List.length_take, List.length_replicate]
  omega
theorem partT_all (l : List ByteArray) : partT l l.length = l := by unfold partT; rw [Nat.sub_self, List.take_length]; simp
theorem partT_set (l : List ByteArray) (k : Nat) (h : k < l.length) : (partT l k).set k l[k] = partT l (k + 1) := by
  unfold partT
  rw [List.set_append_right _ _ (by rw [List.length_take]; omega)]
  have e1 : k - (l.take k).length = 0 := by rw [List.length_take]; omega
  have e2 : l.length - k = (l.length - (k + 1)) + 1 := by omega
  rw [e1, e2, List.replicate_succ, List.set_cons_zero, List.take_succ_eq_append_getElem h, List.append_assoc]
  rfl
theorem partT_zero (l : List ByteArray) : (partT l 0).map Value.string = (madeCells (Value.string ⟨#[]⟩).cells (l.length * 1)).toList := by
  unfold partT
  rw [Nat.mul_one, show (Value.string ⟨#[]⟩).cells = #[Value.string ⟨#[]⟩] from rfl, toList_madeCells_one]
  simp
theorem rowT_row {B : Nat} {w : World} {g n : Nat} {l : List ByteArray} (h : RowT B w g n l) (hl : l.length = n) : RowS B w (.slice (some ⟨g, 0, none⟩) n n) l := by
  subst hl
  exact h
end Go.Proofs.YthooedmlnonadaaDoor
