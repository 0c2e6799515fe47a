/- Two lists put together by the library's Concat: a list of the call's own. No conditions. -/
import Derived.Test.YthooedmlnonadaaDoorOwnS
import Derived.Lib.AppendZeros
namespace Go.Proofs.YthooedmlnonadaaDoor
open Go.RowKit

theorem info_strC : (Tryd.prog.info? 9).map (fun i => (i.zero, i.size, i.bytes)) = some (some (.string ⟨#[]⟩), 1, 16) := by kernel_rfl

theorem add_block (a : Addr) (j : Nat) : (a.add j).block = a.block := by cases a; simp only [Addr.add]; split <;> rfl
/-- The cells behind an address hold these texts. -/
def HoldsS (w : World) (a : Addr) (ss : List ByteArray) : Prop := a.block < w.heap.size ∧ ∀ j u, (ss.map Value.string)[j]? = some u → w.cell? (a.add j) = some u
theorem HoldsS.ext {w w' : World} {a : Addr} {ss : List ByteArray} (h : HoldsS w a ss) (hx : Ext w w') : HoldsS w' a ss :=
  ⟨Nat.lt_of_lt_of_le h.1 hx.size, fun j u hu => (hx.cell (p := a.add j) (by rw [add_block]; exact h.1)).trans (h.2 j u hu)⟩
def ResP (ts : List ByteArray) (w : World) (e : Ending) (w' : World) : Prop := ∃ v, e = .returned v ∧ RowS w.heap.size w' v ts ∧ Ext w w'
theorem oneL (ss : List ByteArray) : ∀ u ∈ ss.map Value.string, u.oneCell' = true := by
  intro u hu
  obtain ⟨x, _, rfl⟩ := List.mem_map.1 hu
  rfl

theorem holds_none {w : World} {a : Addr} {ss : List ByteArray} (h : a.block < w.heap.size) (h0 : ss.length = 0) : HoldsS w a ss := by
  obtain rfl := List.length_eq_zero_iff.1 h0
  exact ⟨h, fun j u hu => by simp at hu⟩
theorem addr_add (b off j : Nat) : (⟨b, off, none⟩ : Addr).add j = ⟨b, off + j, none⟩ := by cases j <;> simp [Addr.add]
theorem holds_drop {w : World} {b off : Nat} {ss : List ByteArray} (hb : b < w.heap.size) (hc : ∀ j (h : j < ss.length), w.cell? ⟨b, off + j, none⟩ = some (.string ss[j])) (k : Nat) : HoldsS w ⟨b, off + k, none⟩ (ss.drop k) := by
  refine ⟨hb, fun j u hu => ?_⟩
  rw [addr_add, Nat.add_assoc]
  rw [List.getElem?_map, List.getElem?_drop] at hu
  have hl : k + j < ss.length := by
    rcases Nat.lt_or_ge (k + j) ss.length with h | h
    · exact h
    · rw [List.getElem?_eq_none h] at hu; cases hu
  rw [List.getElem?_eq_getElem hl] at hu
  rw [hc (k + j) hl]
  exact hu
theorem holds_take {w : World} {b off : Nat} {ss : List ByteArray} (hb : b < w.heap.size) (hc : ∀ j (h : j < ss.length), w.cell? ⟨b, off + j, none⟩ = some (.string ss[j])) (k : Nat) : HoldsS w ⟨b, off, none⟩ (ss.take k) := by
  refine ⟨hb, fun j u hu => ?_⟩
  rw [addr_add]
  rw [List.getElem?_map, List.getElem?_take] at hu
  by_cases hj : j < k
  · rw [if_pos hj] at hu
    have hl : j < ss.length := by
      rcases Nat.lt_or_ge j ss.length with h | h
      · exact h
      · rw [List.getElem?_eq_none h] at hu; cases hu
    rw [List.getElem?_eq_getElem hl] at hu
    rw [hc j hl]
    exact hu
  · rw [if_neg hj] at hu; cases hu

end Go.Proofs.YthooedmlnonadaaDoor
