/- A text put into a list in order: the model's way, in memory of its own. No conditions. -/
import Derived.Test.YthooedmlnonadaaDoorKeySet
import Derived.Test.YthooedmlnonadaaDoorParts
import Derived.Laws.AppendOwnNone
namespace Go.Proofs.YthooedmlnonadaaDoor
open Go.RowKit

/-- The list itself where the text is there; else a new one. -/
def PutsIn (B : Nat) (ts : List ByteArray) (s : ByteArray) (w : World) (e : Ending) (w' : World) : Prop := ∃ v, e = .returned v ∧ RowS B w' v (putL ts s) ∧ Ext w w' ∧ (¬ s ∈ ts → RowS w.heap.size w' v (putL ts s))

theorem row_join {B0 : Nat} {w : World} {v : Value} {n1 m : Nat} {l1 l2 : List ByteArray} {s : ByteArray} (h : w.ownsRow B0 9 1 v (n1 + 1 + m) (l1.map Value.string ++ [.string s] ++ l2.map Value.string)) (e1 : l1.length = n1) (e2 : l2.length = m) : RowS B0 w v (l1 ++ s :: l2) := by
  unfold RowS
  have e3 : (l1 ++ s :: l2).length = n1 + 1 + m := by rw [List.length_append, List.length_cons, e1, e2]; omega
  have e4 : (l1 ++ s :: l2).map Value.string = l1.map Value.string ++ [.string s] ++ l2.map Value.string := by simp
  rw [e3, e4]
  exact h
/-- What an older list holds it holds behind an append to a newer one. -/
theorem HoldsS.ext3 {w wr wa w5 : World} {g k : Nat} {ss : List ByteArray} {v3 : Value} {n : Nat} {xs : List Value} (h : HoldsS wr ⟨g, 0 + k, none⟩ ss) (hx : Ext wr wa) (gr : wa.grownBy w5 v3.ownBlock) {w3 : World} (r : w3.ownsRow w.heap.size 9 1 v3 n xs) (hg : g < w.heap.size) (_hs : w.heap.size ≤ wr.heap.size) :
    ∀ j u, (ss.map Value.string)[j]? = some u → w5.cell? ((⟨g, k, none⟩ : Addr).add j) = some u := fun j u hu => by
  have h1 := (h.ext hx).2 j u hu
  rw [Nat.zero_add] at h1
  refine gr.cell h1 ?_
  rw [add_block]
  intro e
  have := (World.ownsRow.lt r g e.symm).1
  omega
theorem own_ge {B0 : Nat} {w : World} {e : TypeId} {v : Value} {n : Nat} {xs : List Value} (h : w.ownsRow B0 e 1 v n xs) : ∀ j, v.ownBlock = some j → B0 ≤ j := fun j hj => (World.ownsRow.lt h j hj).1
theorem oneSS (x : ByteArray) : ∀ u ∈ [Value.string x], u.oneCell' = true := by intro u hu; simp at hu; subst hu; rfl

end Go.Proofs.YthooedmlnonadaaDoor
