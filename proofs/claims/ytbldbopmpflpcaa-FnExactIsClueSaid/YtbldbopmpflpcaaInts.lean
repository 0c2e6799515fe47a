/- The laws' own helpers on lists of numbers, and the marks. No conditions. -/
import Derived.Test.YtbldbopmpflpcaaStrs
import Derived.Laws.IdiomStrings
import Derived.IntWalk
namespace Go.Proofs.Ytbldbopmpflpcaa
open Go.RowKit

/-- v is a list of the call's own with these numbers. -/
def RowI (B : Nat) (w : World) (v : Value) (zs : List Int) : Prop := w.ownsRow B 3 1 v zs.length (zs.map (Value.int .i64))
theorem RowI.ext {B : Nat} {w w' : World} {v : Value} {zs : List Int} (h : RowI B w v zs) (hx : Ext w w') : RowI B w' v zs := row_ext h hx
theorem RowI.shape {B : Nat} {w : World} {v : Value} {zs : List Int} (h : RowI B w v zs) : ∃ a cap, v = .slice a zs.length cap := by
  rcases h.2 with ⟨rfl, hn⟩ | ⟨g, cap, cur, rfl, _⟩
  · exact ⟨none, 0, by rw [hn]⟩
  · exact ⟨_, _, rfl⟩
theorem RowI.at {B : Nat} {w : World} {a : Option Addr} {cap : Nat} {zs : List Int} (h : RowI B w (.slice a zs.length cap) zs) (j : Nat) (hj : j < zs.length) : ∃ g, a = some ⟨g, 0, none⟩ ∧ B ≤ g ∧ g < w.heap.size ∧ w.cell? ⟨g, j, none⟩ = some (.int .i64 zs[j]) ∧ w.frozen? ⟨g, j, none⟩ = false := by
  have hh := h
  rcases h.2 with ⟨_, hn⟩ | ⟨g, cap', cur, e, hb, hg, _⟩
  · omega
  · injection e with e1 e2 e3
    subst e1; subst e3
    have hlt : g < w.heap.size := by
      rcases Nat.lt_or_ge g w.heap.size with k | k
      · exact k
      · rw [Array.getElem?_eq_none k] at hg; cases hg
    refine ⟨g, rfl, hb, hlt, ?_, World.ownsRow.frozenAt hh j⟩
    have := World.ownsRow.cellAt hh j (by omega)
    rw [this]
    simp [hj]

/-- The numbers from m on. -/
def marks (m : Int) (n : Nat) : List Int := (List.range n).map fun (j : Nat) => m + (j : Int)
theorem marks_len (m : Int) (n : Nat) : (marks m n).length = n := by simp [marks]
theorem marks_at (m : Int) (n j : Nat) (h : j < (marks m n).length) : (marks m n)[j] = m + (j : Int) := by simp [marks]

theorem RowI.own {B : Nat} {w : World} {v : Value} {zs : List Int} (h : RowI B w v zs) : v.ownBlock = none ∨ ∃ g, v.ownBlock = some g ∧ B ≤ g ∧ g < w.heap.size := by
  rcases h.2 with ⟨rfl, hn⟩ | ⟨g, cap, cur, rfl, hb, hg, _⟩
  · exact .inl rfl
  · refine .inr ⟨g, rfl, hb, ?_⟩
    rcases Nat.lt_or_ge g w.heap.size with k | k
    · exact k
    · rw [Array.getElem?_eq_none k] at hg; cases hg

/-- What marking a list of numbers leaves: the marks in its own block, all else as it was. -/
def Marked (B : Nat) (v : Value) (n : Nat) (w : World) (e : Ending) (w' : World) : Prop := e = .returned (.int .i64 (1 + (n : Int))) ∧ RowI B w' v (marks 1 n) ∧ w.grownBy w' v.ownBlock

end Go.Proofs.Ytbldbopmpflpcaa
