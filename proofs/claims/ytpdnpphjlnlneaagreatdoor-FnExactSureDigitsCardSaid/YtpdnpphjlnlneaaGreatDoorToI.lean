/- The law's own copies of a list of numbers; a list of numbers that came in. No conditions. -/
import Derived.Test.YtpdnpphjlnlneaaGreatDoorSeq
import Derived.Test.YtpdnpphjlnlneaaGreatDoorInts
import Derived.Test.YtpdnpphjlnlneaaGreatDoorLaw
import Derived.ChangeSlices
namespace Go.Proofs.YtpdnpphjlnlneaaGreatDoor
open Go.ChangeShapes Go.WideShapes Go.ChangeAt Go.RowKit

/-- v is a list of numbers. -/
def IntsA (w : World) (v : Value) (zs : List Int) : Prop :=
  zs.length ≤ maxLen ∧ ((zs = [] ∧ ∃ x cap, v = .slice x 0 cap) ∨ ∃ b off cap, v = .slice (some ⟨b, off, none⟩) zs.length cap ∧ b < w.heap.size ∧ ∀ j (h : j < zs.length), w.cell? ⟨b, off + j, none⟩ = some (.int .i64 zs[j]))
theorem IntsA.ext {w w' : World} {v : Value} {zs : List Int} (h : IntsA w v zs) (hx : Ext w w') : IntsA w' v zs := by
  refine ⟨h.1, h.2.imp id fun ⟨b, off, cap, h1, h2, h3⟩ => ⟨b, off, cap, h1, Nat.lt_of_lt_of_le h2 hx.size, fun j hj => (hx.cell (p := ⟨b, off + j, none⟩) h2).trans (h3 j hj)⟩⟩
theorem IntsA.at {w : World} {v : Value} {zs : List Int} (h : IntsA w v zs) : ∃ a cap, v = .slice a zs.length cap := by
  rcases h.2 with ⟨rfl, x, cap, rfl⟩ | ⟨b, off, cap, rfl, _⟩
  · exact ⟨x, cap, rfl⟩
  · exact ⟨_, _, rfl⟩

/-- A copy that the call made: a list of its own with these numbers. -/
def OwnI (w w' : World) (e : Ending) (zs : List Int) : Prop := ∃ v, e = .returned v ∧ IntsA w' v zs ∧ Ext w w' ∧ ∃ g cap, v = .slice (some ⟨g, 0, none⟩) zs.length cap ∧ w.heap.size ≤ g ∧ g < w'.heap.size ∧ RowI w.heap.size w' v zs

theorem RowI.kept {B : Nat} {w w' : World} {v : Value} {ts : List Int} {row : Option Nat} (h : RowI B w v ts) (hg : w.grownBy w' row) (hne : v.ownBlock = none ∨ v.ownBlock ≠ row) : RowI B w' v ts := World.ownsRow.kept h hg hne
theorem RowI.apart {B : Nat} {w : World} {v : Value} {ts : List Int} (h : RowI B w v ts) (g : Nat) (hd : g < B ∨ w.heap.size ≤ g) : v.ownBlock = none ∨ v.ownBlock ≠ some g := by
  rcases h.own with h0 | ⟨g', h0, h1, h2⟩
  · exact .inl h0
  · refine .inr ?_
    rw [h0]
    intro e
    injection e with e
    omega
theorem RowI.apart2 {B B2 : Nat} {w w2 : World} {v u : Value} {ts ys : List Int} (h : RowI B w v ts) (h2 : RowI B2 w2 u ys) (hd : w.heap.size ≤ B2) : v.ownBlock = none ∨ v.ownBlock ≠ u.ownBlock := by
  rcases h2.own with h0 | ⟨g', h0, h1, _⟩
  · rw [h0]
    cases hv : v.ownBlock
    · exact .inl rfl
    · exact .inr (by intro e; cases e)
  · rw [h0]
    exact h.apart g' (.inr (Nat.le_trans hd h1))

theorem RowI.own_le {B : Nat} {w : World} {v : Value} {ts : List Int} (h : RowI B w v ts) (j : Nat) (hj : v.ownBlock = some j) : B ≤ j := by
  rcases h.own with h0 | ⟨g', h0, h1, h2⟩
  · rw [h0] at hj; cases hj
  · rw [h0] at hj; injection hj with hj; omega

theorem cells_int : Tryz.prog.cellsOf 3 = 1 := by kernel_rfl
set_option maxRecDepth 100000 in
theorem ints_of {H : Type} {enc : TypeId × Value → H} {W : World} {base : Nat} {v : Value} {d : DataW H} {p : List MemPlace}
    (hv : Value.okWide Tryz.prog W .any base 42 v) (h : DataW.Trod enc Tryz.prog W 0 (fun _ => true) true 42 v d p) : ∃ zs, IntsA W v zs := by
  obtain ⟨a0, len, cap, rfl⟩ := okWide_slice Tryz.underlying42 hv
  obtain ⟨fuel, hf⟩ := h
  rcases open_ints Tryz.underlying42 Tryz.underlying3 cells_int hf with ⟨hcs, _⟩ | ⟨a, len', cap', zs, hcs, _, hl, hm, hz, _, hcell, _⟩
  · have e : Value.slice a0 len cap = .slice none 0 0 := by simpa [Value.cells] using hcs
    exact ⟨[], by unfold maxLen; simp, .inl ⟨rfl, none, 0, e⟩⟩
  · have e : Value.slice a0 len cap = .slice (some a) len' cap' := by simpa [Value.cells] using hcs
    injection e with e1 e2 e3
    subst e1; subst e2; subst e3
    rw [if_pos rfl] at hz
    have hlen : (zs.take len).length = len := by rw [List.length_take]; omega
    refine ⟨zs.take len, by rw [hlen]; omega, ?_⟩
    by_cases h0 : len = 0
    · refine .inl ⟨List.length_eq_zero_iff.1 (by omega), some a, cap, by rw [h0]⟩
    · obtain ⟨b, off, spot⟩ := a
      have hspot : spot = none := by simpa [Addr.add] using World.cell?_spot (hcell 0 (by omega))
      subst hspot
      refine .inr ⟨b, off, cap, by rw [hlen], ?_, fun j hj => ?_⟩
      · have := World.block_lt_of_cell? _ _ (hcell 0 (by omega))
        simpa [Addr.add] using this
      · have := hcell j (by omega)
        rw [Go.WideShapes.add_plain] at this
        rw [this, List.getElem_take, List.getD_eq_getElem?_getD, List.getElem?_eq_getElem (by omega)]
        rfl

end Go.Proofs.YtpdnpphjlnlneaaGreatDoor
