/- Lists of texts and of numbers apart from a puzzle's own clues. No conditions. -/
import Derived.Test.YtpdnpphjlnlneaaGreatDoorMkC
import Derived.Test.YtpdnpphjlnlneaaGreatDoorOwnS
import Derived.Test.YtpdnpphjlnlneaaGreatDoorInts
namespace Go.Proofs.YtpdnpphjlnlneaaGreatDoor
open Go.RowKit

theorem ob_no {a ob : Option Nat} (ho : ob = none) : a = none ∨ a ≠ ob := by
  by_cases h : a = none
  · exact .inl h
  · exact .inr (fun e => h (e.trans ho))
theorem apS_hi {B n : Nat} {w : World} {v : Value} {ts : List ByteArray} (h : RowS B w v ts) {ob : Option Nat} (ho : ob = none ∨ ∃ g, ob = some g ∧ w.heap.size ≤ g ∧ g < n) : v.ownBlock = none ∨ v.ownBlock ≠ ob := by
  rcases ho with e | ⟨g, e, h1, _⟩
  · exact ob_no e
  · rw [e]; exact h.apart g (.inr h1)
theorem apS_lo {B n m : Nat} {w : World} {v : Value} {ts : List ByteArray} (h : RowS B w v ts) {ob : Option Nat} (ho : ob = none ∨ ∃ g, ob = some g ∧ n ≤ g ∧ g < m) (hm : m ≤ B) : v.ownBlock = none ∨ v.ownBlock ≠ ob := by
  rcases ho with e | ⟨g, e, _, h1⟩
  · exact ob_no e
  · rw [e]; exact h.apart g (.inl (Nat.lt_of_lt_of_le h1 hm))
theorem apI_hi {B n : Nat} {w : World} {v : Value} {ts : List Int} (h : RowI B w v ts) {ob : Option Nat} (ho : ob = none ∨ ∃ g, ob = some g ∧ w.heap.size ≤ g ∧ g < n) : v.ownBlock = none ∨ v.ownBlock ≠ ob := by
  rcases ho with e | ⟨g, e, h1, _⟩
  · exact ob_no e
  · rcases h.2 with ⟨rfl, _⟩ | ⟨g', cap, cur, rfl, hB, hb, _⟩
    · exact .inl rfl
    · refine .inr (fun e2 => ?_)
      rw [e] at e2
      cases e2
      rw [Array.getElem?_eq_none h1] at hb; cases hb
theorem apI_lo {B n m : Nat} {w : World} {v : Value} {ts : List Int} (h : RowI B w v ts) {ob : Option Nat} (ho : ob = none ∨ ∃ g, ob = some g ∧ n ≤ g ∧ g < m) (hm : m ≤ B) : v.ownBlock = none ∨ v.ownBlock ≠ ob := by
  rcases ho with e | ⟨g, e, _, h1⟩
  · exact ob_no e
  · rcases h.2 with ⟨rfl, _⟩ | ⟨g', cap, cur, rfl, hB, hb, _⟩
    · exact .inl rfl
    · refine .inr (fun e2 => ?_)
      rw [e] at e2
      cases e2
      have h9 : g' < m := h1
      omega
theorem ob_ge {n m : Nat} {ob : Option Nat} (ho : ob = none ∨ ∃ g, ob = some g ∧ n ≤ g ∧ g < m) (j : Nat) (hj : ob = some j) : n ≤ j := by
  rcases ho with e | ⟨g, e, h1, _⟩
  · rw [e] at hj; cases hj
  · rw [e] at hj; cases hj; exact h1
end Go.Proofs.YtpdnpphjlnlneaaGreatDoor
