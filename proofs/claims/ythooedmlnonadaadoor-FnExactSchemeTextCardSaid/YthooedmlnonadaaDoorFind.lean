/- Where a text stands in a list, and whether it does: the library's search, the program's look and its model's. No conditions. -/
import Derived.Test.YthooedmlnonadaaDoorDict
import Derived.Lib.Strings
namespace Go.Proofs.YthooedmlnonadaaDoor
open Go.RowKit

/-- The place of the first such text, or the list's length. -/
def fx (ss : List ByteArray) (s : ByteArray) : Nat := ss.findIdx fun t => decide (t = s)
def hasS (ss : List ByteArray) (s : ByteArray) : Bool := decide (fx ss s < ss.length)
def fxI (ss : List ByteArray) (s : ByteArray) : Int := if fx ss s < ss.length then (fx ss s : Int) else -1
theorem fx_hit {ss : List ByteArray} {s : ByteArray} {k : Nat} (h : k < ss.length) (he : ss[k] = s) (hn : ∀ j (hj : j < ss.length), j < k → ¬ ss[j] = s) : fx ss s = k := by
  unfold fx
  rw [List.findIdx_eq h]
  exact ⟨by simp [he], fun j hj => by simp [hn j (by omega) hj]⟩
theorem fx_none {ss : List ByteArray} {s : ByteArray} (hn : ∀ j (hj : j < ss.length), ¬ ss[j] = s) : fx ss s = ss.length := by
  unfold fx
  rw [List.findIdx_eq_length]
  intro x hx
  obtain ⟨j, hj, rfl⟩ := List.mem_iff_getElem.1 hx
  simp [hn j hj]
theorem hasS_yes {ss : List ByteArray} {s : ByteArray} {k : Nat} (h : k < ss.length) (he : ss[k] = s) (hn : ∀ j (hj : j < ss.length), j < k → ¬ ss[j] = s) : hasS ss s = true := by
  unfold hasS; rw [fx_hit h he hn]; exact decide_eq_true h
theorem hasS_no {ss : List ByteArray} {s : ByteArray} (hn : ∀ j (hj : j < ss.length), ¬ ss[j] = s) : hasS ss s = false := by
  unfold hasS; rw [fx_none hn]; exact decide_eq_false (Nat.lt_irrefl _)
theorem fxI_yes {ss : List ByteArray} {s : ByteArray} {k : Nat} (h : k < ss.length) (he : ss[k] = s) (hn : ∀ j (hj : j < ss.length), j < k → ¬ ss[j] = s) : fxI ss s = k := by
  unfold fxI; rw [fx_hit h he hn, if_pos h]
theorem fxI_no {ss : List ByteArray} {s : ByteArray} (hn : ∀ j (hj : j < ss.length), ¬ ss[j] = s) : fxI ss s = -1 := by
  unfold fxI; rw [fx_none hn, if_neg (Nat.lt_irrefl _)]
theorem fxI_has (ss : List ByteArray) (s : ByteArray) : decide (0 ≤ fxI ss s) = hasS ss s := by
  unfold fxI hasS
  by_cases h : fx ss s < ss.length
  · rw [if_pos h, decide_eq_true h]; exact decide_eq_true (by omega)
  · rw [if_neg h, decide_eq_false h]; rfl
theorem fx_at {ss : List ByteArray} {s : ByteArray} (h : hasS ss s = true) : ∃ hl : fx ss s < ss.length, ss[fx ss s] = s := by
  unfold hasS at h
  have hl : fx ss s < ss.length := of_decide_eq_true h
  refine ⟨hl, ?_⟩
  have := List.findIdx_getElem (xs := ss) (p := fun t => decide (t = s)) (w := hl)
  exact of_decide_eq_true this
theorem ret_intF {a a' : Int} {k : IntKind} (h : a = a') : Ending.returned (.int k a) = .returned (.int k a') := by rw [h]
theorem bytesInj {a b : ByteArray} (h : a.data.toList = b.data.toList) : a = b := ByteArray.ext (Array.toList_inj.1 h)
theorem beqT (a b : ByteArray) : (a.toList == b.toList) = decide (a = b) := by
  rw [Lib.toList_data, Lib.toList_data]
  by_cases h : a = b
  · subst h; simp
  · rw [decide_eq_false h, beq_eq_false_iff_ne]; exact fun h2 => h (bytesInj h2)

/-- A dictionary and a word of it. -/
def ofB (ss : List ByteArray) (s : ByteArray) : Bool := dicB ss && hasS ss s

end Go.Proofs.YthooedmlnonadaaDoor
