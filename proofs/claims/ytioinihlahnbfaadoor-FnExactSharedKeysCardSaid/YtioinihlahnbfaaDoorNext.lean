/- How often one presses for a word of a dictionary with a next key: alike by the program and by its model. No conditions but the table's content. -/
import Derived.Test.YtioinihlahnbfaaDoorKept
import Derived.Test.YtioinihlahnbfaaDoorFind
namespace Go.Proofs.YtioinihlahnbfaaDoor
open Go.RowKit

/-- One press a key, and one for each word of these keys ahead of this one. -/
def prs (ss : List ByteArray) (s : ByteArray) : Nat := s.size + fx (fors ss (keysB s)) s
theorem fors_has {ss : List ByteArray} {s : ByteArray} (h : ofB ss s = true) : hasS (fors ss (keysB s)) s = true := by
  unfold ofB at h
  simp only [Bool.and_eq_true] at h
  obtain ⟨hl, he⟩ := fx_at h.2
  have hm : s ∈ fors ss (keysB s) := List.mem_filter.2 ⟨he ▸ List.getElem_mem hl, by simp⟩
  obtain ⟨j, hj, hjs⟩ := List.mem_iff_getElem.1 hm
  cases hh : hasS (fors ss (keysB s)) s
  · exfalso
    unfold hasS at hh
    have hno := of_decide_eq_false hh
    have hlt : fx (fors ss (keysB s)) s < (fors ss (keysB s)).length := by
      unfold fx
      exact List.findIdx_lt_length_of_exists ⟨s, hm, by simp⟩
    exact hno hlt
  · rfl
theorem fxI_at {ss : List ByteArray} {s : ByteArray} (h : hasS ss s = true) : fxI ss s = fx ss s := by
  obtain ⟨hl, _⟩ := fx_at h
  unfold fxI; rw [if_pos hl]
theorem ofB_dic2 {ss : List ByteArray} {s : ByteArray} (h : ofB ss s = true) : dicB ss = true := by unfold ofB at h; simp only [Bool.and_eq_true] at h; exact h.1
theorem ofB_word2 {ss : List ByteArray} {s : ByteArray} (h : ofB ss s = true) : wdW s = true := by
  have hd := ofB_dic2 h
  unfold ofB at h
  simp only [Bool.and_eq_true] at h
  obtain ⟨hl, he⟩ := fx_at h.2
  rw [← he]
  exact dicB_at hd _ hl
theorem prs_le {ss : List ByteArray} {s : ByteArray} (h : ofB ss s = true) : prs ss s ≤ 22 := by
  obtain ⟨hl, _⟩ := fx_at (fors_has h)
  have h1 := fors_len ss (keysB s)
  have h2 := dicB_len (ofB_dic2 h)
  have h3 := wdW_size (ofB_word2 h)
  unfold prs
  omega
theorem fors_sz {ss : List ByteArray} {q : ByteArray} (h : dicB ss = true) : ∀ t ∈ fors ss q, t.size ≤ maxLen := fun t ht => by
  have := wdW_size (dicB_mem h t (fors_mem ht))
  unfold maxLen
  omega
theorem fors_l12 {ss : List ByteArray} {q : ByteArray} (h : dicB ss = true) : (fors ss q).length ≤ 12 := Nat.le_trans (fors_len ss q) (dicB_len h).2

end Go.Proofs.YtioinihlahnbfaaDoor
