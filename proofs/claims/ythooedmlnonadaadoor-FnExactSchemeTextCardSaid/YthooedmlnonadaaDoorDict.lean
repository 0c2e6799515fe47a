/- Dictionaries: the program's test of them and its model's answer alike: both are the plain function 'dicB'. No conditions. -/
import Derived.Test.YthooedmlnonadaaDoorStrs
namespace Go.Proofs.YthooedmlnonadaaDoor
open Go.RowKit

def lessB (a b : ByteArray) : Bool := Op.bytesLess a.toList b.toList
/-- A word of few letters. -/
def wdW (s : ByteArray) : Bool := isW s && decide (s.size ≤ 10)
/-- The text at a place is a word of few letters behind the one ahead of it. -/
def okAt (ss : List ByteArray) (i : Nat) : Bool := wdW (ss.getD i ⟨#[]⟩) && (i == 0 || lessB (ss.getD (i - 1) ⟨#[]⟩) (ss.getD i ⟨#[]⟩))
def dicB (ss : List ByteArray) : Bool := decide (1 ≤ ss.length) && decide (ss.length ≤ 12) && (List.range ss.length).all (okAt ss)

theorem okAt_eq (ss : List ByteArray) (k : Nat) (h : k < ss.length) (h0 : 0 < k) : okAt ss k = (wdW ss[k] && lessB (ss[k - 1]'(by omega)) ss[k]) := by
  have e1 : ss.getD k ⟨#[]⟩ = ss[k] := by rw [List.getD_eq_getElem?_getD, List.getElem?_eq_getElem h]; rfl
  have e2 : ss.getD (k - 1) ⟨#[]⟩ = ss[k - 1]'(by omega) := by rw [List.getD_eq_getElem?_getD, List.getElem?_eq_getElem (by omega)]; rfl
  have e3 : (k == 0) = false := by simp; omega
  unfold okAt
  rw [e1, e2, e3, Bool.false_or]
theorem okAt_zero (ss : List ByteArray) (h : 0 < ss.length) : okAt ss 0 = wdW ss[0] := by
  have e1 : ss.getD 0 ⟨#[]⟩ = ss[0] := by rw [List.getD_eq_getElem?_getD, List.getElem?_eq_getElem h]; rfl
  unfold okAt
  rw [e1]; simp
theorem okAt_word (ss : List ByteArray) (k : Nat) (h : k < ss.length) (hw : wdW ss[k] = false) : okAt ss k = false := by
  have e1 : ss.getD k ⟨#[]⟩ = ss[k] := by rw [List.getD_eq_getElem?_getD, List.getElem?_eq_getElem h]; rfl
  unfold okAt
  rw [e1, hw]; rfl
theorem dicB_short {ss : List ByteArray} (h : ss.length < 1) : dicB ss = false := by
  unfold dicB
  rw [decide_eq_false (by omega : ¬ 1 ≤ ss.length)]; rfl
theorem dicB_long {ss : List ByteArray} (h : 12 < ss.length) : dicB ss = false := by
  unfold dicB
  rw [decide_eq_false (by omega : ¬ ss.length ≤ 12), Bool.and_false]; rfl
theorem dicB_no {ss : List ByteArray} (k : Nat) (h : k < ss.length) (hk : okAt ss k = false) : dicB ss = false := by
  have : (List.range ss.length).all (okAt ss) = false := by
    rw [List.all_eq_false]
    exact ⟨k, List.mem_range.2 h, by simp [hk]⟩
  unfold dicB
  rw [this, Bool.and_false]
theorem dicB_yes {ss : List ByteArray} (h1 : 1 ≤ ss.length) (h2 : ss.length ≤ 12) (h : ∀ j, j < ss.length → okAt ss j = true) : dicB ss = true := by
  have : (List.range ss.length).all (okAt ss) = true := by
    rw [List.all_eq_true]
    exact fun j hj => h j (List.mem_range.1 hj)
  unfold dicB
  rw [this, decide_eq_true h1, decide_eq_true h2]; rfl
theorem dicB_len {ss : List ByteArray} (h : dicB ss = true) : 1 ≤ ss.length ∧ ss.length ≤ 12 := by
  unfold dicB at h
  simp only [Bool.and_eq_true, decide_eq_true_eq] at h
  exact h.1
theorem dicB_at {ss : List ByteArray} (h : dicB ss = true) (k : Nat) (hk : k < ss.length) : wdW ss[k] = true := by
  unfold dicB at h
  simp only [Bool.and_eq_true, List.all_eq_true, List.mem_range] at h
  have h2 := h.2 k hk
  cases hw : wdW ss[k]
  · rw [okAt_word ss k hk hw] at h2; exact h2
  · rfl
theorem dicB_mem {ss : List ByteArray} (h : dicB ss = true) (s : ByteArray) (hs : s ∈ ss) : wdW s = true := by
  obtain ⟨k, hk, rfl⟩ := List.mem_iff_getElem.1 hs
  exact dicB_at h k hk
theorem wdW_isW {s : ByteArray} (h : wdW s = true) : isW s = true := by unfold wdW at h; simp only [Bool.and_eq_true] at h; exact h.1
theorem wdW_size {s : ByteArray} (h : wdW s = true) : s.size ≤ 10 := by unfold wdW at h; simp only [Bool.and_eq_true, decide_eq_true_eq] at h; exact h.2
theorem wdW_no1 {s : ByteArray} (h : isW s = false) : wdW s = false := by unfold wdW; rw [h]; rfl
theorem wdW_no2 {s : ByteArray} (h : 10 < s.size) : wdW s = false := by unfold wdW; rw [decide_eq_false (by omega : ¬ s.size ≤ 10), Bool.and_false]
theorem wdW_yes {s : ByteArray} (h : isW s = true) (h2 : s.size ≤ 10) : wdW s = true := by unfold wdW; rw [h, decide_eq_true h2]; rfl

end Go.Proofs.YthooedmlnonadaaDoor
