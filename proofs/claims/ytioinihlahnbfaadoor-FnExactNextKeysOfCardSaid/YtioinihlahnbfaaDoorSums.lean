/- Presses counted, letter by letter, alike by the program and by its model. No conditions but the table's content. -/
import Derived.Test.YtioinihlahnbfaaDoorKeys
namespace Go.Proofs.YtioinihlahnbfaaDoor
open Go.RowKit

/-- The presses of letters. -/
def cntL : List UInt8 → Int
  | [] => 0
  | c :: l => pl c.toNat + 1 + cntL l
theorem cntL_snoc (l : List UInt8) (c : UInt8) : cntL (l ++ [c]) = cntL l + (pl c.toNat + 1) := by
  induction l with
  | nil => simp [cntL]
  | cons d l ih => simp only [List.cons_append, cntL, ih]; omega
theorem cntL_bd : ∀ l : List UInt8, (∀ c ∈ l, isL c.toNat = true) → 0 ≤ cntL l ∧ cntL l ≤ 4 * l.length
  | [], _ => ⟨Int.le_refl _, Int.le_refl _⟩
  | c :: l, h => by
    have h1 := pl_bd c.toNat (h c (by simp))
    have h2 := cntL_bd l (fun d hd => h d (by simp [hd]))
    simp only [cntL, List.length_cons]
    omega
def cntV (s : ByteArray) : Int := if isW s then cntL s.data.toList else 0
theorem cntV_no {s : ByteArray} (h : isW s = false) : cntV s = 0 := by unfold cntV; simp [h]
theorem cntV_yes {s : ByteArray} (h : isW s = true) : cntV s = cntL s.data.toList := by unfold cntV; simp [h]
theorem isW_size {s : ByteArray} (h : isW s = true) : 1 ≤ s.size ∧ s.size ≤ 40 := by unfold isW at h; simp at h; exact h.1
theorem isW_mem {s : ByteArray} (h : isW s = true) : ∀ c ∈ s.data.toList, isL c.toNat = true := by
  unfold isW at h; simp only [Bool.and_eq_true, List.all_eq_true] at h; exact h.2
theorem take_snoc (s : ByteArray) (k : Nat) (h : k < s.size) : s.data.toList.take (k + 1) = s.data.toList.take k ++ [s[k]] := by
  rw [List.take_succ_eq_append_getElem (by simpa using h)]; rfl
theorem take_all (s : ByteArray) (k : Nat) (h : s.size ≤ k) : s.data.toList.take k = s.data.toList := List.take_of_length_le (by simpa using h)

end Go.Proofs.YtioinihlahnbfaaDoor
