/- Walks: the program's test and its model's. No conditions. -/
import Derived.Test.YtdhcknknmloopaaNx
namespace Go.Proofs.Ytdhcknknmloopaa
open Go.RowKit

/-- A text's digit. -/
def dgt (s : ByteArray) (i : Nat) : Nat := (s.data.toList.getD i 0).toNat - 48
theorem dgt_of {s : ByteArray} (h : isWk s = true) {i : Nat} (hi : i < s.size) : dgt s i < 10 ∧ ((s[i]'hi).toNat : Int) = (dgt s i : Int) + 48 := by
  have hb := isWk_bd h i hi
  have e : s.data.toList.getD i 0 = s[i]'hi := by
    rw [List.getD_eq_getElem?_getD, List.getElem?_eq_getElem (show i < s.data.toList.length by simpa using hi)]
    rfl
  unfold dgt
  rw [e]
  omega
def dgs (s : ByteArray) : List Nat := s.data.toList.map fun b => b.toNat - 48
theorem dgs_len (s : ByteArray) : (dgs s).length = s.size := by unfold dgs; rw [List.length_map]; simp
theorem dgs_at (s : ByteArray) (k : Nat) (h : k < (dgs s).length) : (dgs s)[k] = dgt s k := by
  have h2 : k < (s.data.toList.map fun b => b.toNat - 48).length := h
  show (s.data.toList.map fun b => b.toNat - 48)[k]'h2 = _
  rw [List.getElem_map]
  unfold dgt
  rw [List.getD_eq_getElem?_getD, List.getElem?_eq_getElem (by simpa using h2)]
  rfl
/-- The steps of a text are steps of a piece, as far as so many digits. -/
def wg (p : Nat) (s : ByteArray) : Nat → Bool
  | 0 => true
  | 1 => true
  | n + 2 => wg p s (n + 1) && goB p (dgt s n) (dgt s (n + 1))
theorem wg_yes {p : Nat} {s : ByteArray} {j : Nat} (h : wg p s (j + 1) = true) (hl : goB p (dgt s j) (dgt s (j + 1)) = true) : wg p s (j + 1 + 1) = true := by
  rw [wg, h, hl]; rfl
theorem wg_bad {p : Nat} {s : ByteArray} {j : Nat} (hl : goB p (dgt s j) (dgt s (j + 1)) = false) : wg p s (j + 1 + 1) = false := by
  rw [wg, hl, Bool.and_false]
theorem wg_no {p : Nat} {s : ByteArray} {k : Nat} (h : wg p s k = false) : ∀ m, k ≤ m → wg p s m = false := by
  intro m hm
  induction m with
  | zero => obtain rfl : k = 0 := by omega
            cases h
  | succ m ih =>
    by_cases e : k = m + 1
    · rw [← e]; exact h
    · cases m with
      | zero => obtain rfl : k = 0 := by omega
                cases h
      | succ m => rw [wg, ih (by omega)]; rfl
def isWlk (p : Nat) (s : ByteArray) : Bool := isWk s && wg p s s.size
theorem isWlk_d {p : Nat} {s : ByteArray} (h : isWk s = false) : isWlk p s = false := by unfold isWlk; rw [h]; rfl
theorem isWlk_n {p : Nat} {s : ByteArray} {k : Nat} (h : wg p s k = false) (hk : k ≤ s.size) : isWlk p s = false := by unfold isWlk; rw [wg_no h _ hk, Bool.and_false]
theorem isWlk_y {p : Nat} {s : ByteArray} (h : isWk s = true) (h2 : wg p s s.size = true) : isWlk p s = true := by unfold isWlk; rw [h, h2]; rfl
theorem isWlk_parts {p : Nat} {s : ByteArray} (h : isWlk p s = true) : isWk s = true ∧ wg p s s.size = true := by
  unfold isWlk at h
  rw [Bool.and_eq_true] at h
  exact h