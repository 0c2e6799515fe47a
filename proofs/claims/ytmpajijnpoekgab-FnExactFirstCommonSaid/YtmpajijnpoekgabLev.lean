/- The least number of typos between two texts, and between what is left of them. No program in particular. -/
import Derived.Test.YtmpajijnpoekgabByR
namespace Go.Proofs.Ytmpajijnpoekgab
open Go.RowKit

/-- The least number of typos between two lists of signs. -/
def lev : List UInt8 → List UInt8 → Nat
  | [], b => b.length
  | x :: a, [] => (x :: a).length
  | x :: a, y :: b => if x = y then lev a b else 1 + min (min (lev a (y :: b)) (lev (x :: a) b)) (lev a b)
termination_by a b => a.length + b.length

theorem lev_nil (b : List UInt8) : lev [] b = b.length := by rw [lev]
theorem lev_nil2 (a : List UInt8) : lev a [] = a.length := by cases a <;> simp [lev]
theorem lev_same (x : UInt8) (a b : List UInt8) : lev (x :: a) (x :: b) = lev a b := by rw [lev]; simp
theorem lev_other {x y : UInt8} (h : x ≠ y) (a b : List UInt8) : lev (x :: a) (y :: b) = 1 + min (min (lev a (y :: b)) (lev (x :: a) b)) (lev a b) := by rw [lev]; simp [h]
theorem lev_near (n : Nat) : ∀ a b : List UInt8, a.length + b.length ≤ n → ∀ x y, lev (x :: a) b ≤ lev a b + 1 ∧ lev a (y :: b) ≤ lev a b + 1 ∧ lev a b ≤ lev (x :: a) b + 1 ∧ lev a b ≤ lev a (y :: b) + 1 := by
  induction n with
  | zero =>
    intro a b h x y
    obtain rfl : a = [] := List.length_eq_zero_iff.1 (by omega)
    obtain rfl : b = [] := List.length_eq_zero_iff.1 (by omega)
    simp [lev]
  | succ n ih =>
    intro a b h x y
    have hA : lev (x :: a) b ≤ lev a b + 1 := by
      cases b with
      | nil => simp [lev_nil2]
      | cons z b =>
        simp only [List.length_cons] at h
        by_cases e : x = z
        · subst e; rw [lev_same]; exact (ih a b (by omega) x x).2.2.2
        · rw [lev_other e]; omega
    have hB : lev a (y :: b) ≤ lev a b + 1 := by
      cases a with
      | nil => simp [lev_nil]
      | cons z a =>
        simp only [List.length_cons] at h
        by_cases e : z = y
        · subst e; rw [lev_same]; exact (ih a b (by omega) z z).2.2.1
        · rw [lev_other e]; omega
    refine ⟨hA, hB, ?_, ?_⟩
    · cases b with
      | nil => simp [lev_nil2]; omega
      | cons z b =>
        simp only [List.length_cons] at h
        have h1 := ih a b (by omega) x z
        by_cases e : x = z
        · subst e; rw [lev_same]; exact h1.2.1
        · rw [lev_other e]
          omega
    · cases a with
      | nil => simp [lev_nil]; omega
      | cons z a =>
        simp only [List.length_cons] at h
        have h1 := ih a b (by omega) z y
        by_cases e : z = y
        · subst e; rw [lev_same]; exact h1.1
        · rw [lev_other e]
          omega
/-- The model's way. -/
theorem lev_model (x y : UInt8) (a b : List UInt8) : lev (x :: a) (y :: b) = min (min (lev a (y :: b)) (lev (x :: a) b) + 1) (lev a b + if x = y then 0 else 1) := by
  have h := lev_near (a.length + b.length) a b (Nat.le_refl _) x y
  by_cases e : x = y
  · subst e
    rw [lev_same, if_pos rfl]
    omega
  · rw [lev_other e, if_neg e]
    omega
theorem lev_le (n : Nat) : ∀ a b : List UInt8, a.length + b.length ≤ n → lev a b ≤ a.length + b.length := by
  induction n with
  | zero => 
    intro a b h
    obtain rfl : a = [] := List.length_eq_zero_iff.1 (by omega)
    simp [lev]
  | succ n ih =>
    intro a b h
    cases a with
    | nil => simp [lev_nil]
    | cons x a =>
      cases b with
      | nil => simp [lev_nil2]
      | cons y b =>
        simp only [List.length_cons] at h ⊢
        rw [lev_model]
        have := ih a (y :: b) (by simp only [List.length_cons]; omega)
        simp only [List.length_cons] at this
        omega
theorem lev_max (n : Nat) : ∀ a b : List UInt8, a.length + b.length ≤ n → lev a b ≤ max a.length b.length := by
  induction n with
  | zero =>
    intro a b h
    obtain rfl : a = [] := List.length_eq_zero_iff.1 (by omega)
    simp [lev]
  | succ n ih =>
    intro a b h
    cases a with
    | nil => simp [lev_nil]
    | cons x a =>
      cases b with
      | nil => simp [lev_nil2]
      | cons y b =>
        simp only [List.length_cons] at h ⊢
        rw [lev_model]
        have := ih a b (by omega)
        split <;> omega
/-- The distance of what is left of two texts from two places on. -/
def lv (s t : ByteArray) (i j : Nat) : Nat := lev (s.data.toList.drop i) (t.data.toList.drop j)
theorem dropAt (s : ByteArray) (i : Nat) (h : i < s.size) : s.data.toList.drop i = sg s i :: s.data.toList.drop (i + 1) := by
  rw [List.drop_eq_getElem_cons (by simpa using h)]
  congr 1
  unfold sg
  rw [List.getD_eq_getElem?_getD, List.getElem?_eq_getElem (by simpa using h)]
  rfl
theorem lv_end (s t : ByteArray) (j : Nat) : lv s t s.size j = t.size - j := by
  unfold lv
  rw [List.drop_of_length_le (by simp), lev_nil, List.length_drop]
  simp
theorem lv_end2 (s t : ByteArray) (i : Nat) : lv s t i t.size = s.size - i := by
  unfold lv
  rw [List.drop_of_length_le (l := t.data.toList) (by simp), lev_nil2, List.length_drop]
  simp
theorem lv_same {s t : ByteArray} {i j : Nat} (h : i < s.size) (k : j < t.size) (e : sg s i = sg t j) : lv s t i j = lv s t (i + 1) (j + 1) := by
  unfold lv
  rw [dropAt s i h, dropAt t j k, e, lev_same]
theorem lv_other {s t : ByteArray} {i j : Nat} (h : i < s.size) (k : j < t.size) (e : sg s i ≠ sg t j) : lv s t i j = 1 + min (min (lv s t (i + 1) j) (lv s t i (j + 1))) (lv s t (i + 1) (j + 1)) := by
  unfold lv
  rw [dropAt s i h, dropAt t j k, lev_other e, ← dropAt s i h, ← dropAt t j k]
theorem lv_model {s t : ByteArray} {i j : Nat} (h : i < s.size) (k : j < t.size) : lv s t i j = min (min (lv s t (i + 1) j) (lv s t i (j + 1)) + 1) (lv s t (i + 1) (j + 1) + if sg s i = sg t j then 0 else 1) := by
  unfold lv
  rw [dropAt s i h, dropAt t j k, lev_model, ← dropAt s i h, ← dropAt t j k]
theorem lv_max (s t : ByteArray) (i j : Nat) : lv s t i j ≤ max s.size t.size := by
  have := lev_max _ (s.data.toList.drop i) (t.data.toList.drop j) (Nat.le_refl _)
  have e1 : (s.data.toList.drop i).length = s.size - i := by rw [List.length_drop]; simp
  have e2 : (t.data.toList.drop j).length = t.size - j := by rw [List.length_drop]; simp
  unfold lv
  omega
end Go.Proofs.Ytmpajijnpoekgab
