/- From which digit to which one a piece goes: the program's way and its model's. No conditions. -/
import Derived.Test.YtdhcknknmloopaaWk
namespace Go.Proofs.Ytdhcknknmloopaa
open Go.RowKit

/-- The place of a digit. -/
def dpl (d : Nat) : Nat := if d = 0 then 10 else d - 1
theorem dpl_lt {d : Nat} (h : d < 10) : dpl d < 12 := by unfold dpl; split <;> omega
/-- A piece goes from a digit to another one. -/
def goB (p i j : Nat) : Bool :=
  let s := far false (dpl i) (dpl j)
  let c := far true (dpl i) (dpl j)
  if p = 0 then decide (s = 3) && decide (c = 2) else if p = 1 then decide (c = 1) else if p = 2 then decide (s = c) && decide (0 < s) else decide (s = 2 * c) && decide (0 < s)
theorem goB_n (i j : Nat) : goB 0 i j = (decide (far false (dpl i) (dpl j) = 3) && decide (far true (dpl i) (dpl j) = 2)) := rfl
theorem goB_k (i j : Nat) : goB 1 i j = decide (far true (dpl i) (dpl j) = 1) := rfl
theorem goB_r (i j : Nat) : goB 2 i j = (decide (far false (dpl i) (dpl j) = far true (dpl i) (dpl j)) && decide (0 < far false (dpl i) (dpl j))) := rfl
theorem goB_b (i j : Nat) : goB 3 i j = (decide (far false (dpl i) (dpl j) = 2 * far true (dpl i) (dpl j)) && decide (0 < far false (dpl i) (dpl j))) := rfl
def dgB (d : Nat) : ByteArray := (⟨#[48, 49, 50, 51, 52, 53, 54, 55, 56, 57]⟩ : ByteArray).extract d (d + 1)
theorem dgB_eq (d : Nat) : (⟨#[48, 49, 50, 51, 52, 53, 54, 55, 56, 57]⟩ : ByteArray).extract d (d + 1) = dgB d := rfl
theorem dpl_all : ∀ d : Nat, d < 10 → isK ((digL.getD d 0).toNat) = true ∧ pn (digL.getD d 0) = dpl d := of_decide_eq_true (by kernel_rfl)
theorem dgB_one {d : Nat} (h : d < 10) : dgB d = ⟨#[digL.getD d 0]⟩ := by
  unfold dgB
  rw [ext1 ⟨#[48, 49, 50, 51, 52, 53, 54, 55, 56, 57]⟩ d (show d < 10 from h)]
  congr 2
  rw [List.getD_eq_getElem?_getD, List.getElem?_eq_getElem (show d < digL.length from h)]
  rfl

/-! ### The model's -/
/-- One of a row's or column's way to another one. -/
def stp (x a : Nat) : Nat := if a < x then a + 1 else if x < a then a - 1 else a
def atN (a b : Nat) : Bool := decide (a = 1 ∧ b = 3) || decide (a ≤ 2 ∧ b ≤ 2)
def clr : Nat → Nat → Nat → Nat → Nat → Bool
  | 0, _, _, _, _ => true
  | n + 1, a, b, x, y => decide (a = x ∧ b = y) || (atN (stp x a) (stp y b) && clr n (stp x a) (stp y b) x y)
def canS (p x y : Nat) : Bool := if p = 0 then decide (x * y = 2) else if p = 1 then decide (max x y = 1) else if p = 2 then decide (x * y = 0) && decide (0 < x + y) else decide (x = y) && decide (0 < x)
theorem goB_all : ∀ p : Nat, p < 4 → ∀ i : Nat, i < 10 → ∀ j : Nat, j < 10 → (canS p (absd (dpl j % 3) (dpl i % 3)) (absd (dpl j / 3) (dpl i / 3)) && (decide (p = 0) || clr 3 (dpl i % 3) (dpl i / 3) (dpl j % 3) (dpl j / 3))) = goB p i j := of_decide_eq_true (by kernel_rfl)
theorem clr_end (n a b : Nat) : clr n a b a b = true := by
  cases n
  · rfl
  · unfold clr; rw [decide_eq_true ⟨rfl, rfl⟩]; rfl
theorem clr_step {n a b x y : Nat} (h : ¬ (a = x ∧ b = y)) : clr (n + 1) a b x y = (atN (stp x a) (stp y b) && clr n (stp x a) (stp y b) x y) := by
  rw [clr, decide_eq_false h]; rfl
theorem stp_int (x a : Nat) : (a : Int) + Int.sign ((x : Int) - a) = (stp x a : Nat) := by
  unfold stp
  split
  · rw [Int.sign_eq_one_of_pos (by omega)]; omega
  · split
    · rw [Int.sign_eq_neg_one_of_neg (by omega)]; omega
    · rw [show (x : Int) - a = 0 by omega]; simp
theorem stp_le {x a m : Nat} (h1 : x ≤ m) (h2 : a ≤ m) : stp x a ≤ m := by unfold stp; split <;> (try split) <;> omega
theorem stp_absd (x a : Nat) : absd (stp x a) x = absd a x - 1 := by unfold stp absd; split <;> (try split) <;> omega