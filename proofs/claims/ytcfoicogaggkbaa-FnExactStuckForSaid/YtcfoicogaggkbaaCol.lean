/- A text with one letter for each run: the program's way and its model's. No conditions. -/
import Derived.Test.YtcfoicogaggkbaaByR
namespace Go.Proofs.Ytcfoicogaggkbaa
open Go.RowKit

theorem ret_sB {a a' : ByteArray} {b b' : Bool} (h : a = a') (h2 : b = b') : Ending.returned (.tuple #[.string a, .bool b]) = .returned (.tuple #[.string a', .bool b']) := by rw [h, h2]
/-- The first sign of each run, of the first so many signs. -/
def col (s : ByteArray) : Nat → List UInt8
  | 0 => []
  | k + 1 => if k = 0 ∨ sg s (k - 1) ≠ sg s k then col s k ++ [sg s k] else col s k
theorem col_len (s : ByteArray) : ∀ k, (col s k).length ≤ k
  | 0 => Nat.le_refl _
  | k + 1 => by
    have := col_len s k
    rw [col]
    split
    · rw [List.length_append, List.length_singleton]; omega
    · omega
theorem col_yes {s : ByteArray} {k : Nat} (h : k = 0 ∨ sg s (k - 1) ≠ sg s k) : col s (k + 1) = col s k ++ [sg s k] := by rw [col, if_pos h]
theorem col_no {s : ByteArray} {k : Nat} (h : ¬ (k = 0 ∨ sg s (k - 1) ≠ sg s k)) : col s (k + 1) = col s k := by rw [col, if_neg h]
def colV (s : ByteArray) : ByteArray := if isT 20 s then tB (col s s.size) else ⟨#[]⟩
theorem colV_no {s : ByteArray} (h : isT 20 s = false) : colV s = ⟨#[]⟩ := by unfold colV; rw [h]; rfl
theorem colV_yes {s : ByteArray} (h : isT 20 s = true) : colV s = tB (col s s.size) := by unfold colV; rw [h]; rfl
theorem sg_eq {s t : ByteArray} {i j : Nat} : sg s i = sg t j ↔ ((sg s i).toNat : Int) = ((sg t j).toNat : Int) := by
  constructor
  · intro h; rw [h]
  · intro h; exact UInt8.toNat_inj.1 (by omega)