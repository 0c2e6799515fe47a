/- Whether a text has letters only, and not too many of them: the program's test and its model's. No conditions. -/
import Derived.Test.YtpdnpphjlnlneaaGreatDoorWord
import Derived.Test.YtpdnpphjlnlneaaGreatDoorPad
import Derived.Lib.OthersKept
import Derived.Laws.RangeAny
import Derived.Deep.QuietTactic
import Derived.BigQuiet
namespace Go.Proofs.YtpdnpphjlnlneaaGreatDoor
open Go.RowKit

def allL (s : ByteArray) : Bool := s.data.toList.all fun c => isL c.toNat
def isT (n : Nat) (s : ByteArray) : Bool := decide (s.size ≤ n) && allL s
theorem isT_big {n : Nat} {s : ByteArray} (h : n < s.size) : isT n s = false := by
  unfold isT
  rw [decide_eq_false (by omega)]
  rfl
theorem allL_no {s : ByteArray} (k : Nat) (h : k < s.size) (hL : isL s[k].toNat = false) : allL s = false := by
  have hm : s[k] ∈ s.data.toList := by
    have h2 : k < s.data.toList.length := by simpa using h
    have : s.data.toList[k] = s[k] := rfl
    rw [← this]; exact List.getElem_mem h2
  unfold allL
  rw [List.all_eq_false]; exact ⟨_, hm, by simp [hL]⟩
theorem isT_no {n : Nat} {s : ByteArray} (k : Nat) (h : k < s.size) (hL : isL s[k].toNat = false) : isT n s = false := by
  unfold isT
  rw [allL_no k h hL, Bool.and_false]
theorem isT_yes {n : Nat} {s : ByteArray} (h : s.size ≤ n) (h2 : (s.data.toList.take s.size).all (fun c => isL c.toNat) = true) : isT n s = true := by
  unfold isT allL
  rw [List.take_of_length_le (by simp)] at h2
  rw [decide_eq_true h, h2]
  rfl
theorem isT_size {n : Nat} {s : ByteArray} (h : isT n s = true) : s.size ≤ n := by
  unfold isT at h
  simp only [Bool.and_eq_true, decide_eq_true_eq] at h
  exact h.1
theorem isT_get {n : Nat} {s : ByteArray} (h : isT n s = true) (k : Nat) (hk : k < s.size) : isL s[k].toNat = true := by
  unfold isT allL at h
  simp only [Bool.and_eq_true, List.all_eq_true] at h
  have h2 : k < s.data.toList.length := by simpa using hk
  exact h.2 s[k] (List.getElem_mem h2)
theorem isT_bd {n : Nat} {s : ByteArray} (h : isT n s = true) (k : Nat) (hk : k < s.size) : 97 ≤ s[k].toNat ∧ s[k].toNat ≤ 122 := by
  have := isT_get h k hk
  unfold isL at this
  simp only [Bool.and_eq_true, decide_eq_true_eq] at this
  omega
theorem isL_of {c : Nat} (h : 97 ≤ c) (h2 : c ≤ 122) : isL (c : Int) = true := by
  unfold isL
  rw [decide_eq_true (by omega), decide_eq_true (by omega)]
  rfl
theorem isL_lo {c : Nat} (h : c < 97) : isL (c : Int) = false := by
  unfold isL
  rw [decide_eq_false (by omega)]
  rfl
theorem isL_hi {c : Nat} (h : 122 < c) : isL (c : Int) = false := by
  unfold isL
  rw [decide_eq_false (show ¬ (c : Int) ≤ 122 by omega), Bool.and_false]

/-- The sign at a place. -/
def sg (s : ByteArray) (k : Nat) : UInt8 := s.data.toList.getD k 0
theorem sg_at (s : ByteArray) (k : Nat) (h : k < s.size) : s[k] = sg s k := by
  unfold sg
  rw [List.getD_eq_getElem?_getD, List.getElem?_eq_getElem (by simpa using h)]
  rfl
theorem ixB (s : ByteArray) (k : Nat) (hk : k < s.size) (w : World) : (Instr.index 9 (.string s) (.int .i64 (k : Int))).run Tryz.prog w = .ok (.int .u8 ((sg s k).toNat : Int)) w := by
  have h1 : (0 : Int) ≤ (k : Int) := by omega
  have h2 : (k : Int) < (s.size : Int) := by omega
  rw [← sg_at s k hk]
  simp [go_sem, hk]
theorem sg_bd {n : Nat} {s : ByteArray} (h : isT n s = true) (k : Nat) (hk : k < s.size) : 97 ≤ (sg s k).toNat ∧ (sg s k).toNat ≤ 122 := by
  rw [← sg_at s k hk]; exact isT_bd h k hk
theorem iter_ext {w w' : World} {k : Nat} {q : ByteArray} {p : Nat} (h : w.heap[k]? = some (.stringIter q p)) (hx : Ext w w') : w'.heap[k]? = some (.stringIter q p) := (hx.block k (Array.getElem?_eq_some_iff.1 h).1).trans h
theorem ext_iter {a w : World} (h : Ext a w) {k : Nat} (hk : a.heap.size ≤ k) (q : ByteArray) (p : Nat) : Ext a (w.iterAt k q p) := Lib.below_iterAt h hk q p