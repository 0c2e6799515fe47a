/- The program's word test and its model's answer alike: both are the plain function 'isW'. No conditions. -/
import Derived.Test.YtpdnpphjlnlneaaGreatDoorChecked
import Derived.WalkKit
import Derived.WalkSpells
import Derived.WalkLawsBesides
import Derived.Lib.Hide
namespace Go.Proofs.YtpdnpphjlnlneaaGreatDoor
open Go.RowKit

theorem ret_bool {a b : Bool} (h : a = b) : Ending.returned (.bool a) = .returned (.bool b) := by rw [h]

def isL (c : Int) : Bool := decide (97 ≤ c) && decide (c ≤ 122)
def isW (s : ByteArray) : Bool := decide (1 ≤ s.size) && decide (s.size ≤ 40) && s.data.toList.all fun c => isL c.toNat

theorem isW_take (s : ByteArray) (k : Nat) (h : k < s.size) : (s.data.toList.take (k + 1)).all (fun c => isL c.toNat) = ((s.data.toList.take k).all (fun c => isL c.toNat) && isL s[k].toNat) := by
  have h2 : s.data.toList.take (k + 1) = s.data.toList.take k ++ [s[k]] := by
    rw [List.take_succ_eq_append_getElem (by simpa using h)]; rfl
  rw [h2, List.all_append]; simp

theorem isW_no (s : ByteArray) (k : Nat) (h : k < s.size) (hL : isL s[k].toNat = false) : isW s = false := by
  have hm : s[k] ∈ s.data.toList := by
    have h2 : k < s.data.toList.length := by simpa using h
    have : s.data.toList[k] = s[k] := rfl
    rw [← this]; exact List.getElem_mem h2
  have : (s.data.toList.all fun c => isL c.toNat) = false := by
    rw [List.all_eq_false]; exact ⟨_, hm, by simp [hL]⟩
  simp only [isW, this, Bool.and_false]

theorem isW_yes (s : ByteArray) (h1 : 1 ≤ s.size) (h2 : s.size ≤ 40) (h : (s.data.toList.all fun c => isL c.toNat) = true) : isW s = true := by
  simp only [isW, h, h1, h2, decide_true, Bool.and_self]

def inB (n lo hi : Int) : Bool := decide (lo ≤ n) && decide (n ≤ hi)
theorem in_any (n lo hi : Int) (w : World) : Calls Tryz.prog 73 #[.int .i64 n, .int .i64 lo, .int .i64 hi] w fun e w' => e = .returned (.bool (inB n lo hi)) ∧ w = w' := by
  by_cases h1 : lo ≤ n
  · by_cases h2 : n ≤ hi
    · go_enter Tryz.func73, Tryz.ntmps73
      go_wp2
      go_ret
      exact ⟨by simp [inB, h1, h2], rfl⟩
    · go_enter Tryz.func73, Tryz.ntmps73
      go_wp2
      go_ret
      exact ⟨by simp [inB, h1]; omega, rfl⟩
  · go_enter Tryz.func73, Tryz.ntmps73
    go_wp2
    go_ret
    exact ⟨by simp [inB]; omega, rfl⟩


end Go.Proofs.YtpdnpphjlnlneaaGreatDoor
