/- The program's word test and its model's answer alike: both are the plain function 'isW'. No conditions. -/
import Derived.Test.YtnoidabmbckfkabChecked
import Derived.WalkKit
import Derived.WalkSpells
import Derived.WalkLawsBesides
import Derived.Lib.Hide
namespace Go.Proofs.Ytnoidabmbckfkab
open Go.RowKit

theorem ret_bool {a b : Bool} (h : a = b) : Ending.returned (.bool a) = .returned (.bool b) := by rw [h]

def isL (c : Int) : Bool := decide (97 ≤ c) && decide (c ≤ 122)
def isW (s : ByteArray) : Bool := decide (1 ≤ s.size) && decide (s.size ≤ 40) && s.data.toList.all fun c => isL c.toNat

theorem isL_any (c : Int) (w : World) : Calls Try.prog 137 #[.int .u8 c] w fun e w' => e = .returned (.bool (isL c)) ∧ w = w' := by
  by_cases h1 : 97 ≤ c
  · by_cases h2 : c ≤ 122
    · go_enter Try.func137, Try.ntmps137
      go_wp2
      go_ret
      exact ⟨by simp [isL, h1, h2], rfl⟩
    · go_enter Try.func137, Try.ntmps137
      go_wp2
      go_ret
      exact ⟨by simp [isL, h1, h2], rfl⟩
  · go_enter Try.func137, Try.ntmps137
    go_wp2
    go_ret
    exact ⟨by simp [isL]; omega, rfl⟩

theorem isW_take (s : ByteArray) (k : Nat) (h : k < s.size) : (s.data.toList.take (k + 1)).all (fun c => isL c.toNat) = ((s.data.toList.take k).all (fun c => isL c.toNat) && isL s[k].toNat) := by
  have h2 : s.data.toList.take (k + 1) = s.data.toList.take k ++ [s[k]] := by
    rw [List.take_succ_eq_append_getElem (by simpa using h)]; rfl
  rw [h2, List.all_append]; simp

theorem isW_no (s : ByteArray) (k : Nat) (h : k < s.size) (hL : isL s[k].toNat = false) : isW s = false := by
  have hm : s[k] ∈ s.data.toList := by
    have h2 : k < s.data.toList.length := by simpa using h
    have : s.data.toList[k] = s[k] := rfl
    rw [← this]; exact List.getElem_mem h2
  have : (s.data.toList.all fun c => isL c.toNat) = false := by
    rw [List.all_eq_false]; exact ⟨_, hm, by simp [hL]⟩
  simp only [isW, this, Bool.and_false]

theorem isW_yes (s : ByteArray) (h1 : 1 ≤ s.size) (h2 : s.size ≤ 40) (h : (s.data.toList.all fun c => isL c.toNat) = true) : isW s = true := by
  simp only [isW, h, h1, h2, decide_true, Bool.and_self]

set_option maxHeartbeats 400000 in
theorem isW_any (s : ByteArray) (w : World) (hs : s.size ≤ maxLen) : Calls Try.prog 109 #[.string s] w fun e w' => e = .returned (.bool (isW s)) ∧ w = w' := by
  unfold maxLen at hs
  by_cases h1 : s.size < 1
  · go_enter Try.func109, Try.ntmps109
    go_wp2
    go_ret
    exact ⟨by simp [isW]; omega, rfl⟩
  by_cases h2 : 40 < s.size
  · go_enter Try.func109, Try.ntmps109
    go_wp2
    go_ret
    exact ⟨by simp [isW]; omega, rfl⟩
  go_enter Try.func109, Try.ntmps109
  go_wp2
  go_loop [14] (fun i => ∃ k : Nat, k ≤ s.size ∧ i = .int .i64 k ∧ (s.data.toList.take k).all (fun c => isL c.toNat) = true) (fun i => s.size - (intOf i).toNat)
  case atStart => exact ⟨0, Nat.zero_le _, rfl, rfl⟩
  case round =>
    obtain ⟨k, hk, rfl, hall⟩ := hrel
    by_cases hlt : k < s.size
    · have ht := Lib.hid (isW_take s k hlt)
      have hall' := Lib.hid hall
      clear hall
      cases hL : isL s[k].toNat
      · go_wp2_with (go_at_call 137; refine (isL_any _ _).mono ?_; rintro e w' ⟨rfl, rfl⟩)
        go_ret
        exact ⟨ret_bool (isW_no s k hlt hL).symm, rfl⟩
      · go_wp2_with (go_at_call 137; refine (isL_any _ _).mono ?_; rintro e w' ⟨rfl, rfl⟩)
        go_round
        case rel => exact ⟨k + 1, by omega, by go_num, by rw [ht.out, hall'.out, hL]; rfl⟩
        case measure => simp [intOf]; omega
    · go_wp2
      go_ret
      exact ⟨ret_bool (isW_yes s (by omega) (by omega) (by rw [List.take_of_length_le (by simp; omega)] at hall; exact hall)).symm, rfl⟩

def inB (n lo hi : Int) : Bool := decide (lo ≤ n) && decide (n ≤ hi)
theorem in_any (n lo hi : Int) (w : World) : Calls Try.prog 57 #[.int .i64 n, .int .i64 lo, .int .i64 hi] w fun e w' => e = .returned (.bool (inB n lo hi)) ∧ w = w' := by
  by_cases h1 : lo ≤ n
  · by_cases h2 : n ≤ hi
    · go_enter Try.func57, Try.ntmps57
      go_wp2
      go_ret
      exact ⟨by simp [inB, h1, h2], rfl⟩
    · go_enter Try.func57, Try.ntmps57
      go_wp2
      go_ret
      exact ⟨by simp [inB, h1]; omega, rfl⟩
  · go_enter Try.func57, Try.ntmps57
    go_wp2
    go_ret
    exact ⟨by simp [inB]; omega, rfl⟩

set_option maxHeartbeats 400000 in
theorem prW_any (s : ByteArray) (w : World) (hs : s.size ≤ maxLen) : Calls Try.prog 108 #[.string s] w fun e w' => e = .returned (.bool (isW s)) ∧ w = w' := by
  unfold maxLen at hs
  by_cases h1 : inB s.size 1 40 = false
  · go_enter Try.func108, Try.ntmps108
    go_wp2_with (go_at_call 57; refine (in_any _ _ _ _).mono ?_; rintro e w' ⟨rfl, rfl⟩)
    go_ret
    exact ⟨ret_bool (by unfold inB at h1; unfold isW; simp at h1 ⊢; intro h3 h4; omega), rfl⟩
  replace h1 : inB s.size 1 40 = true := by simpa using h1
  have hb : 1 ≤ s.size ∧ s.size ≤ 40 := by unfold inB at h1; simp at h1; omega
  obtain ⟨hb1, hb2⟩ := hb
  go_enter Try.func108, Try.ntmps108
  go_wp2_with (go_at_call 57; refine (in_any _ _ _ _).mono ?_; rintro e w' ⟨rfl, rfl⟩)
  clear h1
  go_loop [3] (fun i => ∃ k : Nat, k ≤ s.size ∧ i = .int .i64 k ∧ (s.data.toList.take k).all (fun c => isL c.toNat) = true) (fun i => s.size - (intOf i).toNat)
  case atStart => exact ⟨0, Nat.zero_le _, rfl, rfl⟩
  case round =>
    obtain ⟨k, hk, rfl, hall⟩ := hrel
    by_cases hlt : k < s.size
    · have ht := Lib.hid (isW_take s k hlt)
      have hall' := Lib.hid hall
      clear hall
      by_cases hA : (s[k].toNat : Int) < 97
      · go_wp2
        go_ret
        exact ⟨ret_bool (isW_no s k hlt (by simp [isL]; omega)).symm, rfl⟩
      by_cases hB : 122 < (s[k].toNat : Int)
      · go_wp2
        go_ret
        exact ⟨ret_bool (isW_no s k hlt (by simp [isL]; omega)).symm, rfl⟩
      go_wp2
      go_round
      case rel => exact ⟨k + 1, by omega, by go_num, by rw [ht.out, hall'.out]; simp [isL]; omega⟩
      case measure => simp [intOf]; omega
    · go_wp2
      go_ret
      exact ⟨ret_bool (isW_yes s (by omega) (by omega) (by rw [List.take_of_length_le (by simp; omega)] at hall; exact hall)).symm, rfl⟩


end Go.Proofs.Ytnoidabmbckfkab
