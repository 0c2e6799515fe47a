/- Keys are told alike by the program and by its model; each digit's key. No conditions but the table's content. -/
import Derived.Test.YtioinihlahnbfaaDoorSigns
namespace Go.Proofs.YtioinihlahnbfaaDoor
open Go.RowKit

def isD (c : Int) : Bool := decide (50 ≤ c) && decide (c ≤ 57)
def isK (s : ByteArray) : Bool := decide (1 ≤ s.size) && decide (s.size ≤ 40) && s.data.toList.all fun c => isD c.toNat
theorem isD_bd {c : Int} (h : isD c = true) : 50 ≤ c ∧ c ≤ 57 := by unfold isD at h; simp at h; exact h
theorem isK_size {s : ByteArray} (h : isK s = true) : 1 ≤ s.size ∧ s.size ≤ 40 := by unfold isK at h; simp at h; exact h.1
theorem isK_get {s : ByteArray} (h : isK s = true) (i : Nat) (hi : i < s.size) : isD s[i].toNat = true := by
  unfold isK at h
  simp only [Bool.and_eq_true, List.all_eq_true] at h
  have h2 : i < s.data.toList.length := by simpa using hi
  exact h.2 s[i] (by have : s.data.toList[i] = s[i] := rfl; rw [← this]; exact List.getElem_mem h2)
theorem isK_no (s : ByteArray) (k : Nat) (h : k < s.size) (hL : isD s[k].toNat = false) : isK s = false := by
  have hm : s[k] ∈ s.data.toList := by
    have h2 : k < s.data.toList.length := by simpa using h
    have : s.data.toList[k] = s[k] := rfl
    rw [← this]; exact List.getElem_mem h2
  have : (s.data.toList.all fun c => isD c.toNat) = false := by
    rw [List.all_eq_false]; exact ⟨_, hm, by simp [hL]⟩
  simp only [isK, this, Bool.and_false]
theorem isK_yes (s : ByteArray) (h1 : 1 ≤ s.size) (h2 : s.size ≤ 40) (h : (s.data.toList.all fun c => isD c.toNat) = true) : isK s = true := by
  simp only [isK, h, h1, h2, decide_true, Bool.and_self]
theorem isK_take (s : ByteArray) (k : Nat) (h : k < s.size) : (s.data.toList.take (k + 1)).all (fun c => isD c.toNat) = ((s.data.toList.take k).all (fun c => isD c.toNat) && isD s[k].toNat) := by
  rw [take_snoc s k h, List.all_append]; simp

/-- The key that a digit has, among the eight. -/
def dk (c : Int) : Nat := (c - 50).toNat
theorem dk_bd {c : Int} (h : isD c = true) : dk c < 8 ∧ c = 50 + (dk c : Int) := by have := isD_bd h; unfold dk; omega
theorem lt8_dk {c : Int} (h : isD c = true) : lt8 c = lt (dk c) := by unfold lt8; rw [if_pos (isD_bd h)]; rfl

theorem isD_any (c : Int) (w : World) : Calls Tryd.prog 74 #[.int .u8 c] w fun e w' => e = .returned (.bool (isD c)) ∧ w = w' := by
  by_cases h1 : 50 ≤ c
  · by_cases h2 : c ≤ 57
    · go_enter Tryd.func74, Tryd.ntmps74
      go_wp2
      go_ret
      exact ⟨by simp [isD, h1, h2], rfl⟩
    · go_enter Tryd.func74, Tryd.ntmps74
      go_wp2
      go_ret
      exact ⟨by simp [isD, h1, h2], rfl⟩
  · go_enter Tryd.func74, Tryd.ntmps74
    go_wp2
    go_ret
    exact ⟨by simp [isD]; omega, rfl⟩

set_option maxHeartbeats 400000 in
theorem areKeys_any (s : ByteArray) (w : World) (hs : s.size ≤ maxLen) : Calls Tryd.prog 62 #[.string s] w fun e w' => e = .returned (.bool (isK s)) ∧ w = w' := by
  unfold maxLen at hs
  by_cases h1 : s.size < 1
  · go_enter Tryd.func62, Tryd.ntmps62
    go_wp2
    go_ret
    exact ⟨by simp [isK]; omega, rfl⟩
  by_cases h2 : 40 < s.size
  · go_enter Tryd.func62, Tryd.ntmps62
    go_wp2
    go_ret
    exact ⟨by simp [isK]; omega, rfl⟩
  go_enter Tryd.func62, Tryd.ntmps62
  go_wp2
  go_loop [14] (fun i => ∃ k : Nat, k ≤ s.size ∧ i = .int .i64 k ∧ (s.data.toList.take k).all (fun c => isD c.toNat) = true) (fun i => s.size - (intOf i).toNat)
  case atStart => exact ⟨0, Nat.zero_le _, rfl, rfl⟩
  case round =>
    obtain ⟨k, hk, rfl, hall⟩ := hrel
    by_cases hlt : k < s.size
    · have ht := Lib.hid (isK_take s k hlt)
      have hall' := Lib.hid hall
      clear hall
      cases hL : isD s[k].toNat
      · go_wp2_with (go_at_call 74; refine (isD_any _ _).mono ?_; rintro e w' ⟨rfl, rfl⟩)
        go_ret
        exact ⟨ret_bool (isK_no s k hlt hL).symm, rfl⟩
      · go_wp2_with (go_at_call 74; refine (isD_any _ _).mono ?_; rintro e w' ⟨rfl, rfl⟩)
        go_round
        case rel => exact ⟨k + 1, by omega, by go_num, by rw [ht.out, hall'.out, hL]; rfl⟩
        case measure => simp [intOf]; omega
    · go_wp2
      go_ret
      exact ⟨ret_bool (isK_yes s (by omega) (by omega) (by rw [List.take_of_length_le (by simp; omega)] at hall; exact hall)).symm, rfl⟩

set_option maxHeartbeats 400000 in
theorem prGood_any (s : ByteArray) (w : World) (hs : s.size ≤ maxLen) : Calls Tryd.prog 61 #[.string s] w fun e w' => e = .returned (.bool (isK s)) ∧ w = w' := by
  unfold maxLen at hs
  by_cases h1 : inB s.size 1 40 = false
  · go_enter Tryd.func61, Tryd.ntmps61
    go_wp2_with (go_at_call 52; refine (in_any _ _ _ _).mono ?_; rintro e w' ⟨rfl, rfl⟩)
    go_ret
    exact ⟨ret_bool (by unfold inB at h1; unfold isK; simp at h1 ⊢; intro h3 h4; omega), rfl⟩
  replace h1 : inB s.size 1 40 = true := by simpa using h1
  have hb : 1 ≤ s.size ∧ s.size ≤ 40 := by unfold inB at h1; simp at h1; omega
  obtain ⟨hb1, hb2⟩ := hb
  go_enter Tryd.func61, Tryd.ntmps61
  go_wp2_with (go_at_call 52; refine (in_any _ _ _ _).mono ?_; rintro e w' ⟨rfl, rfl⟩)
  clear h1
  go_loop [3] (fun i => ∃ k : Nat, k ≤ s.size ∧ i = .int .i64 k ∧ (s.data.toList.take k).all (fun c => isD c.toNat) = true) (fun i => s.size - (intOf i).toNat)
  case atStart => exact ⟨0, Nat.zero_le _, rfl, rfl⟩
  case round =>
    obtain ⟨k, hk, rfl, hall⟩ := hrel
    by_cases hlt : k < s.size
    · have ht := Lib.hid (isK_take s k hlt)
      have hall' := Lib.hid hall
      clear hall
      by_cases hA : (s[k].toNat : Int) < 50
      · go_wp2
        go_ret
        exact ⟨ret_bool (isK_no s k hlt (by simp [isD]; omega)).symm, rfl⟩
      by_cases hB : 57 < (s[k].toNat : Int)
      · go_wp2
        go_ret
        exact ⟨ret_bool (isK_no s k hlt (by simp [isD]; omega)).symm, rfl⟩
      go_wp2
      go_round
      case rel => exact ⟨k + 1, by omega, by go_num, by rw [ht.out, hall'.out]; simp [isD]; omega⟩
      case measure => simp [intOf]; omega
    · go_wp2
      go_ret
      exact ⟨ret_bool (isK_yes s (by omega) (by omega) (by rw [List.take_of_length_le (by simp; omega)] at hall; exact hall)).symm, rfl⟩

end Go.Proofs.YtioinihlahnbfaaDoor
