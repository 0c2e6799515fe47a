/- Pins: the program's tests and its model's. No conditions. -/
import Derived.Test.YthooedmlnonadaaDoorWk
import Derived.Test.YthooedmlnonadaaDoorStrs
namespace Go.Proofs.YthooedmlnonadaaDoor
open Go.RowKit

set_option maxHeartbeats 400000 in
theorem piDig_any (s : ByteArray) (lo hi : Int) (w : World) (hs : s.size ≤ maxLen) : Calls Tryd.prog 70 #[.string s, .int .i64 lo, .int .i64 hi] w fun e w' => e = .returned (.bool (isDg lo hi s)) ∧ w = w' := by
  unfold maxLen at hs
  by_cases h1 : (s.size : Int) < lo
  · have H := Lib.hid (isDg_short (hi := hi) h1)
    have hi := inW_lo (n := s.size) (lo := lo) (hi := hi) (by omega)
    go_enter Tryd.func70, Tryd.ntmps70
    go_wp2_with (go_at_call 43; refine (inW_any _ _ _ _).mono ?_; rintro e w' ⟨rfl, rfl⟩; rw [hi])
    go_ret
    exact ⟨ret_bool H.out.symm, rfl⟩
  by_cases h2 : hi < (s.size : Int)
  · have H := Lib.hid (isDg_long (lo := lo) h2)
    have hi := inW_hi (n := s.size) (lo := lo) (hi := hi) (by omega)
    go_enter Tryd.func70, Tryd.ntmps70
    go_wp2_with (go_at_call 43; refine (inW_any _ _ _ _).mono ?_; rintro e w' ⟨rfl, rfl⟩; rw [hi])
    go_ret
    exact ⟨ret_bool H.out.symm, rfl⟩
  have hi0 := inW_yes (n := s.size) (lo := lo) (hi := hi) (by omega) (by omega)
  go_enter Tryd.func70, Tryd.ntmps70
  go_wp2_with (go_at_call 43; refine (inW_any _ _ _ _).mono ?_; rintro e w' ⟨rfl, rfl⟩; rw [hi0])
  clear hi0
  go_loop [7] (fun i => ∃ k : Nat, k ≤ s.size ∧ i = .int .i64 k ∧ (s.data.toList.take k).all (fun c => isg c.toNat) = true) (fun i => s.size - (intOf i).toNat)
  case atStart => exact ⟨0, Nat.zero_le _, rfl, rfl⟩
  case round =>
    obtain ⟨k, hk, rfl, hall⟩ := hrel
    have HA := Lib.hid hall
    clear hall
    by_cases hlt : k < s.size
    · by_cases hA : s[k].toNat < 48
      · have HV := Lib.hid (isDg_no (lo := lo) (hi := hi) k hlt (isg_lo (by omega)))
        go_wp2
        go_ret
        exact ⟨ret_bool HV.out.symm, rfl⟩
      by_cases hB : 57 < s[k].toNat
      · have HV := Lib.hid (isDg_no (lo := lo) (hi := hi) k hlt (isg_hi (by omega)))
        go_wp2
        go_ret
        exact ⟨ret_bool HV.out.symm, rfl⟩
      have HN := Lib.hid (show (s.data.toList.take (k + 1)).all (fun c => isg c.toNat) = true by
        rw [isWk_take s k hlt, HA.out, isg_of (by omega) (by omega)]; rfl)
      go_wp2
      go_round
      case rel => exact ⟨k + 1, by omega, by go_num, HN.out⟩
      case measure => simp [intOf]; omega
    · have HV := Lib.hid (isDg_yes (s := s) (lo := lo) (hi := hi) (by omega) (by omega) (by have := HA.out; rw [List.take_of_length_le (by simp; omega)] at this; exact this))
      go_wp2
      go_ret
      exact ⟨ret_bool HV.out.symm, rfl⟩

def pinB (s : ByteArray) : Bool := isDg 2 4 s
theorem pinB_size {s : ByteArray} (h : pinB s = true) : 2 ≤ s.size ∧ s.size ≤ 4 := by have := isDg_size h; omega
theorem pinB_wk {s : ByteArray} (h : pinB s = true) : isWk s = true := isDg_wk h (by omega) (by omega)

/-- Two pins of as many digits. -/
def evB (a b : ByteArray) : Bool := pinB a && (pinB b && decide (a.size = b.size))
theorem evB_a {a b : ByteArray} (h : pinB a = false) : evB a b = false := by unfold evB; rw [h]; rfl
theorem evB_b {a b : ByteArray} (h : pinB b = false) : evB a b = false := by unfold evB; rw [h]; simp
theorem evB_n {a b : ByteArray} (h : ¬ a.size = b.size) : evB a b = false := by unfold evB; rw [decide_eq_false h]; simp
theorem evB_all {a b : ByteArray} (h : pinB a = true) (h2 : pinB b = true) : evB a b = ((a.size : Int) == (b.size : Int)) := by
  unfold evB
  rw [h, h2]
  by_cases e : a.size = b.size
  · simp [e]
  · rw [decide_eq_false e]; simp; omega
theorem evB_parts {a b : ByteArray} (h : evB a b = true) : pinB a = true ∧ pinB b = true ∧ a.size = b.size := by
  unfold evB at h
  rw [Bool.and_eq_true, Bool.and_eq_true] at h
  exact ⟨h.1, h.2.1, of_decide_eq_true h.2.2⟩