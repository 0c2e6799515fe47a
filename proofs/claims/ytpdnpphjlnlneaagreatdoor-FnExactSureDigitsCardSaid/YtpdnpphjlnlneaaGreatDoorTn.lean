/- Powers of ten: both sides. No conditions. -/
import Derived.Test.YtpdnpphjlnlneaaGreatDoorWk
namespace Go.Proofs.YtpdnpphjlnlneaaGreatDoor
open Go.RowKit

theorem ten_bd : ∀ k : Nat, k < 7 → 10 ^ k ≤ 1000000 := of_decide_eq_true (by kernel_rfl)
theorem countTen_any (n : Nat) (w : World) (hn : n ≤ 6) : Calls Tryz.prog 111 #[.int .i64 10, .int .i64 n] w fun e w' => e = .returned (.int .i64 ((10 ^ n : Nat) : Int)) ∧ w = w' := by
  go_enter Tryz.func111, Tryz.ntmps111
  go_wp2
  go_loop [5, 7] (fun c i => ∃ k : Nat, k ≤ n ∧ i = .int .i64 k ∧ c = .int .i64 ((10 ^ k : Nat) : Int)) (fun _ i => n - (intOf i).toNat)
  case atStart => exact ⟨0, Nat.zero_le _, rfl, rfl⟩
  case round =>
    obtain ⟨k, hk, rfl, rfl⟩ := hrel
    by_cases hlt : k < n
    · have b1 := ten_bd k (by omega)
      have b2 := ten_bd (k + 1) (by omega)
      have HS := Lib.hid (show 10 ^ (k + 1) = 10 ^ k * 10 from Nat.pow_succ ..)
      rw [HS.out] at b2
      obtain ⟨x, hx⟩ : ∃ x, x = 10 ^ k := ⟨_, rfl⟩
      rw [← hx] at b1 b2 HS ⊢
      obtain ⟨y, hy⟩ : ∃ y, y = x * 10 := ⟨_, rfl⟩
      have E : (x : Int) * (10 : Int) = (y : Int) := by rw [hy]; simp
      rw [← hy] at b2 HS
      have W : IntKind.i64.wrap ((x : Int) * (10 : Int)) = (y : Int) := by rw [E]; simp only [IntKind.wrap_i64]; omega
      have W2 : IntKind.i64.wrap (y : Int) = (y : Int) := by simp only [IntKind.wrap_i64]; omega
      clear hx hy
      go_wp2
      go_round
      case rel => exact ⟨k + 1, by omega, by go_num, by rw [HS.out]⟩
      case measure => simp [intOf]; omega
    · obtain rfl : k = n := by omega
      go_wp2
      go_ret
      exact ⟨rfl, rfl⟩
theorem allNum_any (n : Nat) (w : World) (hn : n ≤ 6) : Calls Tryz.prog 88 #[.int .i64 n] w fun e w' => e = .returned (.int .i64 ((10 ^ n : Nat) : Int)) ∧ w = w' := by
  obtain ⟨x, hx⟩ : ∃ x : Nat, x = 10 ^ n := ⟨_, rfl⟩
  have HC := Lib.hid (countTen_any n w hn)
  rw [← hx] at HC ⊢
  clear hx
  go_enter Tryz.func88, Tryz.ntmps88
  go_wp2_with fail
  refine HC.out.mono ?_
  rintro e w' ⟨rfl, rfl⟩
  go_wp2
  go_ret
  exact ⟨rfl, rfl⟩
theorem tens_any (n : Nat) (w : World) (hn : n ≤ 6) : Calls Tryz.prog 84 #[.int .i64 n] w fun e w' => e = .returned (.int .i64 ((10 ^ n : Nat) : Int)) ∧ w = w' := by
  go_enter Tryz.func84, Tryz.ntmps84
  go_wp2
  go_loop [0, 3] (fun i c => ∃ k : Nat, k ≤ n ∧ i = .int .i64 ((n - k : Nat) : Int) ∧ c = .int .i64 ((10 ^ k : Nat) : Int)) (fun i _ => (intOf i).toNat)
  case atStart => exact ⟨0, Nat.zero_le _, rfl, rfl⟩
  case round =>
    obtain ⟨k, hk, rfl, rfl⟩ := hrel
    by_cases hlt : k < n
    · have b1 := ten_bd k (by omega)
      have b2 := ten_bd (k + 1) (by omega)
      have HS := Lib.hid (show 10 ^ (k + 1) = 10 ^ k * 10 from Nat.pow_succ ..)
      rw [HS.out] at b2
      obtain ⟨x, hx⟩ : ∃ x, x = 10 ^ k := ⟨_, rfl⟩
      rw [← hx] at b1 b2 HS ⊢
      obtain ⟨y, hy⟩ : ∃ y, y = x * 10 := ⟨_, rfl⟩
      have E : (x : Int) * (10 : Int) = (y : Int) := by rw [hy]; simp
      rw [← hy] at b2 HS
      have W : IntKind.i64.wrap ((x : Int) * (10 : Int)) = (y : Int) := by rw [E]; simp only [IntKind.wrap_i64]; omega
      have W2 : IntKind.i64.wrap (y : Int) = (y : Int) := by simp only [IntKind.wrap_i64]; omega
      obtain ⟨m, hm⟩ : ∃ m : Nat, m = n - k := ⟨_, rfl⟩
      have HM := Lib.hid (show n - (k + 1) = m - 1 by omega)
      have hm1 : 1 ≤ m := by omega
      have hm2 : m ≤ 6 := by omega
      have W3 : IntKind.i64.wrap ((m : Int) - 1) = ((m - 1 : Nat) : Int) := by simp only [IntKind.wrap_i64]; omega
      have g1 : (m : Int) > 0 := by omega
      have g2 : (0 : Int) < (m : Int) := by omega
      have g3 : decide ((0 : Int) < (m : Int)) = true := decide_eq_true g2
      rw [← hm]
      clear hx hy hm
      go_wp2
      go_round
      case rel => exact ⟨k + 1, by omega, by rw [HM.out], by rw [HS.out]⟩
      case measure => simp [intOf]; omega
    · obtain rfl : k = n := by omega
      rw [Nat.sub_self]
      go_wp2
      go_ret
      exact ⟨rfl, rfl⟩

end Go.Proofs.YtpdnpphjlnlneaaGreatDoor
