/- Numbers by their ranks: the model's texts. No conditions. -/
import Derived.Test.YtpdnpphjlnlneaaGreatDoorPrD
import Derived.Test.YtpdnpphjlnlneaaGreatDoorTn
namespace Go.Proofs.YtpdnpphjlnlneaaGreatDoor
open Go.RowKit

/-- The text of a number of so many digits. -/
def numT10 (r n : Nat) : ByteArray := dT (prD 10 r n)
theorem numT10_size (r n : Nat) : (numT10 r n).size = n := by
  unfold numT10 dT dA
  show (List.map _ _).toArray.size = n
  rw [List.size_toArray, List.length_map, prD_len]

theorem ret_tx {a b : ByteArray} (h : a = b) : Ending.returned (.string a) = .returned (.string b) := by rw [h]
set_option maxRecDepth 100000 in
set_option maxHeartbeats 1000000 in
theorem piOf_any (r n : Nat) (w : World) (hr : r ≤ 100000) (hn : n ≤ 4) : Calls Tryz.prog 85 #[.int .i64 r, .int .i64 n] w fun e w' => e = .returned (.string (numT10 r n)) ∧ Ext w w' := by
  go_enter Tryz.func85, Tryz.ntmps85
  go_wp2
  go_loopw [0, 1, 5] (fun x l o wr => ∃ k : Nat, k ≤ n ∧ l = .int .i64 ((n - k : Nat) : Int) ∧ x = .int .i64 ((rkD 10 r k : Nat) : Int) ∧ o = .string (dT (sfD 10 r n k)) ∧ Ext w wr) (fun _ l _ _ => (intOf l).toNat)
  case atStart => exact ⟨0, Nat.zero_le _, rfl, rfl, by rw [sfD_0]; rfl, Ext.refl _⟩
  case round =>
    obtain ⟨k, hk, rfl, rfl, rfl, hx⟩ := hrel
    have HX := Lib.hid hx
    clear hx
    by_cases hlt : k < n
    · have hle := rkD_le 10 r k
      have hq := Nat.mod_lt (rkD 10 r k) (show 0 < 10 by omega)
      have hR := fun w => rem_nat (rkD 10 r k) 10 (by omega) w
      have hQ := fun w => quo_nat (rkD 10 r k) 10 (by omega) (by omega) w
      have HE := Lib.hid (show rkD 10 r k / 10 = rkD 10 r (k + 1) from rfl)
      have HT := Lib.hid (show dg1T (rkD 10 r k % 10) ++ dT (sfD 10 r n k) = dT (sfD 10 r n (k + 1)) by rw [dT_cons, sfD_succ _ _ _ _ hlt])
      have hz1 : (dg1T (rkD 10 r k % 10)).size = 1 := rfl
      have hz2 : (dT (sfD 10 r n k)).size ≤ 4 := by
        unfold dT dA
        show (List.map _ _).toArray.size ≤ 4
        rw [List.size_toArray, List.length_map, sfD_len _ _ _ _ hk]
        omega
      obtain ⟨x, hx⟩ : ∃ x, x = rkD 10 r k := ⟨_, rfl⟩
      rw [← hx] at hle hq hR hQ HE HT hz1 ⊢
      have HW3 := Lib.hid (show (x : Int) / 10 = ((x / 10 : Nat) : Int) by omega)
      have hxi : (x : Int) % 10 = ((x % 10 : Nat) : Int) := by omega
      have HC := Lib.hid (fun w => (show Calls Tryz.prog 109 #[.int .i64 ((x : Int) % 10)] w fun e w' => e = .returned (.string (dg1T (x % 10))) ∧ Ext w w' from by rw [hxi]; exact l1NumD_any (x % 10) w hq))
      obtain ⟨q, hq2⟩ : ∃ q, q = x % 10 := ⟨_, rfl⟩
      rw [← hq2] at hq hR HT hz1 HC
      clear hxi
      obtain ⟨y, hy⟩ : ∃ y, y = x / 10 := ⟨_, rfl⟩
      rw [← hy] at hQ HE HW3
      obtain ⟨s, hs⟩ : ∃ s, s = dg1T q := ⟨_, rfl⟩
      obtain ⟨o, ho⟩ : ∃ o, o = dT (sfD 10 r n k) := ⟨_, rfl⟩
      rw [← hs] at HC HT hz1
      rw [← ho] at HT hz2 ⊢
      obtain ⟨m, hm⟩ : ∃ m : Nat, m = n - k := ⟨_, rfl⟩
      have HM := Lib.hid (show n - (k + 1) = m - 1 by omega)
      have hm1 : 1 ≤ m := by omega
      have hm2 : m ≤ 4 := by omega
      have W3 : IntKind.i64.wrap ((m : Int) - 1) = ((m - 1 : Nat) : Int) := by simp only [IntKind.wrap_i64]; omega
      have g1 : (m : Int) > 0 := by omega
      have g2 : (0 : Int) < (m : Int) := by omega
      have g3 : decide ((0 : Int) < (m : Int)) = true := decide_eq_true g2
      rw [← hm]
      clear hx hq2 hy hs ho hm
      go_wp2_with fail
      refine (HC.out _).mono ?_
      rintro e w1 ⟨rfl, x1⟩
      have X1 := Lib.hid (HX.out.trans x1)
      clear x1
      go_wp2
      go_roundw
      case rel => exact ⟨k + 1, by omega, by rw [HM.out], by rw [← HE.out, HW3.out], by rw [HT.out], X1.out⟩
      case measure => simp [intOf]; omega
    · obtain rfl : k = n := by omega
      have HV := Lib.hid (show dT (sfD 10 r k k) = numT10 r k by rw [sfD_all]; rfl)
      rw [Nat.sub_self]
      go_wp2
      go_ret
      exact ⟨ret_tx HV.out, HX.out⟩
end Go.Proofs.YtpdnpphjlnlneaaGreatDoor
