/- Whether a text opens all locks: the model's side. No conditions. -/
import Derived.Test.YtdhcknknmloopabDob
namespace Go.Proofs.Ytdhcknknmloopab
open Go.RowKit

/-- How many pins, or -1. -/
def paV (D n : Int) : Int := if coG D n then ((D.toNat ^ n.toNat : Nat) : Int) else -1
theorem paV_no {D n : Int} (h : coG D n = false) : paV D n = -1 := by unfold paV; rw [h]; rfl
theorem paV_yes {D n : Nat} (h : coG D n = true) : paV D n = ((D ^ n : Nat) : Int) := by unfold paV; rw [h]; rfl

set_option maxHeartbeats 1000000 in
theorem piAll_any (D n : Int) (w : World) : Calls Try.prog 78 #[.int .i64 D, .int .i64 n] w fun e w' => e = .returned (.int .i64 (paV D n)) ∧ w = w' := by
  cases h1 : inW D 1 10
  · have HV := Lib.hid (paV_no (coG_D (n := n) h1))
    go_enter Try.func78, Try.ntmps78
    go_wp2_with (go_at_call 77; refine (inW_any _ _ _ _).mono ?_; rintro e w' ⟨rfl, rfl⟩; rw [h1])
    go_ret
    exact ⟨ret_iD HV.out.symm, rfl⟩
  cases h2 : inW n 2 4
  · have HV := Lib.hid (paV_no (coG_n (D := D) h2))
    go_enter Try.func78, Try.ntmps78
    go_wp2_with (go_at_call 77; refine (inW_any _ _ _ _).mono ?_; rintro e w' ⟨rfl, rfl⟩; first | rw [h1] | rw [h2])
    go_ret
    exact ⟨ret_iD HV.out.symm, rfl⟩
  obtain ⟨a1, a2⟩ := inW_bdo h1
  obtain ⟨n1, n2⟩ := inW_bdo h2
  obtain ⟨D, rfl⟩ : ∃ k : Nat, D = (k : Int) := Int.eq_ofNat_of_zero_le (by omega)
  obtain ⟨n, rfl⟩ : ∃ k : Nat, n = (k : Int) := Int.eq_ofNat_of_zero_le (by omega)
  have HA := Lib.hid (coG_all h1 h2)
  have H1 := Lib.hid h1
  have H2 := Lib.hid h2
  have hD10 : D ≤ 10 := by omega
  have hn4 : n ≤ 4 := by omega
  clear h1 h2 a1 a2 n1 n2
  go_enter Try.func78, Try.ntmps78
  go_wp2_with (go_at_call 77; refine (inW_any _ _ _ _).mono ?_; rintro e w' ⟨rfl, rfl⟩; first | rw [H1.out] | rw [H2.out])
  go_loop [1, 5] (fun l c => ∃ k : Nat, k ≤ n ∧ l = .int .i64 ((n : Int) - (k : Int)) ∧ c = .int .i64 ((D ^ k : Nat) : Int)) (fun l _ => (intOf l).toNat)
  case atStart => exact ⟨0, Nat.zero_le _, by simp, rfl⟩
  case round =>
    obtain ⟨k, hk, rfl, rfl⟩ := hrel
    by_cases hlt : k < n
    · have hlp : 0 < (n : Int) - (k : Int) := by omega
      have b1 := pow_bdD D (by omega) k (by omega)
      have b2 := pow_bdD D (by omega) (k + 1) (by omega)
      have HS := Lib.hid (show D ^ (k + 1) = D ^ k * D from Nat.pow_succ ..)
      rw [HS.out] at b2
      obtain ⟨x, hx⟩ : ∃ x, x = D ^ k := ⟨_, rfl⟩
      rw [← hx] at b1 b2 HS ⊢
      obtain ⟨y, hy⟩ : ∃ y, y = x * D := ⟨_, rfl⟩
      have E : (x : Int) * (D : Int) = (y : Int) := by rw [hy]; simp
      rw [← hy] at b2 HS
      have W : IntKind.i64.wrap ((x : Int) * (D : Int)) = (y : Int) := by rw [E]; simp only [IntKind.wrap_i64]; omega
      have W2 : IntKind.i64.wrap (y : Int) = (y : Int) := by simp only [IntKind.wrap_i64]; omega
      clear hx hy
      go_wp2
      go_round
      case rel => exact ⟨k + 1, by omega, by first | rfl | (congr 1; omega), by rw [HS.out]⟩
      case measure => simp [intOf]; omega
    · obtain rfl : k = n := by omega
      have hlp : ¬ 0 < (k : Int) - (k : Int) := by omega
      have b1 := pow_bdD D (by omega) k (by omega)
      by_cases hc : D ^ k ≤ 300
      · have HV := Lib.hid (paV_yes (by rw [HA.out, decide_eq_true hc]))
        obtain ⟨x, hx⟩ : ∃ x, x = D ^ k := ⟨_, rfl⟩
        rw [← hx] at b1 hc HV ⊢
        have hci : ¬ (300 : Int) < (x : Int) := by omega
        clear hx hc
        go_wp2
        go_ret
        exact ⟨ret_iD HV.out.symm, rfl⟩
      · have HV := Lib.hid (paV_no (D := (D : Int)) (n := (k : Int)) (by rw [HA.out, decide_eq_false hc]))
        obtain ⟨x, hx⟩ : ∃ x, x = D ^ k := ⟨_, rfl⟩
        rw [← hx] at b1 hc ⊢
        have hci : (300 : Int) < (x : Int) := by omega
        clear hx hc
        go_wp2
        go_ret
        exact ⟨ret_iD HV.out.symm, rfl⟩

/-- The last so many digits of a rank. -/
def sfD (D r n k : Nat) : List Nat := (prD D r n).drop (n - k)
theorem sfD_0 (D r n : Nat) : sfD D r n 0 = [] := by unfold sfD; rw [Nat.sub_zero, List.drop_of_length_le (by rw [prD_len]; exact Nat.le_refl _)]
theorem sfD_all (D r n : Nat) : sfD D r n n = prD D r n := by unfold sfD; rw [Nat.sub_self, List.drop_zero]
theorem sfD_len (D r n k : Nat) (h : k ≤ n) : (sfD D r n k).length = k := by unfold sfD; rw [List.length_drop, prD_len]; omega
theorem sfD_succ (D r n k : Nat) (h : k < n) : sfD D r n (k + 1) = (rkD D r k % D) :: sfD D r n k := by
  unfold sfD
  have hl : n - (k + 1) < (prD D r n).length := by rw [prD_len]; omega
  have e := List.drop_eq_getElem_cons hl
  rw [e]
  congr 1
  · have h1 := prD_at D r n (n - (k + 1)) (by omega)
    rw [List.getElem?_eq_getElem hl] at h1
    injection h1 with h1
    rw [h1, show n - 1 - (n - (k + 1)) = k by omega]
  · rw [show n - (k + 1) + 1 = n - k by omega]
theorem dT_cons (d : Nat) (L : List Nat) : dg1T d ++ dT L = dT (d :: L) := by
  apply ByteArray.ext
  rw [ByteArray.data_append]
  unfold dT dA dg1T
  simp