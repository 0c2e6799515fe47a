/- Whether a text opens all locks: both sides. No conditions. -/
import Derived.Test.YtdhcknknmloopabDoa
import Derived.Deep.RegionWith
namespace Go.Proofs.Ytdhcknknmloopab
open Go.RowKit

theorem pinLo_any (n : Int) (w : World) : Calls Try.prog 112 #[.int .i64 n] w fun e w' => e = .returned (.bool (inW n 2 4)) ∧ w = w' := by
  by_cases h1 : 2 ≤ n
  · by_cases h2 : n ≤ 4
    · have HV := Lib.hid (inW_yes h1 h2)
      go_enter Try.func112, Try.ntmps112
      go_wp2
      go_ret
      exact ⟨ret_bool (by rw [HV.out]), rfl⟩
    · have HV := Lib.hid (inW_hi (lo := 2) (show 4 < n by omega))
      go_enter Try.func112, Try.ntmps112
      go_wp2
      go_ret
      exact ⟨ret_bool (by rw [HV.out]), rfl⟩
  · have HV := Lib.hid (inW_lo (hi := 4) (show n < 2 by omega))
    go_enter Try.func112, Try.ntmps112
    go_wp2
    go_ret
    exact ⟨ret_bool (by rw [HV.out]), rfl⟩
theorem inW_bdo {n lo hi : Int} (h : inW n lo hi = true) : lo ≤ n ∧ n ≤ hi := by unfold inW at h; simp at h; exact h
/-- There are such locks, and few enough pins. -/
def coG (D n : Int) : Bool := inW D 1 10 && (inW n 2 4 && decide (D.toNat ^ n.toNat ≤ 300))
theorem coG_D {D n : Int} (h : inW D 1 10 = false) : coG D n = false := by unfold coG; rw [h]; rfl
theorem coG_n {D n : Int} (h : inW n 2 4 = false) : coG D n = false := by unfold coG; rw [h]; simp
theorem coG_all {D n : Nat} (h : inW (D : Int) 1 10 = true) (h2 : inW (n : Int) 2 4 = true) : coG D n = decide (D ^ n ≤ 300) := by unfold coG; rw [h, h2]; rfl

set_option maxHeartbeats 1000000 in
theorem canOpen_any (D n : Int) (w : World) : Calls Try.prog 81 #[.int .i64 D, .int .i64 n] w fun e w' => e = .returned (.bool (coG D n)) ∧ w = w' := by
  by_cases h1 : D < 1
  · have HV := Lib.hid (coG_D (n := n) (inW_lo (hi := 10) h1))
    go_enter Try.func81, Try.ntmps81
    go_wp2_with fail
    go_ret
    exact ⟨ret_bool HV.out.symm, rfl⟩
  by_cases h2 : 10 < D
  · have HV := Lib.hid (coG_D (n := n) (inW_hi (lo := 1) h2))
    go_enter Try.func81, Try.ntmps81
    go_wp2_with fail
    go_ret
    exact ⟨ret_bool HV.out.symm, rfl⟩
  cases h3 : inW n 2 4
  · have HV := Lib.hid (coG_n (D := D) h3)
    go_enter Try.func81, Try.ntmps81
    go_wp2_with (first | (go_at_call 112; refine (pinLo_any _ _).mono ?_; rintro e w' ⟨rfl, rfl⟩; rw [h3]))
    go_ret
    exact ⟨ret_bool HV.out.symm, rfl⟩
  obtain ⟨n1, n2⟩ := inW_bdo h3
  obtain ⟨D, rfl⟩ : ∃ k : Nat, D = (k : Int) := Int.eq_ofNat_of_zero_le (by omega)
  obtain ⟨n, rfl⟩ : ∃ k : Nat, n = (k : Int) := Int.eq_ofNat_of_zero_le (by omega)
  have HC := Lib.hid (fun w => countPins_any D n w (by omega) (by omega))
  have HV := Lib.hid (coG_all (D := D) (inW_yes (by omega) (by omega)) h3)
  have hb := pow_bdD D (by omega) n (by omega)
  obtain ⟨x, hx⟩ : ∃ x, x = D ^ n := ⟨_, rfl⟩
  rw [← hx] at HC HV hb
  have HD := Lib.hid (show decide ((x : Int) ≤ 300) = decide (x ≤ 300) from decide_eq_decide.2 (by omega))
  have H3 := Lib.hid h3
  clear hx h3
  go_enter Try.func81, Try.ntmps81
  go_wp2_with (first | (go_at_call 112; refine (pinLo_any _ _).mono ?_; rintro e w' ⟨rfl, rfl⟩; rw [H3.out]) | (go_at_call 113; refine (HC.out _).mono ?_; rintro e w' ⟨rfl, rfl⟩))
  go_ret
  exact ⟨ret_bool (by rw [HV.out]; first | rfl | exact HD.out | simp), rfl⟩

/-! ### All pins -/
def opn (t : ByteArray) (D n r : Nat) : Bool := decide (0 ≤ idx t (dT (prD D r n)))
def alK (t : ByteArray) (D n : Nat) : Nat → Bool
  | 0 => true
  | k + 1 => alK t D n k && opn t D n k
theorem alK_yes {t : ByteArray} {D n k : Nat} (h : alK t D n k = true) (h2 : opn t D n k = true) : alK t D n (k + 1) = true := by rw [alK, h, h2]; rfl
theorem alK_no {t : ByteArray} {D n k : Nat} (h : opn t D n k = false) : ∀ m, k < m → alK t D n m = false := by
  intro m hm
  induction m with
  | zero => omega
  | succ m ih =>
    by_cases e : k = m
    · rw [alK, ← e, h, Bool.and_false]
    · rw [alK, ih (by omega)]; rfl
def daG (t : ByteArray) (D n : Int) : Bool := isDg 0 1300 t && coG D n
theorem daG_t {t : ByteArray} {D n : Int} (h : isDg 0 1300 t = false) : daG t D n = false := by unfold daG; rw [h]; rfl
theorem daG_c {t : ByteArray} {D n : Int} (h : coG D n = false) : daG t D n = false := by unfold daG; rw [h, Bool.and_false]
theorem daG_y {t : ByteArray} {D n : Int} (h : isDg 0 1300 t = true) (h2 : coG D n = true) : daG t D n = true := by unfold daG; rw [h, h2]; rfl
def daV (t : ByteArray) (D n : Int) : Bool := daG t D n && alK t D.toNat n.toNat (D.toNat ^ n.toNat)
theorem daV_no {t : ByteArray} {D n : Int} (h : daG t D n = false) : daV t D n = false := by unfold daV; rw [h]; rfl
theorem daV_yes {t : ByteArray} {D n : Nat} (h : daG t D n = true) : daV t D n = alK t D n (D ^ n) := by unfold daV; rw [h]; rfl
theorem ret_BBd {a a' b b' : Bool} (h : a = a') (h2 : b = b') : Ending.returned (.tuple #[.bool a, .bool b]) = .returned (.tuple #[.bool a', .bool b']) := by rw [h, h2]
theorem coG_parts {D n : Int} (h : coG D n = true) : ∃ d k : Nat, D = (d : Int) ∧ n = (k : Int) ∧ 1 ≤ d ∧ d ≤ 10 ∧ 2 ≤ k ∧ k ≤ 4 ∧ d ^ k ≤ 300 := by
  unfold coG at h
  rw [Bool.and_eq_true, Bool.and_eq_true] at h
  obtain ⟨a1, a2⟩ := inW_bdo h.1
  obtain ⟨b1, b2⟩ := inW_bdo h.2.1
  refine ⟨D.toNat, n.toNat, by omega, by omega, by omega, by omega, by omega, by omega, of_decide_eq_true h.2.2⟩