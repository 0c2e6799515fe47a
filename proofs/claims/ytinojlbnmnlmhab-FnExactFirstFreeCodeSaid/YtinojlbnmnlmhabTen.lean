/- How many numbers of a length there are, and how many a code begins; codes of a plan. No conditions. -/
import Derived.Test.YtinojlbnmnlmhabPlA
namespace Go.Proofs.Ytinojlbnmnlmhab
open Go.RowKit

theorem ten_bd : ∀ k : Nat, k < 7 → 10 ^ k ≤ 1000000 := of_decide_eq_true (by kernel_rfl)
theorem countTen_any (n : Nat) (w : World) (hn : n ≤ 6) : Calls Try.prog 129 #[.int .i64 10, .int .i64 n] w fun e w' => e = .returned (.int .i64 ((10 ^ n : Nat) : Int)) ∧ w = w' := by
  go_enter Try.func129, Try.ntmps129
  go_wp2
  go_loop [5, 7] (fun c i => ∃ k : Nat, k ≤ n ∧ i = .int .i64 k ∧ c = .int .i64 ((10 ^ k : Nat) : Int)) (fun _ i => n - (intOf i).toNat)
  case atStart => exact ⟨0, Nat.zero_le _, rfl, rfl⟩
  case round =>
    obtain ⟨k, hk, rfl, rfl⟩ := hrel
    by_cases hlt : k < n
    · have b1 := ten_bd k (by omega)
      have b2 := ten_bd (k + 1) (by omega)
      have HS := Lib.hid (show 10 ^ (k + 1) = 10 ^ k * 10 from Nat.pow_succ ..)
      rw [HS.out] at b2
      obtain ⟨x, hx⟩ : ∃ x, x = 10 ^ k := ⟨_, rfl⟩
      rw [← hx] at b1 b2 HS ⊢
      obtain ⟨y, hy⟩ : ∃ y, y = x * 10 := ⟨_, rfl⟩
      have E : (x : Int) * (10 : Int) = (y : Int) := by rw [hy]; simp
      rw [← hy] at b2 HS
      have W : IntKind.i64.wrap ((x : Int) * (10 : Int)) = (y : Int) := by rw [E]; simp only [IntKind.wrap_i64]; omega
      have W2 : IntKind.i64.wrap (y : Int) = (y : Int) := by simp only [IntKind.wrap_i64]; omega
      clear hx hy
      go_wp2
      go_round
      case rel => exact ⟨k + 1, by omega, by go_num, by rw [HS.out]⟩
      case measure => simp [intOf]; omega
    · obtain rfl : k = n := by omega
      go_wp2
      go_ret
      exact ⟨rfl, rfl⟩
theorem allNum_any (n : Nat) (w : World) (hn : n ≤ 6) : Calls Try.prog 90 #[.int .i64 n] w fun e w' => e = .returned (.int .i64 ((10 ^ n : Nat) : Int)) ∧ w = w' := by
  obtain ⟨x, hx⟩ : ∃ x : Nat, x = 10 ^ n := ⟨_, rfl⟩
  have HC := Lib.hid (countTen_any n w hn)
  rw [← hx] at HC ⊢
  clear hx
  go_enter Try.func90, Try.ntmps90
  go_wp2_with fail
  refine HC.out.mono ?_
  rintro e w' ⟨rfl, rfl⟩
  go_wp2
  go_ret
  exact ⟨rfl, rfl⟩
theorem tens_any (n : Nat) (w : World) (hn : n ≤ 6) : Calls Try.prog 49 #[.int .i64 n] w fun e w' => e = .returned (.int .i64 ((10 ^ n : Nat) : Int)) ∧ w = w' := by
  go_enter Try.func49, Try.ntmps49
  go_wp2
  go_loop [0, 3] (fun i c => ∃ k : Nat, k ≤ n ∧ i = .int .i64 ((n - k : Nat) : Int) ∧ c = .int .i64 ((10 ^ k : Nat) : Int)) (fun i _ => (intOf i).toNat)
  case atStart => exact ⟨0, Nat.zero_le _, rfl, rfl⟩
  case round =>
    obtain ⟨k, hk, rfl, rfl⟩ := hrel
    by_cases hlt : k < n
    · have b1 := ten_bd k (by omega)
      have b2 := ten_bd (k + 1) (by omega)
      have HS := Lib.hid (show 10 ^ (k + 1) = 10 ^ k * 10 from Nat.pow_succ ..)
      rw [HS.out] at b2
      obtain ⟨x, hx⟩ : ∃ x, x = 10 ^ k := ⟨_, rfl⟩
      rw [← hx] at b1 b2 HS ⊢
      obtain ⟨y, hy⟩ : ∃ y, y = x * 10 := ⟨_, rfl⟩
      have E : (x : Int) * (10 : Int) = (y : Int) := by rw [hy]; simp
      rw [← hy] at b2 HS
      have W : IntKind.i64.wrap ((x : Int) * (10 : Int)) = (y : Int) := by rw [E]; simp only [IntKind.wrap_i64]; omega
      have W2 : IntKind.i64.wrap (y : Int) = (y : Int) := by simp only [IntKind.wrap_i64]; omega
      obtain ⟨m, hm⟩ : ∃ m : Nat, m = n - k := ⟨_, rfl⟩
      have HM := Lib.hid (show n - (k + 1) = m - 1 by omega)
      have hm1 : 1 ≤ m := by omega
      have hm2 : m ≤ 6 := by omega
      have W3 : IntKind.i64.wrap ((m : Int) - 1) = ((m - 1 : Nat) : Int) := by simp only [IntKind.wrap_i64]; omega
      have g1 : (m : Int) > 0 := by omega
      have g2 : (0 : Int) < (m : Int) := by omega
      have g3 : decide ((0 : Int) < (m : Int)) = true := decide_eq_true g2
      rw [← hm]
      clear hx hy hm
      go_wp2
      go_round
      case rel => exact ⟨k + 1, by omega, by rw [HM.out], by rw [HS.out]⟩
      case measure => simp [intOf]; omega
    · obtain rfl : k = n := by omega
      rw [Nat.sub_self]
      go_wp2
      go_ret
      exact ⟨rfl, rfl⟩

/-- How many numbers of a length a code begins. -/
def nIn (c : ByteArray) (L : Nat) : Nat := if L < c.size then 0 else 10 ^ (L - c.size)
theorem nIn_lo {c : ByteArray} {L : Nat} (h : L < c.size) : nIn c L = 0 := by unfold nIn; rw [if_pos h]
theorem nIn_hi {c : ByteArray} {L : Nat} (h : ¬ L < c.size) : nIn c L = 10 ^ (L - c.size) := by unfold nIn; rw [if_neg h]
theorem numIn_any (c : ByteArray) (L : Nat) (w : World) (hL : L ≤ 6) : Calls Try.prog 94 #[.string c, .int .i64 L] w fun e w' => e = .returned (.int .i64 ((nIn c L : Nat) : Int)) ∧ w = w' := by
  by_cases h : L < c.size
  · have HV := Lib.hid (nIn_lo h)
    have h1 : (L : Int) < (c.size : Int) := by omega
    go_enter Try.func94, Try.ntmps94
    go_wp2
    go_ret
    exact ⟨by rw [HV.out]; rfl, rfl⟩
  · have HV := Lib.hid (nIn_hi h)
    have h1 : ¬ (L : Int) < (c.size : Int) := by omega
    obtain ⟨d, hd⟩ : ∃ d, d = L - c.size := ⟨_, rfl⟩
    have W : IntKind.i64.wrap ((L : Int) - (c.size : Int)) = (d : Int) := by simp only [IntKind.wrap_i64]; omega
    have hd6 : d ≤ 6 := by omega
    obtain ⟨x, hx⟩ : ∃ x : Nat, x = 10 ^ d := ⟨_, rfl⟩
    have HC := Lib.hid (fun w => allNum_any d w hd6)
    rw [← hd, ← hx] at HV
    simp only [← hx] at HC
    clear hd hx
    go_enter Try.func94, Try.ntmps94
    go_wp2_with (go_at_call 90; refine (HC.out _).mono ?_; rintro e w' ⟨rfl, rfl⟩)
    go_ret
    exact ⟨ret_intF (by rw [HV.out]), rfl⟩

theorem codeLong_any (n : Int) (w : World) : Calls Try.prog 51 #[.int .i64 n] w fun e w' => e = .returned (.bool (inW n 1 6)) ∧ w = w' := by
  go_enter Try.func51, Try.ntmps51
  go_wp2_with (go_at_call 72; refine (isLong_any _ _ _).mono ?_; rintro e w' ⟨rfl, rfl⟩)
  go_ret
  exact ⟨rfl, rfl⟩
theorem plLong_any (n : Int) (w : World) : Calls Try.prog 48 #[.int .i64 n] w fun e w' => e = .returned (.bool (inW n 1 6)) ∧ w = w' := by
  go_enter Try.func48, Try.ntmps48
  go_wp2_with (go_at_call 69; refine (inW_any _ _ _ _).mono ?_; rintro e w' ⟨rfl, rfl⟩)
  go_ret
  exact ⟨rfl, rfl⟩

def plHas (ss : List ByteArray) (s : ByteArray) : Bool := plB ss && hasS ss s
theorem plHas_p {ss : List ByteArray} {s : ByteArray} (h : plB ss = false) : plHas ss s = false := by unfold plHas; rw [h]; rfl
theorem plHas_h {ss : List ByteArray} {s : ByteArray} (h : plB ss = true) : plHas ss s = hasS ss s := by unfold plHas; rw [h]; rfl
theorem plHas_of {ss : List ByteArray} {s : ByteArray} (h : plHas ss s = true) : PlB ss ∧ s ∈ ss := by
  unfold plHas at h
  rw [Bool.and_eq_true] at h
  obtain ⟨h1, h2⟩ := fx_at h.2
  exact ⟨plB_iff.1 h.1, by rw [← h2]; exact List.getElem_mem h1⟩

set_option maxHeartbeats 1000000 in
theorem codeOf_any (v : Value) (ss : List ByteArray) (s : ByteArray) (w : World) (h : Strs w v ss) (hcap : CapOk v) : Calls Try.prog 42 #[v, .string s] w fun e w' => e = .returned (.bool (plHas ss s)) ∧ Ext w w' := by
  have HS := Lib.hid h
  have HC := Lib.hid hcap
  clear h hcap
  cases h1 : plB ss
  · have HV := Lib.hid (plHas_p (s := s) h1)
    go_enter Try.func42, Try.ntmps42
    go_wp2_with (go_at_call 50; refine (isPl_any _ _ _ HS.out HC.out).mono ?_; rintro e w' ⟨rfl, x1⟩; rw [h1])
    go_ret
    exact ⟨ret_bool HV.out.symm, x1⟩
  · have HV := Lib.hid (plHas_h (s := s) h1)
    go_enter Try.func42, Try.ntmps42
    go_wp2_with (first | (go_at_call 50; refine (isPl_any _ _ _ HS.out HC.out).mono ?_; rintro e w' ⟨rfl, x1⟩; rw [h1]) | (go_at_call 81; refine (contains_any _ _ _ _ (HS.out.ext x1)).mono ?_; rintro e w' ⟨rfl, x2⟩))
    go_ret
    exact ⟨ret_bool HV.out.symm, x1.trans x2⟩
set_option maxHeartbeats 1000000 in
theorem plHas_any (v : Value) (ss : List ByteArray) (s : ByteArray) (w : World) (h : Strs w v ss) : Calls Try.prog 38 #[v, .string s] w fun e w' => e = .returned (.bool (plHas ss s)) ∧ Ext w w' := by
  have HS := Lib.hid h
  clear h
  cases h1 : plB ss
  · have HV := Lib.hid (plHas_p (s := s) h1)
    go_enter Try.func38, Try.ntmps38
    go_wp2_with (go_at_call 47; refine (plGood_any _ _ _ HS.out).mono ?_; rintro e w' ⟨rfl, x1⟩; rw [h1])
    go_ret
    exact ⟨ret_bool HV.out.symm, x1⟩
  · have HV := Lib.hid (plHas_h (s := s) h1)
    go_enter Try.func38, Try.ntmps38
    go_wp2_with (first | (go_at_call 47; refine (plGood_any _ _ _ HS.out).mono ?_; rintro e w' ⟨rfl, x1⟩; rw [h1]) | (go_at_call 79; refine (l1Has_any _ _ _ _ (HS.out.ext x1)).mono ?_; rintro e w' ⟨rfl, x2⟩))
    go_ret
    exact ⟨ret_bool HV.out.symm, x1.trans x2⟩

/-! ### NumbersIn -/
def okN (ss : List ByteArray) (s : ByteArray) (n : Int) : Bool := plHas ss s && inW n 1 6
def vN (ss : List ByteArray) (s : ByteArray) (n : Int) : Int := if okN ss s n then (nIn s n.toNat : Nat) else 0
theorem okN_p {ss : List ByteArray} {s : ByteArray} {n : Int} (h : plHas ss s = false) : okN ss s n = false := by unfold okN; rw [h]; rfl
theorem okN_n {ss : List ByteArray} {s : ByteArray} {n : Int} (h : inW n 1 6 = false) : okN ss s n = false := by unfold okN; rw [h, Bool.and_false]
theorem okN_y {ss : List ByteArray} {s : ByteArray} {n : Int} (h : plHas ss s = true) (h2 : inW n 1 6 = true) : okN ss s n = true := by unfold okN; rw [h, h2]; rfl
theorem vN_no {ss : List ByteArray} {s : ByteArray} {n : Int} (h : okN ss s n = false) : vN ss s n = 0 := by unfold vN; rw [h]; rfl
theorem vN_yes {ss : List ByteArray} {s : ByteArray} {n : Int} (h : okN ss s n = true) : vN ss s n = (nIn s n.toNat : Nat) := by unfold vN; rw [h]; rfl
theorem ret_ib {a a' : Int} {b b' : Bool} (h : a = a') (h2 : b = b') : Ending.returned (.tuple #[.int .i64 a, .bool b]) = .returned (.tuple #[.int .i64 a', .bool b']) := by rw [h, h2]

end Go.Proofs.Ytinojlbnmnlmhab
