/- How many pins have just some keys: both sides. No conditions. -/
import Derived.Test.YtmpajijnpoekgaaPin
import Derived.Test.YtmpajijnpoekgaaGrid
import Derived.Deep.RegionWith
namespace Go.Proofs.Ytmpajijnpoekgaa
open Go.RowKit

/-- Texts of so many digits that have all of so many keys. -/
def cw : Nat → Nat → Nat
  | 0, 0 => 1
  | _ + 1, 0 => 0
  | 0, _ + 1 => 0
  | k + 1, n + 1 => (k + 1) * (cw (k + 1) n + cw k n)
/-- By how many keys have been used, in the model's way. -/
def dpW (K : Nat) : Nat → Nat → Nat
  | 0, u => if u = 0 then 1 else 0
  | t + 1, 0 => 0 * dpW K t 0
  | t + 1, u + 1 => (u + 1) * dpW K t (u + 1) + (K - u) * dpW K t u
theorem dpW_cw : ∀ K : Nat, K < 11 → ∀ t : Nat, t < 5 → dpW K t K = cw K t := of_decide_eq_true (by kernel_rfl)
theorem dpW_bd : ∀ K : Nat, K < 11 → ∀ t : Nat, t < 5 → ∀ u : Nat, u < 12 → dpW K t u ≤ 20000 := of_decide_eq_true (by kernel_rfl)
theorem cw_bd : ∀ k : Nat, k < 11 → ∀ n : Nat, n < 5 → cw k n ≤ 20000 := of_decide_eq_true (by kernel_rfl)
/-- A row while keys below j have been handed on. -/
def paW (K t j u : Nat) : Nat := (if u < j then u * dpW K t u else 0) + (if 1 ≤ u ∧ u - 1 < j then (K - (u - 1)) * dpW K t (u - 1) else 0)
theorem paW_0 (K t u : Nat) : paW K t 0 u = 0 := by unfold paW; rw [if_neg (by omega), if_neg (by omega)]
theorem paW_all (K t u : Nat) (h : u ≤ K) : paW K t (K + 1) u = dpW K (t + 1) u := by
  unfold paW
  rw [if_pos (by omega)]
  cases u with
  | zero => rw [if_neg (by omega), dpW]; omega
  | succ u => rw [if_pos (by omega), dpW]; simp
theorem paW_self (K t j : Nat) : paW K t (j + 1) j = paW K t j j + j * dpW K t j := by
  unfold paW
  have e1 : j < j + 1 := by omega
  have e2 : ¬ j < j := by omega
  by_cases h : 1 ≤ j
  · have e3 : 1 ≤ j ∧ j - 1 < j + 1 := by omega
    have e4 : 1 ≤ j ∧ j - 1 < j := by omega
    rw [if_pos e1, if_neg e2, if_pos e3, if_pos e4]; omega
  · have e3 : ¬ (1 ≤ j ∧ j - 1 < j + 1) := by omega
    have e4 : ¬ (1 ≤ j ∧ j - 1 < j) := by omega
    rw [if_pos e1, if_neg e2, if_neg e3, if_neg e4]; omega
theorem paW_next (K t j : Nat) : paW K t (j + 1) (j + 1) = paW K t j (j + 1) + (K - j) * dpW K t j := by
  unfold paW
  rw [if_neg (by omega), if_pos (by omega), if_neg (by omega), if_neg (by omega)]
  simp
theorem paW_other (K t j u : Nat) (h1 : u ≠ j) (h2 : u ≠ j + 1) : paW K t (j + 1) u = paW K t j u := by
  unfold paW
  by_cases a : u < j
  · rw [if_pos (by omega), if_pos a]
    by_cases b : 1 ≤ u
    · rw [if_pos (by omega), if_pos (by omega)]
    · rw [if_neg (by omega), if_neg (by omega)]
  · rw [if_neg (by omega), if_neg a]
    rw [if_neg (by omega), if_neg (by omega)]
theorem paW_bd : ∀ K : Nat, K < 11 → ∀ t : Nat, t < 4 → ∀ j : Nat, j < 12 → ∀ u : Nat, u < 12 → paW K t j u ≤ 20000 := of_decide_eq_true (by kernel_rfl)

/-- Strictly increasing so far. -/
def incK (s : ByteArray) : Nat → Bool
  | 0 => true
  | 1 => true
  | k + 2 => incK s (k + 1) && decide ((s.data.toList.getD k 0).toNat < (s.data.toList.getD (k + 1) 0).toNat)
theorem getDw (s : ByteArray) (k : Nat) (h : k < s.size) : s.data.toList.getD k 0 = s[k] := by
  rw [List.getD_eq_getElem?_getD, List.getElem?_eq_getElem (show k < s.data.toList.length by simpa using h)]
  rfl
theorem incK_yes {s : ByteArray} {k : Nat} (h : incK s (k + 1) = true) (hk : k + 1 < s.size) (h2 : s[k].toNat < s[k + 1].toNat) : incK s (k + 1 + 1) = true := by
  rw [incK, h, getDw s k (by omega), getDw s (k + 1) hk, decide_eq_true h2]; rfl
theorem incK_bad {s : ByteArray} {k : Nat} (hk : k + 1 < s.size) (h2 : ¬ s[k].toNat < s[k + 1].toNat) : incK s (k + 1 + 1) = false := by
  rw [incK, getDw s k (by omega), getDw s (k + 1) hk, decide_eq_false h2, Bool.and_false]
theorem incK_no {s : ByteArray} {k : Nat} (h : incK s k = false) : ∀ m, k ≤ m → incK s m = false := by
  intro m hm
  induction m with
  | zero => obtain rfl : k = 0 := by omega
            cases h
  | succ m ih =>
    by_cases e : k = m + 1
    · rw [← e]; exact h
    · cases m with
      | zero => obtain rfl : k = 0 := by omega
                cases h
      | succ m => rw [incK, ih (by omega)]; rfl
def wnB (s : ByteArray) : Bool := isDg 1 10 s && incK s s.size
theorem wnB_d {s : ByteArray} (h : isDg 1 10 s = false) : wnB s = false := by unfold wnB; rw [h]; rfl
theorem wnB_n {s : ByteArray} {k : Nat} (h : incK s k = false) (hk : k ≤ s.size) : wnB s = false := by unfold wnB; rw [incK_no h _ hk, Bool.and_false]
theorem wnB_y {s : ByteArray} (h : isDg 1 10 s = true) (h2 : incK s s.size = true) : wnB s = true := by unfold wnB; rw [h, h2]; rfl
theorem wnB_size {s : ByteArray} (h : wnB s = true) : 1 ≤ s.size ∧ s.size ≤ 10 := by
  unfold wnB at h
  rw [Bool.and_eq_true] at h
  have := isDg_size h.1
  omega
def wnG (s : ByteArray) (n : Int) : Bool := wnB s && inW n 2 4
theorem wnG_s {s : ByteArray} {n : Int} (h : wnB s = false) : wnG s n = false := by unfold wnG; rw [h]; rfl
theorem wnG_n {s : ByteArray} {n : Int} (h : inW n 2 4 = false) : wnG s n = false := by unfold wnG; rw [h, Bool.and_false]
theorem wnG_y {s : ByteArray} {n : Int} (h : wnB s = true) (h2 : inW n 2 4 = true) : wnG s n = true := by unfold wnG; rw [h, h2]; rfl
def wnV (s : ByteArray) (n : Int) : Int := if wnG s n then (cw s.size n.toNat : Nat) else 0
theorem wnV_no {s : ByteArray} {n : Int} (h : wnG s n = false) : wnV s n = 0 := by unfold wnV; rw [h]; rfl
theorem wnV_yes {s : ByteArray} {m : Nat} (h : wnG s (m : Int) = true) : wnV s (m : Int) = (cw s.size m : Nat) := by unfold wnV; rw [h]; rfl
theorem ret_iBw {a a' : Int} {b b' : Bool} (h : a = a') (h2 : b = b') : Ending.returned (.tuple #[.int .i64 a, .bool b]) = .returned (.tuple #[.int .i64 a', .bool b']) := by rw [h, h2]

/-! ### The program -/
set_option maxHeartbeats 1000000 in
theorem worn_any (s : ByteArray) (w : World) (hs : s.size ≤ maxLen) : Calls Try.prog 72 #[.string s] w fun e w' => e = .returned (.bool (wnB s)) ∧ Ext w w' := by
  cases h1 : isDg 1 10 s
  · have HV := Lib.hid (wnB_d h1)
    go_enter Try.func72, Try.ntmps72
    go_wp2_with (go_at_call 62; refine (areDig_any _ _ _ _ hs).mono ?_; rintro e w' ⟨rfl, rfl⟩; rw [h1])
    go_ret
    exact ⟨ret_bool HV.out.symm, Ext.refl _⟩
  obtain ⟨hz1, hz2⟩ := isDg_size h1
  have HD := Lib.hid h1
  go_enter Try.func72, Try.ntmps72
  go_wp2_with (go_at_call 62; refine (areDig_any _ _ _ _ hs).mono ?_; rintro e w' ⟨rfl, rfl⟩; rw [h1])
  clear h1
  go_loopw [3] (fun i wr => ∃ k : Nat, k + 1 ≤ s.size ∧ i = .int .i64 ((k + 1 : Nat) : Int) ∧ incK s (k + 1) = true ∧ Ext w wr) (fun i _ => s.size - (intOf i).toNat)
  case atStart => exact ⟨0, by omega, rfl, rfl, Ext.refl _⟩
  case round =>
    obtain ⟨k, hk, rfl, hw, hx⟩ := hrel
    have HW := Lib.hid hw
    clear hw
    by_cases hlt : k + 1 < s.size
    · have HY := Lib.hid (fun h => incK_yes HW.out hlt h)
      have HN := Lib.hid (fun h => wnB_n (incK_bad hlt h) hlt)
      have ik : ∀ w, (Instr.index 9 (.string s) (.int .i64 (k : Int))).run Try.prog w = .ok (.int .u8 (s[k]'(by omega)).toNat) w := fun w => ixS s k (by omega) w
      have ik1 : ∀ w, (Instr.index 9 (.string s) (.int .i64 ((k + 1 : Nat) : Int))).run Try.prog w = .ok (.int .u8 (s[k + 1]'hlt).toNat) w := fun w => ixS s (k + 1) hlt w
      obtain ⟨k1, hk1⟩ : ∃ k1, k1 = k + 1 := ⟨_, rfl⟩
      have hk1s : k1 < s.size := by omega
      obtain ⟨a, ha⟩ : ∃ a : Nat, a = (s[k]'(by omega)).toNat := ⟨_, rfl⟩
      obtain ⟨b, hb⟩ : ∃ b : Nat, b = (s[k + 1]'hlt).toNat := ⟨_, rfl⟩
      rw [← ha] at ik HY HN
      rw [← hb] at ik1 HY HN
      rw [← hk1] at ik1
      have hkm : (k1 : Int) - 1 = (k : Int) := by omega
      have Wk : IntKind.i64.wrap ((k1 : Int) - 1) = (k : Int) := by simp only [IntKind.wrap_i64]; omega
      rw [← hk1]
      have HKK := Lib.hid hk1
      have hk1n : k1 ≤ 40 := by omega
      clear ha hb hk1 hlt hk
      by_cases hg : a < b
      · have hgi : ¬ (b : Int) ≤ (a : Int) := by omega
        have HV := Lib.hid (HY.out hg)
        clear hg
        go_wp2
        go_quiet (fail)
        go_wp2
        go_roundw
        case rel => exact ⟨k + 1, by have := HKK.out; omega, by have := HKK.out; rw [show ((k + 1 + 1 : Nat) : Int) = (k1 : Int) + 1 by omega], HV.out, ext_drewN hx _⟩
        case measure => simp [intOf]; omega
      · have hgi : (b : Int) ≤ (a : Int) := by omega
        have HV := Lib.hid (HN.out hg)
        clear hg
        go_wp2
        go_quiet (fail)
        go_wp2
        go_ret
        exact ⟨ret_bool HV.out.symm, ext_drewN hx _⟩
    · have HV := Lib.hid (wnB_y (s := s) HD.out ((show k + 1 = s.size by omega) ▸ HW.out))
      go_wp2
      go_ret
      exact ⟨ret_bool HV.out.symm, hx⟩

set_option maxHeartbeats 1000000 in
theorem cw_any (n : Nat) : ∀ (k : Nat) (w : World), n ≤ 4 → k ≤ 10 → Calls Try.prog 74 #[.int .i64 k, .int .i64 n] w fun e w' => e = .returned (.int .i64 (cw k n : Nat)) ∧ w = w' := by
  induction n with
  | zero =>
    intro k w hn hk
    cases k with
    | zero =>
      go_enter Try.func74, Try.ntmps74
      go_wp2_with fail
      go_ret
      exact ⟨rfl, rfl⟩
    | succ k =>
      obtain ⟨k1, hk1⟩ : ∃ k1, k1 = k + 1 := ⟨_, rfl⟩
      have HV := Lib.hid (show cw (k + 1) 0 = 0 from rfl)
      rw [← hk1] at HV ⊢
      have t : ((k1 : Int) == 0) = false := by simp; omega
      clear hk1
      go_enter Try.func74, Try.ntmps74
      go_wp2_with fail
      go_ret
      exact ⟨by rw [HV.out]; rfl, rfl⟩
  | succ n ih =>
    intro k w hn hk
    obtain ⟨n1, hn1⟩ : ∃ n1, n1 = n + 1 := ⟨_, rfl⟩
    have hnn : ((n1 : Int) == 0) = false := by simp; omega
    have hnm : (n1 : Int) - 1 = (n : Int) := by omega
    have Wn : IntKind.i64.wrap ((n1 : Int) - 1) = (n : Int) := by simp only [IntKind.wrap_i64]; omega
    cases k with
    | zero =>
      have HV := Lib.hid (show cw 0 (n + 1) = 0 from rfl)
      rw [← hn1] at HV ⊢
      clear hn1
      go_enter Try.func74, Try.ntmps74
      go_wp2_with fail
      go_ret
      exact ⟨by rw [HV.out]; rfl, rfl⟩
    | succ k =>
      have HV := Lib.hid (show cw (k + 1) (n + 1) = (k + 1) * (cw (k + 1) n + cw k n) from rfl)
      have b1 := cw_bd (k + 1) (by omega) n (by omega)
      have b2 := cw_bd k (by omega) n (by omega)
      have H1 := Lib.hid (fun (z : Nat) (w : World) (hz : z ≤ 10) => ih z w (by omega) hz)
      obtain ⟨x, hx⟩ : ∃ x, x = cw (k + 1) n := ⟨_, rfl⟩
      obtain ⟨y, hy⟩ : ∃ y, y = cw k n := ⟨_, rfl⟩
      rw [← hx] at b1 HV
      rw [← hy] at b2 HV
      obtain ⟨k1, hk1⟩ : ∃ k1, k1 = k + 1 := ⟨_, rfl⟩
      rw [← hn1, ← hk1] at HV ⊢
      rw [← hk1] at hx
      have HX := Lib.hid hx.symm
      have HY := Lib.hid hy.symm
      have hkk : ((k1 : Int) == 0) = false := by simp; omega
      have hkm : (k1 : Int) - 1 = (k : Int) := by omega
      have Wk : IntKind.i64.wrap ((k1 : Int) - 1) = (k : Int) := by simp only [IntKind.wrap_i64]; omega
      have hk10 : k1 ≤ 10 := by omega
      have hk0 : k ≤ 10 := by omega
      have hmul : k1 * (x + y) ≤ 10 * (x + y) := Nat.mul_le_mul_right _ hk10
      obtain ⟨m, hm⟩ : ∃ m, m = k1 * (x + y) := ⟨_, rfl⟩
      have Em : (k1 : Int) * ((x : Int) + (y : Int)) = (m : Int) := by rw [hm]; simp
      have Wm : IntKind.i64.wrap ((k1 : Int) * ((x : Int) + (y : Int))) = (m : Int) := by
        rw [Em]
        simp only [IntKind.wrap_i64]; omega
      have Wm2 : IntKind.i64.wrap (m : Int) = (m : Int) := by simp only [IntKind.wrap_i64]; omega
      have Wa : IntKind.i64.wrap ((x : Int) + (y : Int)) = (x : Int) + (y : Int) := by simp only [IntKind.wrap_i64]; omega
      rw [← hm] at HV
      clear hn1 hk1 hx hy ih hmul hm
      go_enter Try.func74, Try.ntmps74
      go_wp2_with (go_at_call 74; refine (H1.out _ _ (by assumption)).mono ?_; rintro e w' ⟨rfl, rfl⟩; first | rw [HX.out] | rw [HY.out])
      go_ret
      exact ⟨ret_iD (by rw [HV.out]), rfl⟩

theorem pinLong_any (n : Int) (w : World) : Calls Try.prog 73 #[.int .i64 n] w fun e w' => e = .returned (.bool (inW n 2 4)) ∧ w = w' := by
  by_cases h1 : 2 ≤ n
  · by_cases h2 : n ≤ 4
    · have HV := Lib.hid (inW_yes h1 h2)
      go_enter Try.func73, Try.ntmps73
      go_wp2
      go_ret
      exact ⟨ret_bool (by rw [HV.out]), rfl⟩
    · have HV := Lib.hid (inW_hi (lo := 2) (show 4 < n by omega))
      go_enter Try.func73, Try.ntmps73
      go_wp2
      go_ret
      exact ⟨ret_bool (by rw [HV.out]), rfl⟩
  · have HV := Lib.hid (inW_lo (hi := 4) (show n < 2 by omega))
    go_enter Try.func73, Try.ntmps73
    go_wp2
    go_ret
    exact ⟨ret_bool (by rw [HV.out]), rfl⟩

theorem inW_bd2 {n lo hi : Int} (h : inW n lo hi = true) : lo ≤ n ∧ n ≤ hi := by unfold inW at h; simp at h; exact h
set_option maxHeartbeats 1000000 in
theorem wnI_any (s : ByteArray) (n : Int) (w : World) (hs : s.size ≤ maxLen) : Calls Try.prog 37 #[.string s, .int .i64 n] w fun e w' => e = .returned (.tuple #[.int .i64 (wnV s n), .bool (wnG s n)]) ∧ Ext w w' := by
  cases h1 : wnB s
  · have HG := Lib.hid (wnG_s (n := n) h1)
    have HV := Lib.hid (wnV_no HG.out)
    go_enter Try.func37, Try.ntmps37
    go_wp2_with (go_at_call 72; refine (worn_any _ _ hs).mono ?_; rintro e w1 ⟨rfl, x1⟩; rw [h1])
    go_ret2
    exact ⟨ret_iBw HV.out.symm HG.out.symm, x1⟩
  cases h2 : inW n 2 4
  · have HG := Lib.hid (wnG_n (s := s) h2)
    have HV := Lib.hid (wnV_no HG.out)
    go_enter Try.func37, Try.ntmps37
    go_wp2_with (first | (go_at_call 72; refine (worn_any _ _ hs).mono ?_; rintro e w1 ⟨rfl, x1⟩; rw [h1]) | (go_at_call 73; refine (pinLong_any _ _).mono ?_; rintro e w2 ⟨rfl, rfl⟩; rw [h2]))
    go_ret2
    exact ⟨ret_iBw HV.out.symm HG.out.symm, x1⟩
  have hG := wnG_y h1 h2
  obtain ⟨n1, n2⟩ := inW_bd2 h2
  obtain ⟨m, rfl⟩ : ∃ m : Nat, n = (m : Int) := Int.eq_ofNat_of_zero_le (by omega)
  have HG := Lib.hid hG
  have HV := Lib.hid (wnV_yes hG)
  have hz := wnB_size h1
  have HC := Lib.hid (fun w => cw_any m s.size w (by omega) (by omega))
  go_enter Try.func37, Try.ntmps37
  go_wp2_with (first | (go_at_call 72; refine (worn_any _ _ hs).mono ?_; rintro e w1 ⟨rfl, x1⟩; rw [h1]) | (go_at_call 73; refine (pinLong_any _ _).mono ?_; rintro e w2 ⟨rfl, rfl⟩; rw [h2]) | (go_at_call 74; refine (HC.out _).mono ?_; rintro e w2 ⟨rfl, rfl⟩))
  go_ret2
  exact ⟨ret_iBw HV.out.symm HG.out.symm, x1⟩
end Go.Proofs.Ytmpajijnpoekgaa
