/- Signs of checks: what they stand for, the program's and the model's look for them. No conditions. -/
import Derived.Test.YtdhcknknmloopaaCkD
namespace Go.Proofs.Ytdhcknknmloopaa
open Go.RowKit

def isSgN (n : Nat) : Bool := isg n || decide (n = 88)
def isSg (b : UInt8) : Bool := isSgN b.toNat
/-- What a sign stands for. -/
def svB (b : UInt8) : Nat := if b.toNat = 88 then 10 else b.toNat - 48
theorem svB_le {b : UInt8} (h : isSg b = true) : svB b ≤ 10 := by
  unfold isSg isSgN at h
  unfold svB
  rw [Bool.or_eq_true] at h
  rcases h with h | h
  · have := isg_bd h
    split <;> omega
  · rw [if_pos (of_decide_eq_true h)]
    exact Nat.le_refl _
theorem svB_dg {b : UInt8} (h : isg b.toNat = true) : svB b < 10 ∧ (b.toNat : Int) = (svB b : Int) + 48 := by
  have := isg_bd h
  unfold svB
  rw [if_neg (by omega)]
  omega
def sgL : List UInt8 := [48, 49, 50, 51, 52, 53, 54, 55, 56, 57, 88]
def sgx (c : Int) : Int := Lib.indexByte sgL c.toNat.toUInt8
theorem sgx_all : ∀ n : Nat, n < 256 → sgx n = if isSgN n = true then ((if n = 88 then 10 else n - 48 : Nat) : Int) else -1 := of_decide_eq_true (by kernel_rfl)
theorem sgx_yes {b : UInt8} (h : isSg b = true) : sgx b.toNat = (svB b : Nat) := by
  rw [sgx_all b.toNat b.toNat_lt, if_pos (show isSgN b.toNat = true from h)]; rfl
theorem sgx_no {b : UInt8} (h : isSg b = false) : sgx b.toNat = -1 := by
  rw [sgx_all b.toNat b.toNat_lt, if_neg (by rw [show isSgN b.toNat = false from h]; decide)]
theorem sgx_dec (b : UInt8) : decide (0 ≤ sgx b.toNat) = isSg b := by
  cases h : isSg b
  · rw [sgx_no h]; rfl
  · rw [sgx_yes h]; exact decide_eq_true (by omega)
theorem sidx_any (c : Int) (w : World) : Calls Try.prog 81 #[.string ⟨#[48, 49, 50, 51, 52, 53, 54, 55, 56, 57, 88]⟩, .int .u8 c] w fun e w' => e = .returned (.int .i64 (sgx c)) ∧ w = w' := idx_any _ _ _

set_option maxRecDepth 100000 in
set_option maxHeartbeats 1000000 in
theorem sindex_any (b : UInt8) (w : World) : Calls Try.prog 108 #[.string ⟨#[48, 49, 50, 51, 52, 53, 54, 55, 56, 57, 88]⟩, .string ⟨#[b]⟩] w fun e w' => e = .returned (.int .i64 (sgx b.toNat)) ∧ w = w' := by
  have hz : 0 < (⟨#[b]⟩ : ByteArray).size := Nat.zero_lt_one
  have he : ∀ w, (callFunc 96 #[.string ⟨#[48, 49, 50, 51, 52, 53, 54, 55, 56, 57, 88]⟩, .int .u8 ((⟨#[b]⟩ : ByteArray)[0]'hz).toNat]).run Try.prog w = .ok (.value (.int .i64 (sgx b.toNat))) w := fun w => by
    rw [run_callFunc_extern Try.func96 (by kernel_rfl) (by kernel_rfl) (by kernel_rfl) (e := Extern.BytealgIndexByte.indexByte) (by kernel_rfl), Lib.run_indexByteString]
    rfl
  go_enter Try.func108, Try.ntmps108
  go_wp2
  go_ret
  exact ⟨rfl, rfl⟩
theorem sIndex_any (b : UInt8) (w : World) : Calls Try.prog 95 #[.string ⟨#[48, 49, 50, 51, 52, 53, 54, 55, 56, 57, 88]⟩, .string ⟨#[b]⟩] w fun e w' => e = .returned (.int .i64 (sgx b.toNat)) ∧ w = w' := by
  go_enter Try.func95, Try.ntmps95
  go_wp2_with (go_at_call 108; refine (sindex_any _ _).mono ?_; rintro e w' ⟨rfl, rfl⟩)
  go_ret
  exact ⟨rfl, rfl⟩
theorem scont_any (b : UInt8) (w : World) : Calls Try.prog 89 #[.string ⟨#[48, 49, 50, 51, 52, 53, 54, 55, 56, 57, 88]⟩, .string ⟨#[b]⟩] w fun e w' => e = .returned (.bool (isSg b)) ∧ w = w' := by
  have HP := Lib.hid (sgx_dec b)
  go_enter Try.func89, Try.ntmps89
  go_wp2_with (go_at_call 95; refine (sIndex_any _ _).mono ?_; rintro e w' ⟨rfl, rfl⟩)
  go_ret
  exact ⟨ret_bool HP.out, rfl⟩
/-- A text of one sign of a check. -/
def oneSg (s : ByteArray) : Bool := decide (s.size = 1) && isSg (s.data.toList.getD 0 0)
theorem oneSg_no {s : ByteArray} (h : s.size ≠ 1) : oneSg s = false := by unfold oneSg; rw [decide_eq_false h]; rfl
theorem oneSg_b (b : UInt8) : oneSg ⟨#[b]⟩ = isSg b := by unfold oneSg; rfl
theorem isCheck_any (s : ByteArray) (w : World) (hs : s.size ≤ maxLen) : Calls Try.prog 80 #[.string s] w fun e w' => e = .returned (.bool (oneSg s)) ∧ w = w' := by
  unfold maxLen at hs
  by_cases h1 : s.size = 1
  · have t : ((s.size : Int) == 1) = true := by simp [h1]
    have e1 := one_eq h1
    obtain ⟨b, hb⟩ : ∃ b, b = s[0]'(by omega) := ⟨_, rfl⟩
    rw [← hb] at e1
    subst e1
    clear hb
    rw [oneSg_b]
    go_enter Try.func80, Try.ntmps80
    go_wp2_with (go_at_call 89; refine (scont_any _ _).mono ?_; rintro e w' ⟨rfl, rfl⟩)
    go_ret
    exact ⟨rfl, rfl⟩
  · have t : ((s.size : Int) == 1) = false := by simp; omega
    have H := Lib.hid (oneSg_no h1)
    clear h1
    go_enter Try.func80, Try.ntmps80
    go_wp2
    go_ret
    exact ⟨ret_bool H.out.symm, rfl⟩

/-! ### The model's -/
def sgc (k : Nat) : Nat := if k = 10 then 88 else 48 + k
theorem sgc_get : ∀ k : Nat, k < 11 → ((⟨#[48, 49, 50, 51, 52, 53, 54, 55, 56, 57, 88]⟩ : ByteArray).data.toList.getD k 0).toNat = sgc k := of_decide_eq_true (by kernel_rfl)
theorem ixSg (k : Nat) (hk : k < 11) (w : World) : (Instr.index 9 (.string ⟨#[48, 49, 50, 51, 52, 53, 54, 55, 56, 57, 88]⟩) (.int .i64 (k : Int))).run Try.prog w = .ok (.int .u8 (sgc k : Nat)) w := by
  have h1 := ixS ⟨#[48, 49, 50, 51, 52, 53, 54, 55, 56, 57, 88]⟩ k hk w
  have h2 := sgc_get k hk
  rw [List.getD_eq_getElem?_getD, List.getElem?_eq_getElem (show k < (⟨#[48, 49, 50, 51, 52, 53, 54, 55, 56, 57, 88]⟩ : ByteArray).data.toList.length from hk)] at h2
  rw [h1, ← h2]
  rfl
theorem sgc_hit {n k : Nat} (hk : k < 11) (h : sgc k = n) : isSgN n = true ∧ (if n = 88 then 10 else n - 48) = k := by
  unfold sgc at h
  unfold isSgN
  by_cases e : k = 10
  · rw [if_pos e] at h
    subst h; subst e
    exact ⟨by decide, rfl⟩
  · rw [if_neg e] at h
    subst h
    refine ⟨?_, ?_⟩
    · rw [isg_of (by omega) (by omega)]; rfl
    · rw [if_neg (by omega)]; omega
theorem sgc_all {n : Nat} (h : isSgN n = true) : ∃ k, k < 11 ∧ sgc k = n := by
  unfold isSgN at h
  rw [Bool.or_eq_true] at h
  rcases h with h | h
  · have := isg_bd h
    refine ⟨n - 48, by omega, ?_⟩
    unfold sgc
    rw [if_neg (by omega)]
    omega
  · exact ⟨10, by decide, (of_decide_eq_true h).symm⟩
/-- A sign's number, or -1. -/
def cx (b : UInt8) : Int := if isSg b = true then (svB b : Nat) else -1
theorem cx_yes {b : UInt8} (h : isSg b = true) : cx b = (svB b : Nat) := by unfold cx; rw [if_pos h]
theorem cx_no {b : UInt8} (h : isSg b = false) : cx b = -1 := by unfold cx; rw [h]; rfl

set_option maxHeartbeats 1000000 in
theorem ckCheck_any (b : UInt8) (w : World) : Calls Try.prog 56 #[.int .u8 (b.toNat : Int)] w fun e w' => e = .returned (.int .i64 (cx b)) ∧ w = w' := by
  have HY := Lib.hid (fun (k : Nat) (hk : k < 11) (h : sgc k = b.toNat) => (show cx b = (k : Int) by
    have := sgc_hit hk h
    rw [cx_yes this.1]
    exact congrArg Int.ofNat this.2))
  have HN := Lib.hid (fun (h : ∀ k, k < 11 → sgc k ≠ b.toNat) => (show cx b = -1 by
    cases hs : isSg b
    · exact cx_no hs
    · obtain ⟨k, hk, e⟩ := sgc_all hs
      exact absurd e (h k hk)))
  obtain ⟨c, hc⟩ : ∃ c, c = b.toNat := ⟨_, rfl⟩
  obtain ⟨x, hx⟩ : ∃ x, x = cx b := ⟨_, rfl⟩
  rw [← hc] at HY HN ⊢
  rw [← hx] at HY HN ⊢
  clear hc hx
  go_enter Try.func56, Try.ntmps56
  go_wp2
  go_loop [3] (fun i => ∃ k : Nat, k ≤ 11 ∧ i = .int .i64 k ∧ ∀ j, j < k → sgc j ≠ c) (fun i => 11 - (intOf i).toNat)
  case atStart => exact ⟨0, by decide, rfl, fun j h => absurd h (by omega)⟩
  case round =>
    obtain ⟨k, hk, rfl, hall⟩ := hrel
    have HA := Lib.hid hall
    clear hall
    by_cases hlt : k < 11
    · have ik := fun w => ixSg k hlt w
      obtain ⟨g, hg⟩ : ∃ g, g = sgc k := ⟨_, rfl⟩
      by_cases he : sgc k = c
      · have HV := Lib.hid (HY.out k hlt he)
        rw [← hg] at ik he
        clear hg
        have t : ((g : Int) == (c : Int)) = true := beq_iff_eq.2 (by omega)
        clear he
        go_wp2
        go_ret
        exact ⟨by rw [HV.out]; rfl, rfl⟩
      · have HK := Lib.hid (show ∀ j, j < k + 1 → sgc j ≠ c from fun j hj => by
          by_cases e : j = k
          · subst e; exact he
          · exact HA.out j (by omega))
        rw [← hg] at ik he
        clear hg
        have t : ((g : Int) == (c : Int)) = false := beq_eq_false_iff_ne.2 (by omega)
        clear he
        go_wp2
        go_round
        case rel => exact ⟨k + 1, by omega, by go_num, HK.out⟩
        case measure => simp [intOf]; omega
    · have HV := Lib.hid (HN.out (fun j hj => HA.out j (by omega)))
      go_wp2
      go_ret
      exact ⟨by rw [HV.out]; rfl, rfl⟩

end Go.Proofs.Ytdhcknknmloopaa
