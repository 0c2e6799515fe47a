/- Texts of so many digits, as the model of the checks tells them, and what is asked of numbers by doubling. No conditions. -/
import Derived.Test.YtdhcknknmloopaaDbl
namespace Go.Proofs.Ytdhcknknmloopaa
open Go.RowKit

def allDg (s : ByteArray) : Bool := s.data.toList.all fun c => isg c.toNat
theorem allDg_no {s : ByteArray} (k : Nat) (h : k < s.size) (hL : isg s[k].toNat = false) : allDg s = false := by
  have hm : s[k] ∈ s.data.toList := by
    have h2 : k < s.data.toList.length := by simpa using h
    have : s.data.toList[k] = s[k] := rfl
    rw [← this]; exact List.getElem_mem h2
  unfold allDg
  rw [List.all_eq_false]; exact ⟨_, hm, by simp [hL]⟩
theorem isDg_all {lo hi : Int} {s : ByteArray} (h1 : lo ≤ (s.size : Int)) (h2 : (s.size : Int) ≤ hi) : isDg lo hi s = allDg s := by
  unfold isDg allDg
  rw [decide_eq_true h1, decide_eq_true h2]; rfl

set_option maxHeartbeats 400000 in
theorem ckDig_any (s : ByteArray) (w : World) (hs : s.size ≤ maxLen) : Calls Try.prog 78 #[.string s] w fun e w' => e = .returned (.bool (allDg s)) ∧ w = w' := by
  unfold maxLen at hs
  go_enter Try.func78, Try.ntmps78
  go_wp2
  go_loop [3] (fun i => ∃ k : Nat, k ≤ s.size ∧ i = .int .i64 k ∧ (s.data.toList.take k).all (fun c => isg c.toNat) = true) (fun i => s.size - (intOf i).toNat)
  case atStart => exact ⟨0, Nat.zero_le _, rfl, rfl⟩
  case round =>
    obtain ⟨k, hk, rfl, hall⟩ := hrel
    have HA := Lib.hid hall
    clear hall
    by_cases hlt : k < s.size
    · by_cases hA : s[k].toNat < 48
      · have HV := Lib.hid (allDg_no k hlt (isg_lo (by omega)))
        go_wp2
        go_ret
        exact ⟨ret_bool HV.out.symm, rfl⟩
      by_cases hB : 57 < s[k].toNat
      · have HV := Lib.hid (allDg_no k hlt (isg_hi (by omega)))
        go_wp2
        go_ret
        exact ⟨ret_bool HV.out.symm, rfl⟩
      have HN := Lib.hid (show (s.data.toList.take (k + 1)).all (fun c => isg c.toNat) = true by
        rw [isWk_take s k hlt, HA.out, isg_of (by omega) (by omega)]; rfl)
      go_wp2
      go_round
      case rel => exact ⟨k + 1, by omega, by go_num, HN.out⟩
      case measure => simp [intOf]; omega
    · have HV := Lib.hid (show allDg s = true by have := HA.out; rw [List.take_of_length_le (by simp; omega)] at this; exact this)
      go_wp2
      go_ret
      exact ⟨ret_bool HV.out.symm, rfl⟩

/-! ### The laws' values -/
def dsV (s : ByteArray) : Int := if isDg 2 12 s = true then (fs s s.size : Nat) else 0
theorem dsV_no {s : ByteArray} (h : isDg 2 12 s = false) : dsV s = 0 := by unfold dsV; rw [h]; rfl
theorem dsV_yes {s : ByteArray} (h : isDg 2 12 s = true) : dsV s = (fs s s.size : Nat) := by unfold dsV; rw [h]; rfl
def drV (s : ByteArray) : Bool := isDg 2 12 s && decide (fs s s.size % 10 = 0)
theorem drV_no {s : ByteArray} (h : isDg 2 12 s = false) : drV s = false := by unfold drV; rw [h]; rfl
theorem drV_yes {s : ByteArray} (h : isDg 2 12 s = true) (h2 : fs s s.size % 10 = 0) : drV s = true := by unfold drV; rw [h, decide_eq_true h2]; rfl
theorem drV_not {s : ByteArray} (h : ¬ fs s s.size % 10 = 0) : drV s = false := by unfold drV; rw [decide_eq_false h, Bool.and_false]
theorem dg_wk {s : ByteArray} (h : isDg 2 12 s = true) : isWk s = true := isDg_wk h (by decide) (by decide)

/-! ### The check by doubling -/
def sgB (d : Nat) : ByteArray := (⟨#[48, 49, 50, 51, 52, 53, 54, 55, 56, 57, 88]⟩ : ByteArray).extract d (d + 1)
theorem sgB_eq (d : Nat) : (⟨#[48, 49, 50, 51, 52, 53, 54, 55, 56, 57, 88]⟩ : ByteArray).extract d (d + 1) = sgB d := rfl
theorem sgB_dg : ∀ d, d < 10 → sgB d = dgB d := by
  intro d h
  have := (of_decide_eq_true (by kernel_rfl) : ∀ d : Nat, d < 10 → (sgB d).data = (dgB d).data) d h
  exact ByteArray.ext this
theorem slC (s : ByteArray) (i j : Nat) (h1 : i ≤ j) (h2 : j ≤ s.size) (w : World) : (Instr.slice 9 (.string s) (some (.int .i64 (i : Int))) (some (.int .i64 (j : Int))) none).run Try.prog w = .ok (.string (s.extract i j)) w := by
  have a1 : (i : Int) ≤ (j : Int) := by omega
  have a2 : (j : Int) ≤ (s.size : Int) := by omega
  have hj : 0 ≤ (j : Int) := by omega
  simp [go_sem, h1, h2]
theorem slSg (d d1 : Nat) (h : d < 11) (e : d1 = d + 1) (w : World) : (Instr.slice 9 (.string ⟨#[48, 49, 50, 51, 52, 53, 54, 55, 56, 57, 88]⟩) (some (.int .i64 (d : Int))) (some (.int .i64 (d1 : Int))) none).run Try.prog w = .ok (.string (sgB d)) w := by
  subst e
  exact slC ⟨#[48, 49, 50, 51, 52, 53, 54, 55, 56, 57, 88]⟩ d (d + 1) (by omega) (show d + 1 ≤ 11 by omega) w
theorem slDg (d d1 : Nat) (h : d < 10) (e : d1 = d + 1) (w : World) : (Instr.slice 9 (.string ⟨#[48, 49, 50, 51, 52, 53, 54, 55, 56, 57]⟩) (some (.int .i64 (d : Int))) (some (.int .i64 (d1 : Int))) none).run Try.prog w = .ok (.string (dgB d)) w := by
  subst e
  exact slC ⟨#[48, 49, 50, 51, 52, 53, 54, 55, 56, 57]⟩ d (d + 1) (by omega) (show d + 1 ≤ 10 by omega) w
theorem allDg_app {s t : ByteArray} (h : allDg s = true) (h2 : allDg t = true) : allDg (s ++ t) = true := by
  unfold allDg at *
  rw [show (s ++ t).data.toList = s.data.toList ++ t.data.toList by rw [ByteArray.data_append, Array.toList_append], List.all_append, h, h2]; rfl
theorem wk0 {s : ByteArray} (h : isDg 1 11 s = true) : isWk (s ++ ⟨#[48]⟩) = true := by
  obtain ⟨a, b⟩ := isDg_size h
  have e : (s ++ ⟨#[48]⟩ : ByteArray).size = s.size + 1 := by rw [ByteArray.size_append]; rfl
  rw [isDg_all a b] at h
  exact isWk_yes (by omega) (by omega) (allDg_app h rfl)
/-- The check of a sum. -/
def ck10 (n : Nat) : Nat := (10 - n % 10) % 10
theorem ck10_lt (n : Nat) : ck10 n < 10 := by unfold ck10; omega
def dcV (s : ByteArray) : ByteArray := if isDg 1 11 s = true then dgB (ck10 (fs (s ++ ⟨#[48]⟩) (s ++ ⟨#[48]⟩).size)) else ByteArray.empty
theorem dcV_no {s : ByteArray} (h : isDg 1 11 s = false) : dcV s = ByteArray.empty := by unfold dcV; rw [h]; rfl
theorem dcV_yes {s : ByteArray} (h : isDg 1 11 s = true) : dcV s = dgB (ck10 (fs (s ++ ⟨#[48]⟩) (s ++ ⟨#[48]⟩).size)) := by unfold dcV; rw [h]; rfl

end Go.Proofs.Ytdhcknknmloopaa
