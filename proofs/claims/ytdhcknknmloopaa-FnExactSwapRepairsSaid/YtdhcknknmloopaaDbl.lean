/- Numbers by doubling: the program's sum of digits, doubled from the last one back, and its model's. No conditions. -/
import Derived.Test.YtdhcknknmloopaaWg
namespace Go.Proofs.Ytdhcknknmloopaa
open Go.RowKit

/-- A digit doubled, or the sum of its two digits. -/
def dd (d : Nat) : Nat := 2 * d / 10 + 2 * d % 10
theorem dd_le {d : Nat} (h : d < 10) : dd d ≤ 18 := by unfold dd; omega
/-- What a place of a text adds. -/
def dt (s : ByteArray) (j : Nat) : Nat := if (s.size - j) % 2 = 0 then dd (dgt s j) else dgt s j
theorem dt_even {s : ByteArray} {j : Nat} (h : (s.size - j) % 2 = 0) : dt s j = dd (dgt s j) := by unfold dt; rw [if_pos h]
theorem dt_odd {s : ByteArray} {j : Nat} (h : ¬ (s.size - j) % 2 = 0) : dt s j = dgt s j := by unfold dt; rw [if_neg h]
theorem dt_le {s : ByteArray} (h : isWk s = true) {j : Nat} (hj : j < s.size) : dt s j ≤ 18 := by
  obtain ⟨a, _⟩ := dgt_of h hj
  unfold dt
  split
  · exact dd_le a
  · omega
/-- What the places ahead of one add. -/
def fs (s : ByteArray) : Nat → Nat
  | 0 => 0
  | k + 1 => fs s k + dt s k
/-- What the last places add. -/
def bs (s : ByteArray) : Nat → Nat
  | 0 => 0
  | k + 1 => bs s k + dt s (s.size - 1 - k)
theorem bs_fs (s : ByteArray) : ∀ k, k ≤ s.size → bs s k + fs s (s.size - k) = fs s s.size := by
  intro k hk
  induction k with
  | zero => simp [bs]
  | succ k ih =>
    have h := ih (by omega)
    obtain ⟨m, hm⟩ : ∃ m, s.size = k + 1 + m := ⟨s.size - (k + 1), by omega⟩
    rw [show s.size - k = m + 1 by omega, fs] at h
    rw [bs, show s.size - (k + 1) = m by omega, show s.size - 1 - k = m by omega]
    omega
theorem bs_all (s : ByteArray) : bs s s.size = fs s s.size := by
  have h := bs_fs s s.size (Nat.le_refl _)
  rw [Nat.sub_self, fs] at h
  omega
theorem fs_le {s : ByteArray} (h : isWk s = true) : ∀ k, k ≤ s.size → fs s k ≤ 18 * k := by
  intro k hk
  induction k with
  | zero => simp [fs]
  | succ k ih =>
    have := ih (by omega)
    have := dt_le h (show k < s.size by omega)
    rw [fs]
    omega
theorem bs_le {s : ByteArray} (h : isWk s = true) : ∀ k, k ≤ s.size → bs s k ≤ 18 * k := by
  intro k hk
  induction k with
  | zero => simp [bs]
  | succ k ih =>
    have := ih (by omega)
    have := dt_le h (show s.size - 1 - k < s.size by omega)
    rw [bs]
    omega

theorem dbl_any (d : Nat) (w : World) (h : d < 10) : Calls Try.prog 68 #[.int .i64 (d : Int)] w fun e w' => e = .returned (.int .i64 (dd d : Nat)) ∧ w = w' := by
  have h1 : (0 : Int) ≤ (d : Int) := by omega
  have h2 : (d : Int) < 10 := by omega
  have HE := Lib.hid (show 2 * (d : Int) / 10 + 2 * (d : Int) % 10 = ((dd d : Nat) : Int) by unfold dd; omega)
  have q1 : Int.tdiv (2 * (d : Int)) 10 = 2 * (d : Int) / 10 := Int.tdiv_eq_ediv_of_nonneg (by omega)
  have q2 : Int.tmod (2 * (d : Int)) 10 = 2 * (d : Int) % 10 := Int.tmod_eq_emod_of_nonneg (by omega)
  go_enter Try.func68, Try.ntmps68
  go_wp2
  go_ret
  exact ⟨ret_iD (by have := HE.out; omega), rfl⟩

set_option maxHeartbeats 1000000 in
theorem ckDbl_any (s : ByteArray) (w : World) (hK : isWk s = true) : Calls Try.prog 65 #[.string s] w fun e w' => e = .returned (.int .i64 (fs s s.size : Nat)) ∧ w = w' := by
  have HD := Lib.hid hK
  obtain ⟨_, h40⟩ := isWk_size hK
  have HA := Lib.hid (bs_all s)
  clear hK
  go_enter Try.func65, Try.ntmps65
  go_wp2
  go_loop [3, 4] (fun u i => ∃ k : Nat, k ≤ s.size ∧ i = .int .i64 k ∧ u = .int .i64 (bs s k : Nat)) (fun _ i => s.size - (intOf i).toNat)
  case atStart => exact ⟨0, Nat.zero_le _, rfl, rfl⟩
  case round =>
    obtain ⟨k, hk, rfl, rfl⟩ := hrel
    have HB := Lib.hid (bs_le HD.out k hk)
    by_cases hlt : k < s.size
    · obtain ⟨j, hj⟩ : ∃ j, j = s.size - 1 - k := ⟨_, rfl⟩
      have hjs : j < s.size := by omega
      obtain ⟨b1, b2⟩ := dgt_of HD.out hjs
      have hjk : (s.size : Int) - 1 - (k : Int) = (j : Int) := by omega
      have hz : (0 : Int) ≤ (s.size : Int) - 1 - (k : Int) := by omega
      have ik : ∀ w, (Instr.index 9 (.string s) (.int .i64 (j : Int))).run Try.prog w = .ok (.int .u8 ((dgt s j : Int) + 48)) w := fun w => by
        rw [← b2]; exact ixS s j hjs w
      have e1 : IntKind.u8.wrap ((dgt s j : Int) + 48 - 48) = (dgt s j : Int) := by rw [IntWalk.u8_in _ (by omega)]; omega
      have HS := Lib.hid (show bs s (k + 1) = bs s k + dt s j by rw [bs, hj])
      have HE := Lib.hid (fun h => dt_even (s := s) (j := j) h)
      have HO := Lib.hid (fun h => dt_odd (s := s) (j := j) h)
      have HJ := Lib.hid hj
      have hB := HB.out
      obtain ⟨b, hb⟩ : ∃ b, b = bs s k := ⟨_, rfl⟩
      obtain ⟨d, hd⟩ : ∃ d, d = dgt s j := ⟨_, rfl⟩
      rw [← hb] at HS hB ⊢
      rw [← hd] at HE HO ik e1 b1
      clear hb hd hj b2 hz HB
      have hb720 : b ≤ 720 := by omega
      by_cases hp : k % 2 = 1
      · have hpi : (k : Int) % 2 = 1 := by omega
        have HV := Lib.hid (HE.out (by have := HJ.out; omega))
        have HQ := Lib.hid (show 2 * (d : Int) / 10 + 2 * (d : Int) % 10 = ((dd d : Nat) : Int) by unfold dd; omega)
        have q0 : Int.tmod (k : Int) 2 = 1 := by rw [Int.tmod_eq_emod_of_nonneg (by omega)]; exact hpi
        have q1 : Int.tdiv (2 * (d : Int)) 10 = 2 * (d : Int) / 10 := Int.tdiv_eq_ediv_of_nonneg (by omega)
        have q2 : Int.tmod (2 * (d : Int)) 10 = 2 * (d : Int) % 10 := Int.tmod_eq_emod_of_nonneg (by omega)
        go_wp2
        go_round
        case rel => exact ⟨k + 1, by omega, by go_num, by rw [HS.out, HV.out]; have := HQ.out; congr 1⟩
        case measure => simp [intOf]; omega
      · have hpi : ¬ (k : Int) % 2 = 1 := by omega
        have HV := Lib.hid (HO.out (by have := HJ.out; omega))
        have q0 : ¬ Int.tmod (k : Int) 2 = 1 := by rw [Int.tmod_eq_emod_of_nonneg (by omega)]; exact hpi
        go_wp2
        go_round
        case rel => exact ⟨k + 1, by omega, by go_num, by rw [HS.out, HV.out]; congr 1⟩
        case measure => simp [intOf]; omega
    · obtain rfl : k = s.size := by omega
      go_wp2
      go_ret
      exact ⟨by rw [← HA.out]; rfl, rfl⟩