/- The moves between places: the program's repeats and the model's loops. No conditions. -/
import Derived.Test.YtnnbpcookemilaaGrow
namespace Go.Proofs.Ytnnbpcookemilaa
open Go.RowKit

/-- So many moves to one side or to the other. -/
def mvS (l g : UInt8) (n : Int) : List UInt8 := if n < 0 then List.replicate (-n).toNat l else List.replicate n.toNat g
theorem mvS_neg {l g : UInt8} {n : Int} (h : n < 0) : mvS l g n = List.replicate (-n).toNat l := by unfold mvS; rw [if_pos h]
theorem mvS_pos {l g : UInt8} {n : Int} (h : ¬ n < 0) : mvS l g n = List.replicate n.toNat g := by unfold mvS; rw [if_neg h]
theorem mvS_len (l g : UInt8) (n : Int) : (mvS l g n).length = n.natAbs := by
  by_cases h : n < 0
  · rw [mvS_neg h, List.length_replicate]; omega
  · rw [mvS_pos h, List.length_replicate]; omega
theorem repeat1 (x : UInt8) (c : Nat) : Lib.repeatL [x] c = List.replicate c x := by
  induction c with
  | zero => rfl
  | succ c ih => simp [Lib.repeatL, List.replicate_succ, ← ih]

set_option maxHeartbeats 1000000 in
theorem between_any (l g : UInt8) (n : Int) (w : World) (h1 : -100 ≤ n) (h2 : n ≤ 100) : Calls Try.prog 67 #[.string ⟨#[l]⟩, .string ⟨#[g]⟩, .int .i64 n] w fun e w' => e = .returned (.string ⟨(mvS l g n).toArray⟩) ∧ Ext w w' := by
  by_cases h : n < 0
  · have HV := Lib.hid (mvS_neg (l := l) (g := g) h)
    obtain ⟨c, hc⟩ : ∃ c, c = (-n).toNat := ⟨_, rfl⟩
    have hcn : -n = (c : Int) := by omega
    have hsz : (⟨#[l]⟩ : ByteArray).size * c ≤ 140737488355328 := by show 1 * c ≤ _; omega
    rw [← hc] at HV
    clear hc
    go_enter Try.func67, Try.ntmps67
    go_wp2_with fail
    refine (Try.strings_Repeat ⟨#[l]⟩ c w (by omega) hsz).mono ?_
    rintro e w1 ⟨rfl, x1⟩
    go_wp2
    go_ret
    refine ⟨?_, x1⟩
    rw [HV.out, ← repeat1]
    rfl
  · have HV := Lib.hid (mvS_pos (l := l) (g := g) h)
    obtain ⟨c, hc⟩ : ∃ c, c = n.toNat := ⟨_, rfl⟩
    obtain rfl : n = (c : Int) := by omega
    have hsz : (⟨#[g]⟩ : ByteArray).size * c ≤ 140737488355328 := by show 1 * c ≤ _; omega
    rw [← hc] at HV
    clear hc
    go_enter Try.func67, Try.ntmps67
    go_wp2_with fail
    refine (Try.strings_Repeat ⟨#[g]⟩ c w (by omega) hsz).mono ?_
    rintro e w1 ⟨rfl, x1⟩
    go_wp2
    go_ret
    refine ⟨?_, x1⟩
    rw [HV.out, ← repeat1]
    rfl

def rB (c : Nat) (x : UInt8) : ByteArray := ⟨(List.replicate c x).toArray⟩
theorem rB_size (c : Nat) (x : UInt8) : (rB c x).size = c := by
  show (List.replicate c x).toArray.size = c
  simp
theorem rB_zero (x : UInt8) : rB 0 x = ⟨#[]⟩ := rfl
theorem rB_succ (c : Nat) (x : UInt8) : rB (c + 1) x = rB c x ++ ⟨#[x]⟩ := by
  apply ByteArray.ext
  rw [ByteArray.data_append]
  apply Array.toList_inj.1
  rw [Array.toList_append]
  show List.replicate (c + 1) x = List.replicate c x ++ [x]
  exact List.replicate_succ'

set_option maxHeartbeats 1000000 in
theorem thSteps_any (l g : UInt8) (n : Int) (w : World) (h1 : -100 ≤ n) (h2 : n ≤ 100) : Calls Try.prog 65 #[.int .i64 n, .string ⟨#[l]⟩, .string ⟨#[g]⟩] w fun e w' => e = .returned (.string ⟨(mvS l g n).toArray⟩) ∧ w = w' := by
  have hl1 : (⟨#[l]⟩ : ByteArray).size = 1 := rfl
  have hg1 : (⟨#[g]⟩ : ByteArray).size = 1 := rfl
  by_cases h : n < 0
  · have HV := Lib.hid (mvS_neg (l := l) (g := g) h)
    obtain ⟨c, hc⟩ : ∃ c, c = (-n).toNat := ⟨_, rfl⟩
    obtain rfl : n = -(c : Int) := by omega
    have hc100 : c ≤ 100 := by omega
    rw [← hc] at HV
    clear hc
    go_enter Try.func65, Try.ntmps65
    go_wp2
    go_loop [0, 7] (fun m o => ∃ k : Nat, k ≤ c ∧ m = .int .i64 (-(k : Int)) ∧ o = .string (rB (c - k) l)) (fun m _ => (-(intOf m)).toNat)
    case atStart => exact ⟨c, Nat.le_refl _, rfl, by rw [Nat.sub_self]; rfl⟩
    case round =>
      obtain ⟨k, hk, rfl, rfl⟩ := hrel
      by_cases hlt : 0 < k
      · have HS := Lib.hid (show rB (c - (k - 1)) l = rB (c - k) l ++ ⟨#[l]⟩ by rw [← rB_succ]; congr 1; omega)
        obtain ⟨T, hT⟩ : ∃ T, T = rB (c - k) l := ⟨_, rfl⟩
        have hTs : T.size ≤ 100 := by rw [hT, rB_size]; omega
        rw [← hT] at HS ⊢
        clear hT
        have hneg : -(k : Int) < 0 := by omega
        go_wp2
        go_round
        case rel => exact ⟨k - 1, by omega, by go_num, by rw [HS.out]⟩
        case measure => simp [intOf]; omega
      · obtain rfl : k = 0 := by omega
        go_wp2
        go_loop [0, 7] (fun m o => m = .int .i64 0 ∧ o = .string (rB c l)) (fun _ _ => 0)
        case atStart => exact ⟨rfl, rfl⟩
        case round =>
          obtain ⟨rfl, rfl⟩ := hrel
          go_wp2
          go_ret
          exact ⟨by rw [HV.out]; rfl, rfl⟩
  · have HV := Lib.hid (mvS_pos (l := l) (g := g) h)
    obtain ⟨c, hc⟩ : ∃ c, c = n.toNat := ⟨_, rfl⟩
    obtain rfl : n = (c : Int) := by omega
    have hc100 : c ≤ 100 := by omega
    rw [← hc] at HV
    clear hc
    go_enter Try.func65, Try.ntmps65
    go_wp2
    go_loop [0, 7] (fun m o => m = .int .i64 (c : Int) ∧ o = .string ⟨#[]⟩) (fun _ _ => 0)
    case atStart => exact ⟨rfl, rfl⟩
    case round =>
      obtain ⟨rfl, rfl⟩ := hrel
      go_wp2
      go_loop [0, 7] (fun m o => ∃ k : Nat, k ≤ c ∧ m = .int .i64 (k : Int) ∧ o = .string (rB (c - k) g)) (fun m _ => (intOf m).toNat)
      case atStart => exact ⟨c, Nat.le_refl _, rfl, by rw [Nat.sub_self]; rfl⟩
      case round =>
        obtain ⟨k, hk, rfl, rfl⟩ := hrel
        by_cases hlt : 0 < k
        · have HS := Lib.hid (show rB (c - (k - 1)) g = rB (c - k) g ++ ⟨#[g]⟩ by rw [← rB_succ]; congr 1; omega)
          obtain ⟨T, hT⟩ : ∃ T, T = rB (c - k) g := ⟨_, rfl⟩
          have hTs : T.size ≤ 100 := by rw [hT, rB_size]; omega
          rw [← hT] at HS ⊢
          clear hT
          go_wp2
          go_round
          case rel => exact ⟨k - 1, by omega, by go_num, by rw [HS.out]⟩
          case measure => simp [intOf]; omega
        · obtain rfl : k = 0 := by omega
          go_wp2
          go_ret
          exact ⟨by rw [HV.out]; rfl, rfl⟩
end Go.Proofs.Ytnnbpcookemilaa
