/- What a clue tells of a hidden number: the model. No conditions. -/
import Derived.Test.YtpdnpphjlnlneaaGreatDoorHas
import Derived.Test.YtpdnpphjlnlneaaGreatDoorOt
import Derived.Test.YtpdnpphjlnlneaaGreatDoorByR
namespace Go.Proofs.YtpdnpphjlnlneaaGreatDoor
open Go.RowKit

/-- What is asked of a kind and a number beside it. -/
def tvOk (k a : Int) (n : ByteArray) : Prop := (k = 1 → 0 ≤ a ∧ a < n.size) ∧ (k = 4 → 2 ≤ a ∧ a ≤ 9)
theorem rem_int (a b : Nat) (hb : 1 ≤ b) (w : World) : (binOp .rem 3 (.int .i64 (a : Int)) (.int .i64 (b : Int))).run Tryz.prog w = .ok (.int .i64 ((a % b : Nat) : Int)) w := by
  have hb1 : ¬ b = 0 := by omega
  have e : Int.tmod (a : Int) (b : Int) = ((a % b : Nat) : Int) := by rw [Int.tmod_eq_emod_of_nonneg (by omega)]; simp
  simp [go_sem, hb1, e]
theorem isHid_wk {n : ByteArray} (h : isDg 2 3 n = true) : isWk n = true := isDg_wk h (by omega) (by omega)
theorem isHid_bd {n : ByteArray} (h : isDg 2 3 n = true) : 2 ≤ n.size ∧ n.size ≤ 3 := by have := isDg_size h; omega

set_option maxHeartbeats 2000000 in
theorem pv0_any (a : Int) (n : ByteArray) (w : World) (h : isDg 2 3 n = true) : Calls Tryz.prog 79 #[.int .i64 0, .int .i64 a, .string n] w fun e w' => e = .returned (.int .i64 (tv 0 a n)) ∧ Ext w w' := by
  have HW := Lib.hid (isHid_wk h)
  obtain ⟨z1, z2⟩ := isHid_bd h
  clear h
  go_enter Tryz.func79, Tryz.ntmps79
  go_wp2
  go_loop [7, 8] (fun s i => ∃ k : Nat, k ≤ n.size ∧ i = .int .i64 k ∧ s = .int .i64 ((sumT ((dgs n).take k) : Nat) : Int)) (fun _ i => n.size - (intOf i).toNat)
  case atStart => exact ⟨0, Nat.zero_le _, rfl, rfl⟩
  case round =>
    obtain ⟨k, hk, rfl, rfl⟩ := hrel
    by_cases hlt : k < n.size
    · have hlt2 : k < (dgs n).length := by rw [dgs_len]; exact hlt
      obtain ⟨d1, d2⟩ := dgt_of HW.out hlt
      have HS := Lib.hid (sumT_take (dgs n) k hlt2)
      have HD := Lib.hid (dgs_at n k hlt2)
      rw [HD.out] at HS
      have hle := sumT_le (dgs n) (dgs_lt HW.out) k (by omega)
      have ik : ∀ w, (Instr.index 9 (.string n) (.int .i64 (k : Int))).run Tryz.prog w = .ok (.int .u8 ((dgt n k : Int) + 48)) w := fun w => by rw [← d2]; exact ixS n k hlt w
      obtain ⟨x, hx⟩ : ∃ x, x = dgt n k := ⟨_, rfl⟩
      obtain ⟨y, hy⟩ : ∃ y, y = sumT ((dgs n).take k) := ⟨_, rfl⟩
      rw [← hx] at HS ik d1
      rw [← hy] at HS hle ⊢
      clear hx hy d2 HD
      have W1 : IntKind.u8.wrap ((x : Int) + 48 - 48) = (x : Int) := by rw [show (x : Int) + 48 - 48 = (x : Int) by omega]; exact IntWalk.u8_in _ (by omega)
      have W2 : IntKind.i64.wrap ((y : Int) + (x : Int)) = ((y + x : Nat) : Int) := by simp only [IntKind.wrap_i64]; omega
      have W3 : IntKind.i64.wrap (x : Int) = (x : Int) := by simp only [IntKind.wrap_i64]; omega
      go_wp2
      go_round
      case rel => exact ⟨k + 1, by omega, by go_num, by rw [HS.out]; exact congrArg (Value.int .i64) (by omega)⟩
      case measure => simp [intOf]; omega
    · have HV := Lib.hid (show ((sumT ((dgs n).take k) : Nat) : Int) = tv 0 a n by rw [tv_0, List.take_of_length_le (by rw [dgs_len]; omega)])
      go_wp2
      go_ret
      exact ⟨ret_iD HV.out, Ext.refl _⟩

theorem pv1_any (a : Nat) (n : ByteArray) (w : World) (h : isDg 2 3 n = true) (ha : a < n.size) : Calls Tryz.prog 79 #[.int .i64 1, .int .i64 (a : Int), .string n] w fun e w' => e = .returned (.int .i64 (tv 1 a n)) ∧ Ext w w' := by
  obtain ⟨z1, z2⟩ := isHid_bd h
  obtain ⟨d1, d2⟩ := dgt_of (isHid_wk h) ha
  have ik : ∀ w, (Instr.index 9 (.string n) (.int .i64 (a : Int))).run Tryz.prog w = .ok (.int .u8 ((dgt n a : Int) + 48)) w := fun w => by rw [← d2]; exact ixS n a ha w
  have HV := Lib.hid (show ((dgt n a : Nat) : Int) = tv 1 a n by rw [tv_1]; rfl)
  obtain ⟨x, hx⟩ : ∃ x, x = dgt n a := ⟨_, rfl⟩
  rw [← hx] at HV ik d1
  clear hx d2 h
  have W1 : IntKind.u8.wrap ((x : Int) + 48 - 48) = (x : Int) := by rw [show (x : Int) + 48 - 48 = (x : Int) by omega]; exact IntWalk.u8_in _ (by omega)
  have W3 : IntKind.i64.wrap (x : Int) = (x : Int) := by simp only [IntKind.wrap_i64]; omega
  go_enter Tryz.func79, Tryz.ntmps79
  go_wp2
  go_ret
  exact ⟨ret_iD HV.out, Ext.refl _⟩

theorem pv2_any (a : Int) (n : ByteArray) (w : World) (h : isDg 2 3 n = true) : Calls Tryz.prog 79 #[.int .i64 2, .int .i64 a, .string n] w fun e w' => e = .returned (.int .i64 (tv 2 a n)) ∧ Ext w w' := by
  obtain ⟨z1, z2⟩ := isHid_bd h
  have HC := Lib.hid (fun w => otS_any n w (isWk_D (isHid_wk h) (by omega)))
  have HV := Lib.hid (tv_2 a n)
  obtain ⟨x, hx⟩ : ∃ x, x = wlk false 4 (plcs n) := ⟨_, rfl⟩
  rw [← hx] at HV HC
  clear hx h
  go_enter Tryz.func79, Tryz.ntmps79
  go_wp2_with fail
  refine (HC.out _).mono ?_
  rintro e w1 ⟨rfl, x1⟩
  go_wp2
  go_ret
  exact ⟨ret_iD HV.out.symm, x1⟩

theorem pv3_any (a : Int) (n : ByteArray) (w : World) (h : isDg 2 3 n = true) : Calls Tryz.prog 79 #[.int .i64 3, .int .i64 a, .string n] w fun e w' => e = .returned (.int .i64 (tv 3 a n)) ∧ Ext w w' := by
  obtain ⟨z1, z2⟩ := isHid_bd h
  have HC := Lib.hid (fun w => iwS_any ⟨#[110]⟩ n w (by unfold maxLen; decide) (by unfold maxLen; omega))
  have e1 : iwV ⟨#[110]⟩ n = isWlk 0 n := iwV_yes (p := 0) (by omega)
  have e2 : isP ⟨#[110]⟩ = true := rfl
  have HV := Lib.hid (tv_3 a n)
  rw [e1, e2] at HC
  obtain ⟨x, hx⟩ : ∃ x, x = isWlk 0 n := ⟨_, rfl⟩
  rw [← hx] at HV HC
  clear hx h e1
  cases x
  · go_enter Tryz.func79, Tryz.ntmps79
    go_wp2_with fail
    refine (HC.out _).mono ?_
    rintro e w1 ⟨rfl, x1⟩
    go_wp2
    go_ret
    exact ⟨ret_iD HV.out.symm, x1⟩
  · go_enter Tryz.func79, Tryz.ntmps79
    go_wp2_with fail
    refine (HC.out _).mono ?_
    rintro e w1 ⟨rfl, x1⟩
    go_wp2
    go_ret
    exact ⟨ret_iD HV.out.symm, x1⟩

set_option maxHeartbeats 2000000 in
theorem pv4_any (a : Nat) (n : ByteArray) (w : World) (h : isDg 2 3 n = true) (ha : 2 ≤ a ∧ a ≤ 9) : Calls Tryz.prog 79 #[.int .i64 4, .int .i64 (a : Int), .string n] w fun e w' => e = .returned (.int .i64 (tv 4 a n)) ∧ Ext w w' := by
  have HW := Lib.hid (isHid_wk h)
  obtain ⟨z1, z2⟩ := isHid_bd h
  clear h
  go_enter Tryz.func79, Tryz.ntmps79
  go_wp2
  go_loop [11, 12] (fun s i => ∃ k : Nat, k ≤ n.size ∧ i = .int .i64 k ∧ s = .int .i64 ((valT ((dgs n).take k) : Nat) : Int)) (fun _ i => n.size - (intOf i).toNat)
  case atStart => exact ⟨0, Nat.zero_le _, rfl, rfl⟩
  case round =>
    obtain ⟨k, hk, rfl, rfl⟩ := hrel
    have hv := valT_lt (dgs n) (dgs_lt HW.out) k (by rw [dgs_len]; omega)
    have hv3 := Nat.pow_le_pow_right (show 0 < 10 by omega) (show k ≤ 3 by omega)
    have hv4 : valT ((dgs n).take k) < 1000 := by omega
    clear hv hv3
    by_cases hlt : k < n.size
    · have hlt2 : k < (dgs n).length := by rw [dgs_len]; exact hlt
      obtain ⟨d1, d2⟩ := dgt_of HW.out hlt
      have HS := Lib.hid (valT_take (dgs n) k hlt2)
      have HD := Lib.hid (dgs_at n k hlt2)
      rw [HD.out] at HS
      have ik : ∀ w, (Instr.index 9 (.string n) (.int .i64 (k : Int))).run Tryz.prog w = .ok (.int .u8 ((dgt n k : Int) + 48)) w := fun w => by rw [← d2]; exact ixS n k hlt w
      obtain ⟨x, hx⟩ : ∃ x, x = dgt n k := ⟨_, rfl⟩
      obtain ⟨y, hy⟩ : ∃ y, y = valT ((dgs n).take k) := ⟨_, rfl⟩
      rw [← hx] at HS ik d1
      rw [← hy] at HS hv4 ⊢
      clear hx hy d2 HD
      have W1 : IntKind.u8.wrap ((x : Int) + 48 - 48) = (x : Int) := by rw [show (x : Int) + 48 - 48 = (x : Int) by omega]; exact IntWalk.u8_in _ (by omega)
      have W2 : IntKind.i64.wrap (10 * (y : Int) + (x : Int)) = ((10 * y + x : Nat) : Int) := by simp only [IntKind.wrap_i64]; omega
      have W4 : IntKind.i64.wrap (10 * (y : Int)) = 10 * (y : Int) := by simp only [IntKind.wrap_i64]; omega
      have W3 : IntKind.i64.wrap (x : Int) = (x : Int) := by simp only [IntKind.wrap_i64]; omega
      go_wp2
      go_round
      case rel => exact ⟨k + 1, by omega, by go_num, by rw [HS.out]; exact congrArg (Value.int .i64) (by omega)⟩
      case measure => simp [intOf]; omega
    · have HV := Lib.hid (show tv 4 a n = (if ((valT ((dgs n).take k) : Nat) : Int) % (a : Int) = 0 then 1 else 0) by rw [tv_4, List.take_of_length_le (by rw [dgs_len]; omega)])
      obtain ⟨y, hy⟩ : ∃ y, y = valT ((dgs n).take k) := ⟨_, rfl⟩
      rw [← hy] at HV ⊢
      clear hy hv4
      have ha0 : ¬ (a : Int) = 0 := by omega
      have ha1 : ¬ a = 0 := by omega
      by_cases h0 : (y : Int) % (a : Int) = 0
      · have hbe : ((y : Int) % (a : Int) == 0) = true := beq_iff_eq.2 h0
        have HW2 := Lib.hid (HV.out.trans (if_pos h0))
        clear h0
        go_wp2
        go_ret
        exact ⟨ret_iD HW2.out.symm, Ext.refl _⟩
      · have hbe : ((y : Int) % (a : Int) == 0) = false := beq_eq_false_iff_ne.2 h0
        have HW2 := Lib.hid (HV.out.trans (if_neg h0))
        clear h0
        go_wp2
        go_ret
        exact ⟨ret_iD HW2.out.symm, Ext.refl _⟩

set_option maxHeartbeats 2000000 in
theorem pv5_any (a : Int) (n : ByteArray) (w : World) (h : isDg 2 3 n = true) : Calls Tryz.prog 79 #[.int .i64 5, .int .i64 a, .string n] w fun e w' => e = .returned (.int .i64 (tv 5 a n)) ∧ Ext w w' := by
  have HW := Lib.hid (isHid_wk h)
  obtain ⟨z1, z2⟩ := isHid_bd h
  clear h
  go_enter Tryz.func79, Tryz.ntmps79
  go_wp2
  go_loopw [7, 13] (fun s i wr => ∃ k : Nat, k ≤ n.size ∧ i = .int .i64 k ∧ s = .int .i64 ((difN (dgs n) k : Nat) : Int) ∧ Ext w wr) (fun _ i _ => n.size - (intOf i).toNat)
  case atStart => exact ⟨0, Nat.zero_le _, rfl, rfl, Ext.refl _⟩
  case round =>
    obtain ⟨k, hk, rfl, rfl, hx⟩ := hrel
    have hle := difN_le (dgs n) k
    by_cases hlt : k < n.size
    · have HB := Lib.hid (hasB_dgs HW.out hlt)
      have HS := Lib.hid (show difN (dgs n) (k + 1) = difN (dgs n) k + if (dgs n).getD k 0 ∈ (dgs n).take k then 0 else 1 from rfl)
      have ik := fun w => ixS n k hlt w
      have hsl := fun w => slB_to n k hk w
      have hez : (n.extract 0 k).size ≤ maxLen := by unfold maxLen; simp; omega
      have HC := Lib.hid (fun w => piHas_any (n.extract 0 k) ((n[k]'hlt).toNat : Int) w hez)
      rw [HB.out] at HC
      obtain ⟨c, hc⟩ : ∃ c : Nat, c = (n[k]'hlt).toNat := ⟨_, rfl⟩
      rw [← hc] at HC ik
      obtain ⟨t, ht⟩ : ∃ t, t = n.extract 0 k := ⟨_, rfl⟩
      rw [← ht] at HC hsl
      obtain ⟨y, hy⟩ : ∃ y, y = difN (dgs n) k := ⟨_, rfl⟩
      rw [← hy] at HS hle ⊢
      have W2 : IntKind.i64.wrap ((y : Int) + 1) = ((y + 1 : Nat) : Int) := by simp only [IntKind.wrap_i64]; omega
      clear hc ht hy HB hez
      by_cases hm : (dgs n).getD k 0 ∈ (dgs n).take k
      · rw [decide_eq_true hm] at HC
        rw [if_pos hm] at HS
        clear hm
        go_wp2
        go_quiet (exact Calls.quiet_of_same ((HC.out _).mono fun e w' h => ⟨h.1, h.2.symm⟩))
        go_wp2
        go_roundw
        case rel => exact ⟨k + 1, by omega, by go_num, by rw [HS.out]; exact congrArg (Value.int .i64) (by omega), ext_drewN hx _⟩
        case measure => simp [intOf]; omega
      · rw [decide_eq_false hm] at HC
        rw [if_neg hm] at HS
        clear hm
        go_wp2
        go_quiet (exact Calls.quiet_of_same ((HC.out _).mono fun e w' h => ⟨h.1, h.2.symm⟩))
        go_wp2
        go_roundw
        case rel => exact ⟨k + 1, by omega, by go_num, by rw [HS.out]; exact congrArg (Value.int .i64) (by omega), ext_drewN hx _⟩
        case measure => simp [intOf]; omega
    · have HV := Lib.hid (show ((difN (dgs n) k : Nat) : Int) = tv 5 a n by rw [tv_5, show k = n.size by omega]; unfold difT; rw [dgs_len])
      go_wp2
      go_ret
      exact ⟨ret_iD HV.out, hx⟩

theorem pv_any (k a : Int) (n : ByteArray) (w : World) (h : isDg 2 3 n = true) (hk : inW k 0 5 = true) (ho : tvOk k a n) : Calls Tryz.prog 79 #[.int .i64 k, .int .i64 a, .string n] w fun e w' => e = .returned (.int .i64 (tv k a n)) ∧ Ext w w' := by
  have hb := inW_bd' hk
  have h6 : k = 0 ∨ k = 1 ∨ k = 2 ∨ k = 3 ∨ k = 4 ∨ k = 5 := by omega
  rcases h6 with rfl | rfl | rfl | rfl | rfl | rfl
  · exact pv0_any a n w h
  · obtain ⟨h1, h2⟩ := ho.1 rfl
    obtain ⟨b, rfl⟩ := Int.eq_ofNat_of_zero_le h1
    exact pv1_any b n w h (by omega)
  · exact pv2_any a n w h
  · exact pv3_any a n w h
  · obtain ⟨h1, h2⟩ := ho.2 rfl
    obtain ⟨b, rfl⟩ := Int.eq_ofNat_of_zero_le (show 0 ≤ a by omega)
    exact pv4_any b n w h (by omega)
  · exact pv5_any a n w h
end Go.Proofs.YtpdnpphjlnlneaaGreatDoor
