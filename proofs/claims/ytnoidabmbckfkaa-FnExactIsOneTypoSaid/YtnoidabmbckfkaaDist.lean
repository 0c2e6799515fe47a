/- The distance of two texts: the program's way and its model's. No conditions. -/
import Derived.Test.YtnoidabmbckfkaaTypo
import Derived.Test.YtnoidabmbckfkaaTable
namespace Go.Proofs.Ytnoidabmbckfkaa
open Go.RowKit

/-- A row of the table, as a value. -/
def rowT (t : Nat → Nat → Int) (r : Nat) : List Value := (List.range 21).map fun j => .int .i64 (t r j)
theorem ixT_zero (t : Nat → Nat → Int) (w : World) : (Instr.index 53 (.agg (tabT t).toArray) (.int .i64 0)).run Try.prog w = .ok (.agg (rowT t 0).toArray) w := by kernel_rfl
theorem ixT_row (t : Nat → Nat → Int) (r : Nat) (w : World) : (Instr.index 51 (.agg (rowT t r).toArray) (.int .i64 0)).run Try.prog w = .ok (.int .i64 (t r 0)) w := by kernel_rfl
/-- The distance. -/
def dst (a b : ByteArray) : Nat := lv a b 0 0
theorem tA_zero (a b : ByteArray) : tA a b 0 0 = (dst a b : Int) := tA_at a b 0 0 (Nat.zero_le _) (Nat.zero_le _)
def dOk (a b : ByteArray) : Bool := isT 20 a && isT 20 b
def dV (a b : ByteArray) : Int := if dOk a b then (dst a b : Int) else 0
theorem dV_no {a b : ByteArray} (h : dOk a b = false) : dV a b = 0 := by unfold dV; rw [h]; rfl
theorem dV_yes {a b : ByteArray} (h : dOk a b = true) : dV a b = (dst a b : Int) := by unfold dV; rw [h]; rfl
theorem dOk_sz {a b : ByteArray} (h : dOk a b = true) : a.size ≤ 20 ∧ b.size ≤ 20 := by
  unfold dOk at h
  simp only [Bool.and_eq_true] at h
  exact ⟨isT_size h.1, isT_size h.2⟩
theorem ret_iB {a a' : Int} {b b' : Bool} (h : a = a') (h2 : b = b') : Ending.returned (.tuple #[.int .i64 a, .bool b]) = .returned (.tuple #[.int .i64 a', .bool b']) := by rw [h, h2]

set_option maxRecDepth 100000 in
set_option maxHeartbeats 2000000 in
theorem distI_any (a b : ByteArray) (w : World) (ha : a.size ≤ maxLen) (hb : b.size ≤ maxLen) : Calls Try.prog 35 #[.string a, .string b] w fun e w' => e = .returned (.tuple #[.int .i64 (dV a b), .bool (dOk a b)]) ∧ Ext w w' := by
  cases h : dOk a b
  · have h2 : (isT 20 a && isT 20 b) = false := h
    have HV := Lib.hid (dV_no h)
    go_enter Try.func35, Try.ntmps35
    go_wp2_with (go_at_call 44; refine (areTyped_any _ _ _ ha hb).mono ?_; rintro e w1 ⟨rfl, x1⟩; rw [h2])
    go_ret2
    exact ⟨ret_iB HV.out.symm rfl, x1⟩
  have h2 : (isT 20 a && isT 20 b) = true := h
  have HV := Lib.hid (dV_yes h)
  obtain ⟨hz1, hz2⟩ := dOk_sz h
  have i0 := ixT_zero (tA a b)
  have i1 := ixT_row (tA a b) 0
  have HT := Lib.hid (tA_zero a b)
  obtain ⟨TT, hTT⟩ : ∃ TT, TT = (tabT (tA a b)).toArray := ⟨_, rfl⟩
  obtain ⟨RR, hRR⟩ : ∃ RR, RR = (rowT (tA a b) 0).toArray := ⟨_, rfl⟩
  have HTT := Lib.hid hTT
  rw [← hTT, ← hRR] at i0
  rw [← hRR, HT.out] at i1
  clear hTT hRR
  go_enter Try.func35, Try.ntmps35
  go_wp2_with (first | (go_at_call 44; refine (areTyped_any _ _ _ ha hb).mono ?_; rintro e w1 ⟨rfl, x1⟩; rw [h2]) | (go_at_call 59; refine (typos_any a b _ hz1 hz2).mono ?_; rintro e w2 ⟨rfl, x2⟩; rw [← HTT.out]))
  go_ret2
  exact ⟨ret_iB HV.out.symm rfl, x1.trans x2⟩

set_option maxRecDepth 100000 in
set_option maxHeartbeats 2000000 in
theorem far_anyB (a b : ByteArray) (w : World) (ha : a.size ≤ 20) (hb : b.size ≤ 20) : Calls Try.prog 58 #[.string a, .string b] w fun e w' => e = .returned (.int .i64 (dst a b : Int)) ∧ Ext w w' := by
  go_enter Try.func58, Try.ntmps58
  go_wp2_with (go_at_call 60; refine (table_any a b _ ha hb).mono ?_; rintro e w2 ⟨v, U, rfl, g2, x2⟩; obtain ⟨av, cv, rfl⟩ := g2.shape; obtain ⟨g, rfl, _, _, hc⟩ := g2.at 0 (by omega); have c1 := hc _ (Ext.refl _) 0 (by omega); have c2 := (g2.inner 0 (by omega)).at 0 (by omega); have HD := Lib.hid (show (lv a b 0 0 : Int) = (dst a b : Int) from rfl); simp only [HD.out] at c2; clear hc g2; have hN : (0 : Int) < ((a.size + 1 : Nat) : Int) := (by omega); have hM : (0 : Int) < ((b.size + 1 : Nat) : Int) := (by omega); have hN2 : 0 < a.size + 1 := (by omega); have hM2 : 0 < b.size + 1 := (by omega))
  go_ret
  exact ⟨rfl, x2⟩

set_option maxRecDepth 100000 in
set_option maxHeartbeats 2000000 in
theorem distS_any (a b : ByteArray) (w : World) (ha : a.size ≤ maxLen) (hb : b.size ≤ maxLen) : Calls Try.prog 34 #[.string a, .string b] w fun e w' => e = .returned (.tuple #[.int .i64 (dV a b), .bool (dOk a b)]) ∧ Ext w w' := by
  cases h : dOk a b
  · have h2 : (isT 20 a && isT 20 b) = false := h
    have HV := Lib.hid (dV_no h)
    go_enter Try.func34, Try.ntmps34
    go_wp2_with (go_at_call 42; refine (bkPair_any _ _ _ ha hb).mono ?_; rintro e w1 ⟨rfl, rfl⟩; rw [h2])
    go_ret2
    exact ⟨ret_iB HV.out.symm rfl, Ext.refl _⟩
  have h2 : (isT 20 a && isT 20 b) = true := h
  have HV := Lib.hid (dV_yes h)
  obtain ⟨hz1, hz2⟩ := dOk_sz h
  go_enter Try.func34, Try.ntmps34
  go_wp2_with (first | (go_at_call 42; refine (bkPair_any _ _ _ ha hb).mono ?_; rintro e w1 ⟨rfl, rfl⟩; rw [h2]) | (go_at_call 58; refine (far_anyB a b _ hz1 hz2).mono ?_; rintro e w2 ⟨rfl, x2⟩))
  go_ret2
  exact ⟨ret_iB HV.out.symm rfl, x2⟩
def oneV (a b : ByteArray) : Bool := dOk a b && decide (dst a b = 1)
theorem one_dec (a b : ByteArray) : ((dV a b) == 1) = oneV a b := by
  unfold oneV
  cases h : dOk a b
  · rw [dV_no h]; rfl
  · rw [dV_yes h, Bool.true_and]
    by_cases e : dst a b = 1
    · rw [decide_eq_true e, e]; rfl
    · rw [decide_eq_false e]
      exact beq_eq_false_iff_ne.2 (by omega)

set_option maxRecDepth 100000 in
set_option maxHeartbeats 2000000 in
theorem oneI_any (a b : ByteArray) (w : World) (ha : a.size ≤ maxLen) (hb : b.size ≤ maxLen) : Calls Try.prog 37 #[.string a, .string b] w fun e w' => e = .returned (.tuple #[.bool (oneV a b), .bool (dOk a b)]) ∧ Ext w w' := by
  have H := Lib.hid (one_dec a b)
  obtain ⟨X, hX⟩ : ∃ X, X = dV a b := ⟨_, rfl⟩
  obtain ⟨O, hO⟩ : ∃ O, O = oneV a b := ⟨_, rfl⟩
  have HX := Lib.hid hX
  rw [← hX, ← hO] at H
  rw [← hO]
  clear hX hO
  go_enter Try.func37, Try.ntmps37
  go_wp2_with (go_at_call 35; refine (distI_any _ _ _ ha hb).mono ?_; rintro e w1 ⟨rfl, x1⟩; rw [← HX.out])
  go_ret2
  exact ⟨by rw [← H.out]; rfl, x1⟩

set_option maxRecDepth 100000 in
set_option maxHeartbeats 2000000 in
theorem oneS_any (a b : ByteArray) (w : World) (ha : a.size ≤ maxLen) (hb : b.size ≤ maxLen) : Calls Try.prog 36 #[.string a, .string b] w fun e w' => e = .returned (.tuple #[.bool (oneV a b), .bool (dOk a b)]) ∧ Ext w w' := by
  cases h : dOk a b
  · have h2 : (isT 20 a && isT 20 b) = false := h
    have HV := Lib.hid (show oneV a b = false by unfold oneV; rw [h]; rfl)
    go_enter Try.func36, Try.ntmps36
    go_wp2_with (go_at_call 42; refine (bkPair_any _ _ _ ha hb).mono ?_; rintro e w1 ⟨rfl, rfl⟩; rw [h2])
    go_ret2
    exact ⟨by rw [HV.out]; rfl, Ext.refl _⟩
  have h2 : (isT 20 a && isT 20 b) = true := h
  obtain ⟨hz1, hz2⟩ := dOk_sz h
  have H := Lib.hid (show (((dst a b : Nat) : Int) == 1) = oneV a b by rw [← one_dec, dV_yes h])
  obtain ⟨D, hD⟩ : ∃ D : Int, D = (dst a b : Int) := ⟨_, rfl⟩
  obtain ⟨O, hO⟩ : ∃ O, O = oneV a b := ⟨_, rfl⟩
  have HD := Lib.hid hD
  rw [← hD, ← hO] at H
  rw [← hO]
  clear hD hO
  go_enter Try.func36, Try.ntmps36
  go_wp2_with (first | (go_at_call 42; refine (bkPair_any _ _ _ ha hb).mono ?_; rintro e w1 ⟨rfl, rfl⟩; rw [h2]) | (go_at_call 58; refine (far_anyB a b _ hz1 hz2).mono ?_; rintro e w2 ⟨rfl, x2⟩; rw [← HD.out]))
  go_ret2
  exact ⟨by rw [← H.out]; rfl, x2⟩
end Go.Proofs.Ytnoidabmbckfkaa
