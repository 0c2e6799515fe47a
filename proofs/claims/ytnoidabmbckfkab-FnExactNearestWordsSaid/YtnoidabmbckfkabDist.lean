/- The distance of two texts: the program's way and its model's. No conditions. -/
import Derived.Test.YtnoidabmbckfkabTypo
import Derived.Test.YtnoidabmbckfkabTable
namespace Go.Proofs.Ytnoidabmbckfkab
open Go.RowKit

/-- A row of the table, as a value. -/
def rowT (t : Nat → Nat → Int) (r : Nat) : List Value := (List.range 21).map fun j => .int .i64 (t r j)
theorem ixT_zero (t : Nat → Nat → Int) (w : World) : (Instr.index 63 (.agg (tabT t).toArray) (.int .i64 0)).run Try.prog w = .ok (.agg (rowT t 0).toArray) w := by kernel_rfl
theorem ixT_row (t : Nat → Nat → Int) (r : Nat) (w : World) : (Instr.index 61 (.agg (rowT t r).toArray) (.int .i64 0)).run Try.prog w = .ok (.int .i64 (t r 0)) w := by kernel_rfl
/-- The distance. -/
def dst (a b : ByteArray) : Nat := lv a b 0 0
theorem tA_zero (a b : ByteArray) : tA a b 0 0 = (dst a b : Int) := tA_at a b 0 0 (Nat.zero_le _) (Nat.zero_le _)
def dOk (a b : ByteArray) : Bool := isT 20 a && isT 20 b
def dV (a b : ByteArray) : Int := if dOk a b then (dst a b : Int) else 0
theorem dV_no {a b : ByteArray} (h : dOk a b = false) : dV a b = 0 := by unfold dV; rw [h]; rfl
theorem dV_yes {a b : ByteArray} (h : dOk a b = true) : dV a b = (dst a b : Int) := by unfold dV; rw [h]; rfl
theorem dOk_sz {a b : ByteArray} (h : dOk a b = true) : a.size ≤ 20 ∧ b.size ≤ 20 := by
  unfold dOk at h
  simp only [Bool.and_eq_true] at h
  exact ⟨isT_size h.1, isT_size h.2⟩
theorem ret_iB {a a' : Int} {b b' : Bool} (h : a = a') (h2 : b = b') : Ending.returned (.tuple #[.int .i64 a, .bool b]) = .returned (.tuple #[.int .i64 a', .bool b']) := by rw [h, h2]

set_option maxRecDepth 100000 in
set_option maxHeartbeats 2000000 in
theorem far_anyB (a b : ByteArray) (w : World) (ha : a.size ≤ 20) (hb : b.size ≤ 20) : Calls Try.prog 51 #[.string a, .string b] w fun e w' => e = .returned (.int .i64 (dst a b : Int)) ∧ Ext w w' := by
  go_enter Try.func51, Try.ntmps51
  go_wp2_with (go_at_call 86; refine (table_any a b _ ha hb).mono ?_; rintro e w2 ⟨v, U, rfl, g2, x2⟩; obtain ⟨av, cv, rfl⟩ := g2.shape; obtain ⟨g, rfl, _, _, hc⟩ := g2.at 0 (by omega); have c1 := hc _ (Ext.refl _) 0 (by omega); have c2 := (g2.inner 0 (by omega)).at 0 (by omega); have HD := Lib.hid (show (lv a b 0 0 : Int) = (dst a b : Int) from rfl); simp only [HD.out] at c2; clear hc g2; have hN : (0 : Int) < ((a.size + 1 : Nat) : Int) := (by omega); have hM : (0 : Int) < ((b.size + 1 : Nat) : Int) := (by omega); have hN2 : 0 < a.size + 1 := (by omega); have hM2 : 0 < b.size + 1 := (by omega))
  go_ret
  exact ⟨rfl, x2⟩