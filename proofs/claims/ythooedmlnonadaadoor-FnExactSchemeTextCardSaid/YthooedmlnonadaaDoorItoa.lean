/- Numbers below fourteen as texts: the library's way and the model's. No conditions. -/
import Derived.Test.YthooedmlnonadaaDoorNm
import Derived.Test.YthooedmlnonadaaDoorPlG
namespace Go.Proofs.YthooedmlnonadaaDoor
open Go.RowKit

def numT (n : Nat) : ByteArray := if n < 10 then ⟨#[(48 + n).toUInt8]⟩ else ⟨#[(48 + n / 10).toUInt8, (48 + n % 10).toUInt8]⟩
theorem numT_lo {n : Nat} (h : n < 10) : numT n = dg1T n := by unfold numT dg1T; rw [if_pos h]
theorem numT_hi {n : Nat} (h : ¬ n < 10) : numT n = dg1T (n / 10) ++ dg1T (n % 10) := by unfold numT dg1T; rw [if_neg h]; rfl
theorem numT_size (n : Nat) : (numT n).size ≤ 2 := by unfold numT; split <;> exact Nat.le_of_ble_eq_true rfl
theorem ret_n {a a' : ByteArray} (h : a = a') : Ending.returned (.string a) = .returned (.string a') := by rw [h]

set_option maxRecDepth 100000 in
set_option maxHeartbeats 4000000 in
theorem small_any (n : Nat) (w : World) (h : n < 14) : Calls Tryd.prog 78 #[.int .i64 n] w fun e w' => e = .returned (.string (numT n)) ∧ w = w' := by
  rcases (by omega : n = 0 ∨ n = 1 ∨ n = 2 ∨ n = 3 ∨ n = 4 ∨ n = 5 ∨ n = 6 ∨ n = 7 ∨ n = 8 ∨ n = 9 ∨ n = 10 ∨ n = 11 ∨ n = 12 ∨ n = 13) with rfl | rfl | rfl | rfl | rfl | rfl | rfl | rfl | rfl | rfl | rfl | rfl | rfl | rfl
  all_goals
    go_enter Tryd.func78, Tryd.ntmps78
    go_wp2
    go_ret
    exact ⟨ret_n (by decide +kernel), rfl⟩
theorem fmt_any (n : Nat) (w : World) (h : n < 14) : Calls Tryd.prog 64 #[.int .i64 n, .int .i64 10] w fun e w' => e = .returned (.string (numT n)) ∧ Ext w w' := by
  have H := Lib.hid (fun w => small_any n w h)
  obtain ⟨t, ht⟩ : ∃ t, t = numT n := ⟨_, rfl⟩
  simp only [← ht] at H
  rw [← ht]
  have h1 : (0 : Int) ≤ (n : Int) := by omega
  have h2 : (n : Int) < 100 := by omega
  have W : IntKind.i64.wrap (n : Int) = (n : Int) := by simp only [IntKind.wrap_i64]; omega
  clear ht
  go_enter Tryd.func64, Tryd.ntmps64
  go_wp2_with (go_at_call 78; refine (H.out _).mono ?_; rintro e w' ⟨rfl, rfl⟩)
  go_ret
  exact ⟨rfl, by first | exact Ext.refl _ | exact (Ext.refl _).alloc _⟩
theorem itoaI_any (n : Nat) (w : World) (h : n < 14) : Calls Tryd.prog 49 #[.int .i64 n] w fun e w' => e = .returned (.string (numT n)) ∧ Ext w w' := by
  have H := Lib.hid (fun w => fmt_any n w h)
  have W : IntKind.i64.wrap (n : Int) = (n : Int) := by simp only [IntKind.wrap_i64]; omega
  go_enter Tryd.func49, Tryd.ntmps49
  go_wp2_with (go_at_call 64; refine (H.out _).mono ?_; rintro e w1 ⟨rfl, x1⟩)
  go_ret
  exact ⟨rfl, x1⟩
theorem itoa_any (n : Nat) (w : World) (h : n < 14) : Calls Tryd.prog 30 #[.int .i64 n] w fun e w' => e = .returned (.string (numT n)) ∧ Ext w w' := by
  have H := Lib.hid (fun w => itoaI_any n w h)
  go_enter Tryd.func30, Tryd.ntmps30
  go_wp2_with (go_at_call 49; refine (H.out _).mono ?_; rintro e w1 ⟨rfl, x1⟩)
  go_ret
  exact ⟨rfl, x1⟩

end Go.Proofs.YthooedmlnonadaaDoor
