/- Does a number fit a clue: both sides. No conditions. -/
import Derived.Test.YtpdnpphjlnlneaaGreatDoorTlP
import Derived.Deep.RegionWith
namespace Go.Proofs.YtpdnpphjlnlneaaGreatDoor
open Go.RowKit

/-- A number fits a clue. -/
def fitC (g : Cl) (n : ByteArray) : Bool := decide (tv g.k g.a n = g.b)
theorem isCl_ok {g : Cl} {n : ByteArray} (h : isCl (n.size : Int) g = true) : inW g.k 0 5 = true ∧ tvOk g.k g.a n := by
  obtain ⟨hk, ha, _⟩ := clB_in h
  refine ⟨hk, fun e => ?_, fun e => ?_⟩
  · rw [e] at ha
    have e1 : lA 1 = 0 := rfl
    have e2 : mA (n.size : Int) 1 = (n.size : Int) - 1 := rfl
    omega
  · rw [e] at ha
    have e1 : lA 4 = 2 := rfl
    have e2 : mA (n.size : Int) 4 = 9 := rfl
    omega
theorem eqb_int (x y : Int) : (x == y) = decide (x = y) := by
  by_cases h : x = y
  · rw [decide_eq_true h]; exact beq_iff_eq.2 h
  · rw [decide_eq_false h]; exact beq_eq_false_iff_ne.2 h
set_option maxRecDepth 100000 in
set_option maxHeartbeats 1000000 in
theorem pzFit_any (g : Cl) (n : ByteArray) (w : World) (h : isDg 2 3 n = true) (hc : isCl (n.size : Int) g = true) : Calls Tryz.prog 50 #[.agg #[.int .i64 g.k, .int .i64 g.a, .int .i64 g.b], .string n] w fun e w' => e = .returned (.bool (fitC g n)) ∧ Ext w w' := by
  obtain ⟨hk, ho⟩ := isCl_ok hc
  obtain ⟨k, a, b⟩ := g
  have HC := Lib.hid (fun w => pv_any k a n w h hk ho)
  have HV := Lib.hid (show (tv k a n == b) = fitC ⟨k, a, b⟩ n from eqb_int _ _)
  obtain ⟨x, hx⟩ : ∃ x, x = tv k a n := ⟨_, rfl⟩
  have X0 := Lib.hid (show Ext w (w.alloc (.cells #[.int .i64 k, .int .i64 a, .int .i64 b] 26)) from (Ext.refl w).alloc _)
  rw [← hx] at HC HV
  clear hx h hk ho hc
  go_enter Tryz.func50, Tryz.ntmps50
  go_wp2
  go_region_with (first | (go_at_call 79; refine (HC.out _).mono ?_; rintro e w1 ⟨rfl, x1⟩; have X1 := Lib.hid ((ext_drewN (Ext.refl _) _).trans x1); obtain ⟨c0, c1, c2⟩ := cl_cells X1.out; clear x1))
  all_goals go_wp2
  all_goals go_ret
  all_goals exact ⟨ret_bool (by first | exact HV.out | (rw [← HV.out]; rfl)), X0.out.trans X1.out⟩
set_option maxRecDepth 100000 in
set_option maxHeartbeats 1000000 in
theorem fits_any (g : Cl) (n : ByteArray) (w : World) (h : isDg 2 3 n = true) (hc : isCl (n.size : Int) g = true) : Calls Tryz.prog 53 #[.agg #[.int .i64 g.k, .int .i64 g.a, .int .i64 g.b], .string n] w fun e w' => e = .returned (.bool (fitC g n)) ∧ Ext w w' := by
  obtain ⟨hk, ho⟩ := isCl_ok hc
  obtain ⟨k, a, b⟩ := g
  have HC := Lib.hid (fun w => tp_any k a b n w h hk ho)
  have HV := Lib.hid (show (tv k a n == b) = fitC ⟨k, a, b⟩ n from eqb_int _ _)
  obtain ⟨x, hx⟩ : ∃ x, x = tv k a n := ⟨_, rfl⟩
  have X0 := Lib.hid (show Ext w (w.alloc (.cells #[.int .i64 k, .int .i64 a, .int .i64 b] 26)) from (Ext.refl w).alloc _)
  rw [← hx] at HC HV
  clear hx h hk ho hc
  go_enter Tryz.func53, Tryz.ntmps53
  go_wp2
  go_region_with (first | (go_at_call 82; refine (HC.out _).mono ?_; rintro e w1 ⟨rfl, x1⟩; have X1 := Lib.hid ((ext_drewN (Ext.refl _) _).trans x1); obtain ⟨c0, c1, c2⟩ := cl_cells X1.out; clear x1))
  all_goals go_wp2
  all_goals go_ret
  all_goals exact ⟨ret_bool (by first | exact HV.out | (rw [← HV.out]; rfl)), X0.out.trans X1.out⟩
end Go.Proofs.YtpdnpphjlnlneaaGreatDoor
