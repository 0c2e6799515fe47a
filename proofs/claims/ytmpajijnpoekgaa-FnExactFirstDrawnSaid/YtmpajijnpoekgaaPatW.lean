/- Drawings: one point more; patterns that are drawn; the points that come next. No conditions. -/
import Derived.Test.YtmpajijnpoekgaaPatI
import Derived.Test.YtmpajijnpoekgaaSeq
import Derived.Test.YtmpajijnpoekgaaBld
import Derived.Deep.RegionWith
namespace Go.Proofs.Ytmpajijnpoekgaa
open Go.RowKit

/-- One point more, which is the last one now. -/
def wiD (d : Nat → Bool) (p : Nat) : Nat → Bool := fun q => d q || decide (q = p)
theorem wiD_in (ps : List Nat) (p : Nat) : wiD (inD ps) p = inD (ps ++ [p]) := by
  funext q
  unfold wiD inD
  rw [← Bool.decide_or]
  exact decide_eq_decide.2 (by simp)
theorem wiD_none (p : Nat) : wiD (fun _ => false) p = inD [p] := by
  funext q
  unfold wiD inD
  rw [Bool.false_or]
  exact decide_eq_decide.2 (by simp)
theorem sz10 (A : Array Value) (h : A.size = 10) : (Try.prog.info? 48).map (·.size) = some A.size := by
  rw [h]
  kernel_rfl
theorem dv_wi (d : Nat → Bool) (p l : Nat) (B : Nat → Bool) (h : ∀ q, q < 9 → B q = (d q || decide (q = p))) : Ending.returned (.agg #[.bool (B 0), .bool (B 1), .bool (B 2), .bool (B 3), .bool (B 4), .bool (B 5), .bool (B 6), .bool (B 7), .bool (B 8), .int .i64 (l : Int)]) = Ending.returned (dv (wiD d p) l) := by
  unfold dv wiD
  rw [h 0 (by omega), h 1 (by omega), h 2 (by omega), h 3 (by omega), h 4 (by omega), h 5 (by omega), h 6 (by omega), h 7 (by omega), h 8 (by omega)]

set_option maxHeartbeats 1000000 in
theorem with0 (d : Nat → Bool) (l : Int) (w : World) : Calls Try.prog 56 #[.agg #[.bool (d 0), .bool (d 1), .bool (d 2), .bool (d 3), .bool (d 4), .bool (d 5), .bool (d 6), .bool (d 7), .bool (d 8), .int .i64 l], .int .i64 0] w fun e w' => e = .returned (.agg #[.bool true, .bool (d 1), .bool (d 2), .bool (d 3), .bool (d 4), .bool (d 5), .bool (d 6), .bool (d 7), .bool (d 8), .int .i64 0]) ∧ Ext w w' := by
  have HZ := Lib.hid (sz10 #[.bool true, .bool (d 1), .bool (d 2), .bool (d 3), .bool (d 4), .bool (d 5), .bool (d 6), .bool (d 7), .bool (d 8), .int .i64 0] rfl)
  have G2 := Lib.hid (heap_alloc2_new w (.cells #[.bool true, .bool (d 1), .bool (d 2), .bool (d 3), .bool (d 4), .bool (d 5), .bool (d 6), .bool (d 7), .bool (d 8), .int .i64 0] 48) (.cells #[.bool true, .bool (d 1), .bool (d 2), .bool (d 3), .bool (d 4), .bool (d 5), .bool (d 6), .bool (d 7), .bool (d 8), .int .i64 0] 48))
  have X := Lib.hid (show Ext w ((w.alloc (.cells #[.bool true, .bool (d 1), .bool (d 2), .bool (d 3), .bool (d 4), .bool (d 5), .bool (d 6), .bool (d 7), .bool (d 8), .int .i64 0] 48)).alloc (.cells #[.bool true, .bool (d 1), .bool (d 2), .bool (d 3), .bool (d 4), .bool (d 5), .bool (d 6), .bool (d 7), .bool (d 8), .int .i64 0] 48)) from ((Ext.refl w).alloc _).alloc _)
  go_enter Try.func56, Try.ntmps56
  go_wp2
  exact bodyPost_ret (results_cell_row (P := Try.prog) (p := 4) (ty := 48) rfl _ _ (w.heap.size + 1) 48 #[.bool true, .bool (d 1), .bool (d 2), .bool (d 3), .bool (d 4), .bool (d 5), .bool (d 6), .bool (d 7), .bool (d 8), .int .i64 0] (0, 0) _ rfl G2.out Try.underlying48 rfl HZ.out) rfl ⟨rfl, X.out⟩

set_option maxHeartbeats 1000000 in
theorem with1 (d : Nat → Bool) (l : Int) (w : World) : Calls Try.prog 56 #[.agg #[.bool (d 0), .bool (d 1), .bool (d 2), .bool (d 3), .bool (d 4), .bool (d 5), .bool (d 6), .bool (d 7), .bool (d 8), .int .i64 l], .int .i64 1] w fun e w' => e = .returned (.agg #[.bool (d 0), .bool true, .bool (d 2), .bool (d 3), .bool (d 4), .bool (d 5), .bool (d 6), .bool (d 7), .bool (d 8), .int .i64 1]) ∧ Ext w w' := by
  have HZ := Lib.hid (sz10 #[.bool (d 0), .bool true, .bool (d 2), .bool (d 3), .bool (d 4), .bool (d 5), .bool (d 6), .bool (d 7), .bool (d 8), .int .i64 1] rfl)
  have G2 := Lib.hid (heap_alloc2_new w (.cells #[.bool (d 0), .bool true, .bool (d 2), .bool (d 3), .bool (d 4), .bool (d 5), .bool (d 6), .bool (d 7), .bool (d 8), .int .i64 1] 48) (.cells #[.bool (d 0), .bool true, .bool (d 2), .bool (d 3), .bool (d 4), .bool (d 5), .bool (d 6), .bool (d 7), .bool (d 8), .int .i64 1] 48))
  have X := Lib.hid (show Ext w ((w.alloc (.cells #[.bool (d 0), .bool true, .bool (d 2), .bool (d 3), .bool (d 4), .bool (d 5), .bool (d 6), .bool (d 7), .bool (d 8), .int .i64 1] 48)).alloc (.cells #[.bool (d 0), .bool true, .bool (d 2), .bool (d 3), .bool (d 4), .bool (d 5), .bool (d 6), .bool (d 7), .bool (d 8), .int .i64 1] 48)) from ((Ext.refl w).alloc _).alloc _)
  go_enter Try.func56, Try.ntmps56
  go_wp2
  exact bodyPost_ret (results_cell_row (P := Try.prog) (p := 4) (ty := 48) rfl _ _ (w.heap.size + 1) 48 #[.bool (d 0), .bool true, .bool (d 2), .bool (d 3), .bool (d 4), .bool (d 5), .bool (d 6), .bool (d 7), .bool (d 8), .int .i64 1] (0, 0) _ rfl G2.out Try.underlying48 rfl HZ.out) rfl ⟨rfl, X.out⟩

set_option maxHeartbeats 1000000 in
theorem with2 (d : Nat → Bool) (l : Int) (w : World) : Calls Try.prog 56 #[.agg #[.bool (d 0), .bool (d 1), .bool (d 2), .bool (d 3), .bool (d 4), .bool (d 5), .bool (d 6), .bool (d 7), .bool (d 8), .int .i64 l], .int .i64 2] w fun e w' => e = .returned (.agg #[.bool (d 0), .bool (d 1), .bool true, .bool (d 3), .bool (d 4), .bool (d 5), .bool (d 6), .bool (d 7), .bool (d 8), .int .i64 2]) ∧ Ext w w' := by
  have HZ := Lib.hid (sz10 #[.bool (d 0), .bool (d 1), .bool true, .bool (d 3), .bool (d 4), .bool (d 5), .bool (d 6), .bool (d 7), .bool (d 8), .int .i64 2] rfl)
  have G2 := Lib.hid (heap_alloc2_new w (.cells #[.bool (d 0), .bool (d 1), .bool true, .bool (d 3), .bool (d 4), .bool (d 5), .bool (d 6), .bool (d 7), .bool (d 8), .int .i64 2] 48) (.cells #[.bool (d 0), .bool (d 1), .bool true, .bool (d 3), .bool (d 4), .bool (d 5), .bool (d 6), .bool (d 7), .bool (d 8), .int .i64 2] 48))
  have X := Lib.hid (show Ext w ((w.alloc (.cells #[.bool (d 0), .bool (d 1), .bool true, .bool (d 3), .bool (d 4), .bool (d 5), .bool (d 6), .bool (d 7), .bool (d 8), .int .i64 2] 48)).alloc (.cells #[.bool (d 0), .bool (d 1), .bool true, .bool (d 3), .bool (d 4), .bool (d 5), .bool (d 6), .bool (d 7), .bool (d 8), .int .i64 2] 48)) from ((Ext.refl w).alloc _).alloc _)
  go_enter Try.func56, Try.ntmps56
  go_wp2
  exact bodyPost_ret (results_cell_row (P := Try.prog) (p := 4) (ty := 48) rfl _ _ (w.heap.size + 1) 48 #[.bool (d 0), .bool (d 1), .bool true, .bool (d 3), .bool (d 4), .bool (d 5), .bool (d 6), .bool (d 7), .bool (d 8), .int .i64 2] (0, 0) _ rfl G2.out Try.underlying48 rfl HZ.out) rfl ⟨rfl, X.out⟩

set_option maxHeartbeats 1000000 in
theorem with3 (d : Nat → Bool) (l : Int) (w : World) : Calls Try.prog 56 #[.agg #[.bool (d 0), .bool (d 1), .bool (d 2), .bool (d 3), .bool (d 4), .bool (d 5), .bool (d 6), .bool (d 7), .bool (d 8), .int .i64 l], .int .i64 3] w fun e w' => e = .returned (.agg #[.bool (d 0), .bool (d 1), .bool (d 2), .bool true, .bool (d 4), .bool (d 5), .bool (d 6), .bool (d 7), .bool (d 8), .int .i64 3]) ∧ Ext w w' := by
  have HZ := Lib.hid (sz10 #[.bool (d 0), .bool (d 1), .bool (d 2), .bool true, .bool (d 4), .bool (d 5), .bool (d 6), .bool (d 7), .bool (d 8), .int .i64 3] rfl)
  have G2 := Lib.hid (heap_alloc2_new w (.cells #[.bool (d 0), .bool (d 1), .bool (d 2), .bool true, .bool (d 4), .bool (d 5), .bool (d 6), .bool (d 7), .bool (d 8), .int .i64 3] 48) (.cells #[.bool (d 0), .bool (d 1), .bool (d 2), .bool true, .bool (d 4), .bool (d 5), .bool (d 6), .bool (d 7), .bool (d 8), .int .i64 3] 48))
  have X := Lib.hid (show Ext w ((w.alloc (.cells #[.bool (d 0), .bool (d 1), .bool (d 2), .bool true, .bool (d 4), .bool (d 5), .bool (d 6), .bool (d 7), .bool (d 8), .int .i64 3] 48)).alloc (.cells #[.bool (d 0), .bool (d 1), .bool (d 2), .bool true, .bool (d 4), .bool (d 5), .bool (d 6), .bool (d 7), .bool (d 8), .int .i64 3] 48)) from ((Ext.refl w).alloc _).alloc _)
  go_enter Try.func56, Try.ntmps56
  go_wp2
  exact bodyPost_ret (results_cell_row (P := Try.prog) (p := 4) (ty := 48) rfl _ _ (w.heap.size + 1) 48 #[.bool (d 0), .bool (d 1), .bool (d 2), .bool true, .bool (d 4), .bool (d 5), .bool (d 6), .bool (d 7), .bool (d 8), .int .i64 3] (0, 0) _ rfl G2.out Try.underlying48 rfl HZ.out) rfl ⟨rfl, X.out⟩

set_option maxHeartbeats 1000000 in
theorem with4 (d : Nat → Bool) (l : Int) (w : World) : Calls Try.prog 56 #[.agg #[.bool (d 0), .bool (d 1), .bool (d 2), .bool (d 3), .bool (d 4), .bool (d 5), .bool (d 6), .bool (d 7), .bool (d 8), .int .i64 l], .int .i64 4] w fun e w' => e = .returned (.agg #[.bool (d 0), .bool (d 1), .bool (d 2), .bool (d 3), .bool true, .bool (d 5), .bool (d 6), .bool (d 7), .bool (d 8), .int .i64 4]) ∧ Ext w w' := by
  have HZ := Lib.hid (sz10 #[.bool (d 0), .bool (d 1), .bool (d 2), .bool (d 3), .bool true, .bool (d 5), .bool (d 6), .bool (d 7), .bool (d 8), .int .i64 4] rfl)
  have G2 := Lib.hid (heap_alloc2_new w (.cells #[.bool (d 0), .bool (d 1), .bool (d 2), .bool (d 3), .bool true, .bool (d 5), .bool (d 6), .bool (d 7), .bool (d 8), .int .i64 4] 48) (.cells #[.bool (d 0), .bool (d 1), .bool (d 2), .bool (d 3), .bool true, .bool (d 5), .bool (d 6), .bool (d 7), .bool (d 8), .int .i64 4] 48))
  have X := Lib.hid (show Ext w ((w.alloc (.cells #[.bool (d 0), .bool (d 1), .bool (d 2), .bool (d 3), .bool true, .bool (d 5), .bool (d 6), .bool (d 7), .bool (d 8), .int .i64 4] 48)).alloc (.cells #[.bool (d 0), .bool (d 1), .bool (d 2), .bool (d 3), .bool true, .bool (d 5), .bool (d 6), .bool (d 7), .bool (d 8), .int .i64 4] 48)) from ((Ext.refl w).alloc _).alloc _)
  go_enter Try.func56, Try.ntmps56
  go_wp2
  exact bodyPost_ret (results_cell_row (P := Try.prog) (p := 4) (ty := 48) rfl _ _ (w.heap.size + 1) 48 #[.bool (d 0), .bool (d 1), .bool (d 2), .bool (d 3), .bool true, .bool (d 5), .bool (d 6), .bool (d 7), .bool (d 8), .int .i64 4] (0, 0) _ rfl G2.out Try.underlying48 rfl HZ.out) rfl ⟨rfl, X.out⟩

set_option maxHeartbeats 1000000 in
theorem with5 (d : Nat → Bool) (l : Int) (w : World) : Calls Try.prog 56 #[.agg #[.bool (d 0), .bool (d 1), .bool (d 2), .bool (d 3), .bool (d 4), .bool (d 5), .bool (d 6), .bool (d 7), .bool (d 8), .int .i64 l], .int .i64 5] w fun e w' => e = .returned (.agg #[.bool (d 0), .bool (d 1), .bool (d 2), .bool (d 3), .bool (d 4), .bool true, .bool (d 6), .bool (d 7), .bool (d 8), .int .i64 5]) ∧ Ext w w' := by
  have HZ := Lib.hid (sz10 #[.bool (d 0), .bool (d 1), .bool (d 2), .bool (d 3), .bool (d 4), .bool true, .bool (d 6), .bool (d 7), .bool (d 8), .int .i64 5] rfl)
  have G2 := Lib.hid (heap_alloc2_new w (.cells #[.bool (d 0), .bool (d 1), .bool (d 2), .bool (d 3), .bool (d 4), .bool true, .bool (d 6), .bool (d 7), .bool (d 8), .int .i64 5] 48) (.cells #[.bool (d 0), .bool (d 1), .bool (d 2), .bool (d 3), .bool (d 4), .bool true, .bool (d 6), .bool (d 7), .bool (d 8), .int .i64 5] 48))
  have X := Lib.hid (show Ext w ((w.alloc (.cells #[.bool (d 0), .bool (d 1), .bool (d 2), .bool (d 3), .bool (d 4), .bool true, .bool (d 6), .bool (d 7), .bool (d 8), .int .i64 5] 48)).alloc (.cells #[.bool (d 0), .bool (d 1), .bool (d 2), .bool (d 3), .bool (d 4), .bool true, .bool (d 6), .bool (d 7), .bool (d 8), .int .i64 5] 48)) from ((Ext.refl w).alloc _).alloc _)
  go_enter Try.func56, Try.ntmps56
  go_wp2
  exact bodyPost_ret (results_cell_row (P := Try.prog) (p := 4) (ty := 48) rfl _ _ (w.heap.size + 1) 48 #[.bool (d 0), .bool (d 1), .bool (d 2), .bool (d 3), .bool (d 4), .bool true, .bool (d 6), .bool (d 7), .bool (d 8), .int .i64 5] (0, 0) _ rfl G2.out Try.underlying48 rfl HZ.out) rfl ⟨rfl, X.out⟩

set_option maxHeartbeats 1000000 in
theorem with6 (d : Nat → Bool) (l : Int) (w : World) : Calls Try.prog 56 #[.agg #[.bool (d 0), .bool (d 1), .bool (d 2), .bool (d 3), .bool (d 4), .bool (d 5), .bool (d 6), .bool (d 7), .bool (d 8), .int .i64 l], .int .i64 6] w fun e w' => e = .returned (.agg #[.bool (d 0), .bool (d 1), .bool (d 2), .bool (d 3), .bool (d 4), .bool (d 5), .bool true, .bool (d 7), .bool (d 8), .int .i64 6]) ∧ Ext w w' := by
  have HZ := Lib.hid (sz10 #[.bool (d 0), .bool (d 1), .bool (d 2), .bool (d 3), .bool (d 4), .bool (d 5), .bool true, .bool (d 7), .bool (d 8), .int .i64 6] rfl)
  have G2 := Lib.hid (heap_alloc2_new w (.cells #[.bool (d 0), .bool (d 1), .bool (d 2), .bool (d 3), .bool (d 4), .bool (d 5), .bool true, .bool (d 7), .bool (d 8), .int .i64 6] 48) (.cells #[.bool (d 0), .bool (d 1), .bool (d 2), .bool (d 3), .bool (d 4), .bool (d 5), .bool true, .bool (d 7), .bool (d 8), .int .i64 6] 48))
  have X := Lib.hid (show Ext w ((w.alloc (.cells #[.bool (d 0), .bool (d 1), .bool (d 2), .bool (d 3), .bool (d 4), .bool (d 5), .bool true, .bool (d 7), .bool (d 8), .int .i64 6] 48)).alloc (.cells #[.bool (d 0), .bool (d 1), .bool (d 2), .bool (d 3), .bool (d 4), .bool (d 5), .bool true, .bool (d 7), .bool (d 8), .int .i64 6] 48)) from ((Ext.refl w).alloc _).alloc _)
  go_enter Try.func56, Try.ntmps56
  go_wp2
  exact bodyPost_ret (results_cell_row (P := Try.prog) (p := 4) (ty := 48) rfl _ _ (w.heap.size + 1) 48 #[.bool (d 0), .bool (d 1), .bool (d 2), .bool (d 3), .bool (d 4), .bool (d 5), .bool true, .bool (d 7), .bool (d 8), .int .i64 6] (0, 0) _ rfl G2.out Try.underlying48 rfl HZ.out) rfl ⟨rfl, X.out⟩

set_option maxHeartbeats 1000000 in
theorem with7 (d : Nat → Bool) (l : Int) (w : World) : Calls Try.prog 56 #[.agg #[.bool (d 0), .bool (d 1), .bool (d 2), .bool (d 3), .bool (d 4), .bool (d 5), .bool (d 6), .bool (d 7), .bool (d 8), .int .i64 l], .int .i64 7] w fun e w' => e = .returned (.agg #[.bool (d 0), .bool (d 1), .bool (d 2), .bool (d 3), .bool (d 4), .bool (d 5), .bool (d 6), .bool true, .bool (d 8), .int .i64 7]) ∧ Ext w w' := by
  have HZ := Lib.hid (sz10 #[.bool (d 0), .bool (d 1), .bool (d 2), .bool (d 3), .bool (d 4), .bool (d 5), .bool (d 6), .bool true, .bool (d 8), .int .i64 7] rfl)
  have G2 := Lib.hid (heap_alloc2_new w (.cells #[.bool (d 0), .bool (d 1), .bool (d 2), .bool (d 3), .bool (d 4), .bool (d 5), .bool (d 6), .bool true, .bool (d 8), .int .i64 7] 48) (.cells #[.bool (d 0), .bool (d 1), .bool (d 2), .bool (d 3), .bool (d 4), .bool (d 5), .bool (d 6), .bool true, .bool (d 8), .int .i64 7] 48))
  have X := Lib.hid (show Ext w ((w.alloc (.cells #[.bool (d 0), .bool (d 1), .bool (d 2), .bool (d 3), .bool (d 4), .bool (d 5), .bool (d 6), .bool true, .bool (d 8), .int .i64 7] 48)).alloc (.cells #[.bool (d 0), .bool (d 1), .bool (d 2), .bool (d 3), .bool (d 4), .bool (d 5), .bool (d 6), .bool true, .bool (d 8), .int .i64 7] 48)) from ((Ext.refl w).alloc _).alloc _)
  go_enter Try.func56, Try.ntmps56
  go_wp2
  exact bodyPost_ret (results_cell_row (P := Try.prog) (p := 4) (ty := 48) rfl _ _ (w.heap.size + 1) 48 #[.bool (d 0), .bool (d 1), .bool (d 2), .bool (d 3), .bool (d 4), .bool (d 5), .bool (d 6), .bool true, .bool (d 8), .int .i64 7] (0, 0) _ rfl G2.out Try.underlying48 rfl HZ.out) rfl ⟨rfl, X.out⟩

set_option maxHeartbeats 1000000 in
theorem with8 (d : Nat → Bool) (l : Int) (w : World) : Calls Try.prog 56 #[.agg #[.bool (d 0), .bool (d 1), .bool (d 2), .bool (d 3), .bool (d 4), .bool (d 5), .bool (d 6), .bool (d 7), .bool (d 8), .int .i64 l], .int .i64 8] w fun e w' => e = .returned (.agg #[.bool (d 0), .bool (d 1), .bool (d 2), .bool (d 3), .bool (d 4), .bool (d 5), .bool (d 6), .bool (d 7), .bool true, .int .i64 8]) ∧ Ext w w' := by
  have HZ := Lib.hid (sz10 #[.bool (d 0), .bool (d 1), .bool (d 2), .bool (d 3), .bool (d 4), .bool (d 5), .bool (d 6), .bool (d 7), .bool true, .int .i64 8] rfl)
  have G2 := Lib.hid (heap_alloc2_new w (.cells #[.bool (d 0), .bool (d 1), .bool (d 2), .bool (d 3), .bool (d 4), .bool (d 5), .bool (d 6), .bool (d 7), .bool true, .int .i64 8] 48) (.cells #[.bool (d 0), .bool (d 1), .bool (d 2), .bool (d 3), .bool (d 4), .bool (d 5), .bool (d 6), .bool (d 7), .bool true, .int .i64 8] 48))
  have X := Lib.hid (show Ext w ((w.alloc (.cells #[.bool (d 0), .bool (d 1), .bool (d 2), .bool (d 3), .bool (d 4), .bool (d 5), .bool (d 6), .bool (d 7), .bool true, .int .i64 8] 48)).alloc (.cells #[.bool (d 0), .bool (d 1), .bool (d 2), .bool (d 3), .bool (d 4), .bool (d 5), .bool (d 6), .bool (d 7), .bool true, .int .i64 8] 48)) from ((Ext.refl w).alloc _).alloc _)
  go_enter Try.func56, Try.ntmps56
  go_wp2
  exact bodyPost_ret (results_cell_row (P := Try.prog) (p := 4) (ty := 48) rfl _ _ (w.heap.size + 1) 48 #[.bool (d 0), .bool (d 1), .bool (d 2), .bool (d 3), .bool (d 4), .bool (d 5), .bool (d 6), .bool (d 7), .bool true, .int .i64 8] (0, 0) _ rfl G2.out Try.underlying48 rfl HZ.out) rfl ⟨rfl, X.out⟩

theorem with_any (d : Nat → Bool) (l p : Nat) (w : World) (hp : p < 9) : Calls Try.prog 56 #[dv d l, .int .i64 p] w fun e w' => e = .returned (dv (wiD d p) p) ∧ Ext w w' := by
  unfold dv
  rcases (by omega : p = 0 ∨ p = 1 ∨ p = 2 ∨ p = 3 ∨ p = 4 ∨ p = 5 ∨ p = 6 ∨ p = 7 ∨ p = 8) with rfl | rfl | rfl | rfl | rfl | rfl | rfl | rfl | rfl
  · refine (with0 d l w).mono fun e w' h => ⟨h.1.trans ?_, h.2⟩
    simp [wiD]
  · refine (with1 d l w).mono fun e w' h => ⟨h.1.trans ?_, h.2⟩
    simp [wiD]
  · refine (with2 d l w).mono fun e w' h => ⟨h.1.trans ?_, h.2⟩
    simp [wiD]
  · refine (with3 d l w).mono fun e w' h => ⟨h.1.trans ?_, h.2⟩
    simp [wiD]
  · refine (with4 d l w).mono fun e w' h => ⟨h.1.trans ?_, h.2⟩
    simp [wiD]
  · refine (with5 d l w).mono fun e w' h => ⟨h.1.trans ?_, h.2⟩
    simp [wiD]
  · refine (with6 d l w).mono fun e w' h => ⟨h.1.trans ?_, h.2⟩
    simp [wiD]
  · refine (with7 d l w).mono fun e w' h => ⟨h.1.trans ?_, h.2⟩
    simp [wiD]
  · refine (with8 d l w).mono fun e w' h => ⟨h.1.trans ?_, h.2⟩
    simp [wiD]
end Go.Proofs.Ytmpajijnpoekgaa
