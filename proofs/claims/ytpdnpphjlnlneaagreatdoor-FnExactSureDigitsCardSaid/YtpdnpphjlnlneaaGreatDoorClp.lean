/- Is it a clue: the program's test, by a recovered door. No conditions. -/
import Derived.Test.YtpdnpphjlnlneaaGreatDoorClb
import Derived.Defers
import Derived.Recover
import Derived.Tactics
import Derived.Tactics2
namespace Go.Proofs.YtpdnpphjlnlneaaGreatDoor
open Go.RowKit

/-- What is raised. -/
def rais (k a b : Int) : List PanicEntry := [{ v := .iface 26 (.agg #[.int .i64 k, .int .i64 a, .int .i64 b]), recovered := false }]

theorem inW_k {k : Int} (h : inW k 0 5 = true) : k = 0 ∨ k = 1 ∨ k = 2 ∨ k = 3 ∨ k = 4 ∨ k = 5 := by
  have := inW_bd' h
  omega
set_option maxHeartbeats 1000000 in
theorem bounds_any (d k a b : Int) (w : World) (hk : inW k 0 5 = true) (hd : 0 ≤ d ∧ d ≤ 1048576) : Calls Tryz.prog 138 #[.agg #[.int .i64 k, .int .i64 a, .int .i64 b], .int .i64 d] w fun e w' => e = .returned (.agg #[.int .i64 (lA k), .int .i64 (mA d k), .int .i64 (lB k), .int .i64 (mB k)]) ∧ Ext w w' := by
  have X0 := Lib.hid (show Ext w (w.alloc (.cells #[.int .i64 k, .int .i64 a, .int .i64 b] 26)) from (Ext.refl w).alloc _)
  have W1 : IntKind.i64.wrap (d - 1) = d - 1 := by simp only [IntKind.wrap_i64]; omega
  rcases inW_k hk with rfl | rfl | rfl | rfl | rfl | rfl
  · go_enter Tryz.func138, Tryz.ntmps138
    go_wp2
    exact bodyPost_ret (results_cell_row (P := Tryz.prog) (p := 4) (ty := 130) rfl _ _ (w.heap.size + 1) 130 #[.int .i64 (0), .int .i64 (0), .int .i64 (0), .int .i64 (27)] (0, 0) _ rfl (heap_alloc2_new w _ _) Tryz.underlying130 rfl (by show _ = some 4; kernel_rfl)) rfl ⟨rfl, X0.out.trans ((Ext.refl _).alloc _)⟩
  · go_enter Tryz.func138, Tryz.ntmps138
    go_wp2
    exact bodyPost_ret (results_cell_row (P := Tryz.prog) (p := 4) (ty := 130) rfl _ _ (w.heap.size + 1) 130 #[.int .i64 (0), .int .i64 (d - 1), .int .i64 (0), .int .i64 (9)] (0, 0) _ rfl (heap_alloc2_new w _ _) Tryz.underlying130 rfl (by show _ = some 4; kernel_rfl)) rfl ⟨rfl, X0.out.trans ((Ext.refl _).alloc _)⟩
  · go_enter Tryz.func138, Tryz.ntmps138
    go_wp2
    exact bodyPost_ret (results_cell_row (P := Tryz.prog) (p := 4) (ty := 130) rfl _ _ (w.heap.size + 1) 130 #[.int .i64 (0), .int .i64 (0), .int .i64 (0), .int .i64 (20)] (0, 0) _ rfl (heap_alloc2_new w _ _) Tryz.underlying130 rfl (by show _ = some 4; kernel_rfl)) rfl ⟨rfl, X0.out.trans ((Ext.refl _).alloc _)⟩
  · go_enter Tryz.func138, Tryz.ntmps138
    go_wp2
    exact bodyPost_ret (results_cell_row (P := Tryz.prog) (p := 4) (ty := 130) rfl _ _ (w.heap.size + 1) 130 #[.int .i64 (0), .int .i64 (0), .int .i64 (0), .int .i64 (1)] (0, 0) _ rfl (heap_alloc2_new w _ _) Tryz.underlying130 rfl (by show _ = some 4; kernel_rfl)) rfl ⟨rfl, X0.out.trans ((Ext.refl _).alloc _)⟩
  · go_enter Tryz.func138, Tryz.ntmps138
    go_wp2
    exact bodyPost_ret (results_cell_row (P := Tryz.prog) (p := 4) (ty := 130) rfl _ _ (w.heap.size + 1) 130 #[.int .i64 (2), .int .i64 (9), .int .i64 (0), .int .i64 (1)] (0, 0) _ rfl (heap_alloc2_new w _ _) Tryz.underlying130 rfl (by show _ = some 4; kernel_rfl)) rfl ⟨rfl, X0.out.trans ((Ext.refl _).alloc _)⟩
  · go_enter Tryz.func138, Tryz.ntmps138
    go_wp2
    exact bodyPost_ret (results_cell_row (P := Tryz.prog) (p := 4) (ty := 130) rfl _ _ (w.heap.size + 1) 130 #[.int .i64 (0), .int .i64 (0), .int .i64 (1), .int .i64 (3)] (0, 0) _ rfl (heap_alloc2_new w _ _) Tryz.underlying130 rfl (by show _ = some 4; kernel_rfl)) rfl ⟨rfl, X0.out.trans ((Ext.refl _).alloc _)⟩
theorem ne_of_inW {k : Int} (h : inW k 0 5 = false) : ¬ k = 0 ∧ ¬ k = 1 ∧ ¬ k = 2 ∧ ¬ k = 3 ∧ ¬ k = 4 ∧ ¬ k = 5 := by
  refine ⟨?_, ?_, ?_, ?_, ?_, ?_⟩ <;> (rintro rfl; exact absurd h (by decide))
theorem bounds_no (d k a b : Int) (w : World) (hk : inW k 0 5 = false) : Calls Tryz.prog 138 #[.agg #[.int .i64 k, .int .i64 a, .int .i64 b], .int .i64 d] w fun e w' => e = .panicked (rais k a b) ∧ Ext w w' := by
  have X0 := Lib.hid (show Ext w (w.alloc (.cells #[.int .i64 k, .int .i64 a, .int .i64 b] 26)) from (Ext.refl w).alloc _)
  obtain ⟨h0, h1, h2, h3, h4, h5⟩ := ne_of_inW hk
  go_enter Tryz.func138, Tryz.ntmps138
  go_wp2
  exact ⟨rfl, rfl, X0.out.trans ((Ext.refl _).alloc _)⟩

theorem clB_in {d k a b : Int} (h : clB d k a b = true) : inW k 0 5 = true ∧ (lA k ≤ a ∧ a ≤ mA d k) ∧ (lB k ≤ b ∧ b ≤ mB k) := by
  unfold clB at h
  rw [Bool.and_eq_true, Bool.and_eq_true] at h
  exact ⟨h.1, inW_bd' h.2.1, inW_bd' h.2.2⟩
theorem clB_out {d k a b : Int} (hk : inW k 0 5 = true) (h : clB d k a b = false) : a < lA k ∨ mA d k < a ∨ b < lB k ∨ mB k < b := by
  by_cases h1 : a < lA k
  · exact .inl h1
  by_cases h2 : mA d k < a
  · exact .inr (.inl h2)
  by_cases h3 : b < lB k
  · exact .inr (.inr (.inl h3))
  by_cases h4 : mB k < b
  · exact .inr (.inr (.inr h4))
  exfalso
  unfold clB at h
  rw [hk, inW_yes (show lA k ≤ a by omega) (show a ≤ mA d k by omega), inW_yes (show lB k ≤ b by omega) (show b ≤ mB k by omega)] at h
  cases h
theorem cl_cells {w w' : World} {k a b : Value} {T : TypeId} (x : Ext (w.alloc (.cells #[k, a, b] T)) w') : w'.cell? ⟨w.heap.size, 0, none⟩ = some k ∧ w'.cell? ⟨w.heap.size, 1, none⟩ = some a ∧ w'.cell? ⟨w.heap.size, 2, none⟩ = some b := by
  have h : w'.heap[w.heap.size]? = some (.cells #[k, a, b] T) := (x.block w.heap.size (by simp)).trans (heap_alloc_new w _)
  exact ⟨(cell_of h (j := 0) rfl).1, (cell_of h (j := 1) rfl).1, (cell_of h (j := 2) rfl).1⟩
set_option maxHeartbeats 1000000 in
theorem must_yes (d k a b : Int) (w : World) (h : clB d k a b = true) (hd : 0 ≤ d ∧ d ≤ 1048576) : Calls Tryz.prog 121 #[.agg #[.int .i64 k, .int .i64 a, .int .i64 b], .int .i64 d] w fun e w' => e = .returned (.tuple #[]) ∧ Ext w w' := by
  obtain ⟨hk, ⟨h1, h2⟩, h3, h4⟩ := clB_in h
  have X0 := Lib.hid (show Ext w (w.alloc (.cells #[.int .i64 k, .int .i64 a, .int .i64 b] 26)) from (Ext.refl w).alloc _)
  have HC := Lib.hid (fun w => bounds_any d k a b w hk hd)
  obtain ⟨q1, e1⟩ : ∃ q, q = lA k := ⟨_, rfl⟩
  obtain ⟨q2, e2⟩ : ∃ q, q = mA d k := ⟨_, rfl⟩
  obtain ⟨q3, e3⟩ : ∃ q, q = lB k := ⟨_, rfl⟩
  obtain ⟨q4, e4⟩ : ∃ q, q = mB k := ⟨_, rfl⟩
  rw [← e1, ← e2, ← e3, ← e4] at HC
  rw [← e1] at h1
  rw [← e2] at h2
  rw [← e3] at h3
  rw [← e4] at h4
  clear e1 e2 e3 e4 h hk
  have n1 : decide (a < q1) = false := decide_eq_false (by omega)
  have n2 : decide (q2 < a) = false := decide_eq_false (by omega)
  have n3 : decide (b < q3) = false := decide_eq_false (by omega)
  have n4 : decide (q4 < b) = false := decide_eq_false (by omega)
  go_enter Tryz.func121, Tryz.ntmps121
  go_wp2_with fail
  refine (HC.out _).mono ?_
  rintro e w1 ⟨rfl, x1⟩
  have X1 := Lib.hid (x1.trans ((Ext.refl w1).alloc (.cells #[.int .i64 q1, .int .i64 q2, .int .i64 q3, .int .i64 q4] 130)))
  clear x1
  obtain ⟨c0, c1, c2⟩ := cl_cells X1.out
  go_wp2
  go_end0
  exact ⟨rfl, X0.out.trans X1.out⟩
set_option maxHeartbeats 1000000 in
theorem must_no (d k a b : Int) (w : World) (h : clB d k a b = false) (hd : 0 ≤ d ∧ d ≤ 1048576) : Calls Tryz.prog 121 #[.agg #[.int .i64 k, .int .i64 a, .int .i64 b], .int .i64 d] w fun e w' => e = .panicked (rais k a b) ∧ Ext w w' := by
  cases hk : inW k 0 5
  · have X0 := Lib.hid (show Ext w (w.alloc (.cells #[.int .i64 k, .int .i64 a, .int .i64 b] 26)) from (Ext.refl w).alloc _)
    have HC := Lib.hid (fun w => bounds_no d k a b w hk)
    clear h hk
    unfold rais at HC ⊢
    go_enter Tryz.func121, Tryz.ntmps121
    go_wp2_with fail
    refine (HC.out _).mono ?_
    rintro e w1 ⟨rfl, x1⟩
    go_wp2
    exact ⟨rfl, rfl, X0.out.trans x1⟩
  have hq := clB_out hk h
  have X0 := Lib.hid (show Ext w (w.alloc (.cells #[.int .i64 k, .int .i64 a, .int .i64 b] 26)) from (Ext.refl w).alloc _)
  have HC := Lib.hid (fun w => bounds_any d k a b w hk hd)
  obtain ⟨q1, e1⟩ : ∃ q, q = lA k := ⟨_, rfl⟩
  obtain ⟨q2, e2⟩ : ∃ q, q = mA d k := ⟨_, rfl⟩
  obtain ⟨q3, e3⟩ : ∃ q, q = lB k := ⟨_, rfl⟩
  obtain ⟨q4, e4⟩ : ∃ q, q = mB k := ⟨_, rfl⟩
  rw [← e1, ← e2, ← e3, ← e4] at HC
  rw [← e1, ← e2, ← e3, ← e4] at hq
  clear e1 e2 e3 e4 h hk
  unfold rais
  rcases (show (a < q1) ∨ (¬ a < q1 ∧ q2 < a) ∨ (¬ a < q1 ∧ ¬ q2 < a ∧ b < q3) ∨ (¬ a < q1 ∧ ¬ q2 < a ∧ ¬ b < q3 ∧ q4 < b) by omega) with h1 | ⟨h1, h2⟩ | ⟨h1, h2, h3⟩ | ⟨h1, h2, h3, h4⟩
  · have n1 : decide (a < q1) = true := decide_eq_true (by omega)
    go_enter Tryz.func121, Tryz.ntmps121
    go_wp2_with fail
    refine (HC.out _).mono ?_
    rintro e w1 ⟨rfl, x1⟩
    have X1 := Lib.hid (x1.trans ((Ext.refl w1).alloc (.cells #[.int .i64 q1, .int .i64 q2, .int .i64 q3, .int .i64 q4] 130)))
    clear x1
    obtain ⟨c0, c1, c2⟩ := cl_cells X1.out
    go_wp2
    exact ⟨rfl, rfl, X0.out.trans X1.out⟩
  · have n1 : decide (a < q1) = false := decide_eq_false (by omega)
    have n2 : decide (q2 < a) = true := decide_eq_true (by omega)
    go_enter Tryz.func121, Tryz.ntmps121
    go_wp2_with fail
    refine (HC.out _).mono ?_
    rintro e w1 ⟨rfl, x1⟩
    have X1 := Lib.hid (x1.trans ((Ext.refl w1).alloc (.cells #[.int .i64 q1, .int .i64 q2, .int .i64 q3, .int .i64 q4] 130)))
    clear x1
    obtain ⟨c0, c1, c2⟩ := cl_cells X1.out
    go_wp2
    exact ⟨rfl, rfl, X0.out.trans X1.out⟩
  · have n1 : decide (a < q1) = false := decide_eq_false (by omega)
    have n2 : decide (q2 < a) = false := decide_eq_false (by omega)
    have n3 : decide (b < q3) = true := decide_eq_true (by omega)
    go_enter Tryz.func121, Tryz.ntmps121
    go_wp2_with fail
    refine (HC.out _).mono ?_
    rintro e w1 ⟨rfl, x1⟩
    have X1 := Lib.hid (x1.trans ((Ext.refl w1).alloc (.cells #[.int .i64 q1, .int .i64 q2, .int .i64 q3, .int .i64 q4] 130)))
    clear x1
    obtain ⟨c0, c1, c2⟩ := cl_cells X1.out
    go_wp2
    exact ⟨rfl, rfl, X0.out.trans X1.out⟩
  · have n1 : decide (a < q1) = false := decide_eq_false (by omega)
    have n2 : decide (q2 < a) = false := decide_eq_false (by omega)
    have n3 : decide (b < q3) = false := decide_eq_false (by omega)
    have n4 : decide (q4 < b) = true := decide_eq_true (by omega)
    go_enter Tryz.func121, Tryz.ntmps121
    go_wp2_with fail
    refine (HC.out _).mono ?_
    rintro e w1 ⟨rfl, x1⟩
    have X1 := Lib.hid (x1.trans ((Ext.refl w1).alloc (.cells #[.int .i64 q1, .int .i64 q2, .int .i64 q3, .int .i64 q4] 130)))
    clear x1
    obtain ⟨c0, c1, c2⟩ := cl_cells X1.out
    go_wp2
    exact ⟨rfl, rfl, X0.out.trans X1.out⟩
end Go.Proofs.YtpdnpphjlnlneaaGreatDoor
