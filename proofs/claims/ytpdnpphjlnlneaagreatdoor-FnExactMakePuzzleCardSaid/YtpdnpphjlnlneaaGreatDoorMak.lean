/- The clues of which puzzles are made: both sides. No conditions. -/
import Derived.Test.YtpdnpphjlnlneaaGreatDoorDfi
import Derived.Deep.RegionWith
namespace Go.Proofs.YtpdnpphjlnlneaaGreatDoor
open Go.RowKit

/-- The next number. -/
def nxt (z : Nat) : Nat := (257 * z + 1531) % 10007
theorem nxt_lt (z : Nat) : nxt z < 10007 := Nat.mod_lt _ (by omega)
theorem pzNext_any (z : Nat) (w : World) (hz : z < 10007) : Calls Tryz.prog 74 #[.int .i64 z] w fun e w' => e = .returned (.int .i64 (nxt z : Nat)) ∧ w = w' := by
  have HV := Lib.hid (show (257 * (z : Int) + 1531) % 10007 = ((nxt z : Nat) : Int) by unfold nxt; omega)
  have W1 : IntKind.i64.wrap (257 * (z : Int)) = 257 * (z : Int) := by simp only [IntKind.wrap_i64]; omega
  have W2 : IntKind.i64.wrap (257 * (z : Int) + 1531) = 257 * (z : Int) + 1531 := by simp only [IntKind.wrap_i64]; omega
  go_enter Tryz.func74, Tryz.ntmps74
  go_wp2
  go_ret
  exact ⟨ret_iD (by first | exact HV.out | (rw [← HV.out]; rfl) | (rw [← HV.out, Int.tmod_eq_emod_of_nonneg (by omega)])), rfl⟩
theorem nextM_any (z : Nat) (w : World) (hz : z < 10007) : Calls Tryz.prog 76 #[.int .i64 z] w fun e w' => e = .returned (.int .i64 (nxt z : Nat)) ∧ w = w' := by
  have HV := Lib.hid (show ((z : Int) * 257 + 1531) % 10007 = ((nxt z : Nat) : Int) by unfold nxt; omega)
  have W1 : IntKind.i64.wrap ((z : Int) * 257) = (z : Int) * 257 := by simp only [IntKind.wrap_i64]; omega
  have W2 : IntKind.i64.wrap ((z : Int) * 257 + 1531) = (z : Int) * 257 + 1531 := by simp only [IntKind.wrap_i64]; omega
  go_enter Tryz.func76, Tryz.ntmps76
  go_wp2
  go_ret
  exact ⟨ret_iD (by first | exact HV.out | (rw [← HV.out]; rfl) | (rw [← HV.out, Int.tmod_eq_emod_of_nonneg (by omega)])), rfl⟩

def mkA (k y : Nat) (n : ByteArray) : Int := if k = 1 then (y : Int) % (n.size : Int) else if k = 4 then (y : Int) % 8 + 2 else 0
def mkCl (k y : Nat) (n : ByteArray) : Cl := ⟨k, mkA k y n, tv k (mkA k y n) n⟩
theorem mkA_1 (y : Nat) (n : ByteArray) : mkA 1 y n = (y : Int) % (n.size : Int) := rfl
theorem mkA_4 (y : Nat) (n : ByteArray) : mkA 4 y n = (y : Int) % 8 + 2 := rfl
theorem mkA_o {k y : Nat} {n : ByteArray} (h1 : ¬ k = 1) (h4 : ¬ k = 4) : mkA k y n = 0 := by unfold mkA; rw [if_neg h1, if_neg h4]
theorem mkA_ok {k y : Nat} {n : ByteArray} (hz : 0 < n.size) : tvOk (k : Int) (mkA k y n) n := by
  refine ⟨fun e => ?_, fun e => ?_⟩
  · obtain rfl : k = 1 := by omega
    rw [mkA_1]
    have h1 := Int.emod_nonneg (y : Int) (show (n.size : Int) ≠ 0 by omega)
    have h2 := Int.emod_lt_of_pos (y : Int) (show (0 : Int) < (n.size : Int) by omega)
    omega
  · obtain rfl : k = 4 := by omega
    rw [mkA_4]
    omega

set_option maxRecDepth 100000 in
set_option maxHeartbeats 2000000 in
theorem pzOf_any (k y : Nat) (n : ByteArray) (w : World) (h : isDg 2 3 n = true) (hk : k < 6) (hy : y < 10007) : Calls Tryz.prog 75 #[.int .i64 k, .int .i64 y, .string n] w fun e w' => e = .returned (.agg #[.int .i64 (mkCl k y n).k, .int .i64 (mkCl k y n).a, .int .i64 (mkCl k y n).b]) ∧ Ext w w' := by
  obtain ⟨z1, z2⟩ := isHid_bd h
  have HP := Lib.hid (fun w => pv_any (k : Int) (mkA k y n) n w h (inW_yes (by omega) (by omega)) (mkA_ok (by omega)))
  have HB := Lib.hid (show (mkCl k y n).b = tv k (mkA k y n) n from rfl)
  obtain ⟨x, hx⟩ : ∃ x, x = tv k (mkA k y n) n := ⟨_, rfl⟩
  rw [← hx] at HP HB
  have X0 := Lib.hid (show Ext w (w.alloc (.cells #[.int .i64 0, .int .i64 0, .int .i64 0] 26)) from (Ext.refl w).alloc _)
  by_cases h1 : k = 1
  · subst h1
    have HC := Lib.hid (fun w => (show Calls Tryz.prog 79 #[.int .i64 1, .int .i64 ((y : Int) % (n.size : Int)), .string n] w fun e w' => e = .returned (.int .i64 x) ∧ Ext w w' from by have := HP.out w; rw [mkA_1] at this; exact this))
    have HA := Lib.hid (show (mkCl 1 y n).a = (y : Int) % (n.size : Int) from mkA_1 y n)
    have hz0 : ¬ (n.size : Int) = 0 := by omega
    have hz1 : ¬ n.size = 0 := by omega
    clear hx HP
    go_enter Tryz.func75, Tryz.ntmps75
    go_wp2_with (go_at_call 79; refine (HC.out _).mono ?_; rintro e w1 ⟨rfl, x1⟩; have hb := (x1.block w.heap.size (by simp)).trans (heap_alloc_new w (.cells #[.int .i64 0, .int .i64 0, .int .i64 0] 26)); obtain ⟨c0, f0⟩ := cell_of hb (j := 0) rfl; obtain ⟨c1, f1⟩ := cell_of hb (j := 1) rfl; obtain ⟨c2, f2⟩ := cell_of hb (j := 2) rfl)
    have HS := set_cells2 (j := 2) (u := .int .i64 x) (set_cells2 (j := 1) (u := .int .i64 ((y : Int) % (n.size : Int))) (set_cells2 (j := 0) (u := .int .i64 1) hb))
    exact bodyPost_ret (results_cell_row (P := Tryz.prog) (p := 6) (ty := 26) rfl _ _ w.heap.size 26 #[.int .i64 1, .int .i64 ((y : Int) % (n.size : Int)), .int .i64 x] (0, 0) _ rfl HS Tryz.underlying26 rfl (by show _ = some 3; kernel_rfl)) rfl ⟨by rw [HB.out, HA.out]; rfl, ((X0.out.trans x1).setCell (p := ⟨w.heap.size, 0, none⟩) (Nat.le_refl _) _).setCell (p := ⟨w.heap.size, 1, none⟩) (Nat.le_refl _) _ |>.setCell (p := ⟨w.heap.size, 2, none⟩) (Nat.le_refl _) _⟩
  by_cases h4 : k = 4
  · subst h4
    have HC := Lib.hid (fun w => (show Calls Tryz.prog 79 #[.int .i64 4, .int .i64 ((y : Int) % 8 + 2), .string n] w fun e w' => e = .returned (.int .i64 x) ∧ Ext w w' from by have := HP.out w; rw [mkA_4] at this; exact this))
    have HA := Lib.hid (show (mkCl 4 y n).a = (y : Int) % 8 + 2 from mkA_4 y n)
    have W1 : IntKind.i64.wrap ((y : Int) % 8 + 2) = (y : Int) % 8 + 2 := by simp only [IntKind.wrap_i64]; omega
    clear hx HP
    go_enter Tryz.func75, Tryz.ntmps75
    go_wp2_with (go_at_call 79; refine (HC.out _).mono ?_; rintro e w1 ⟨rfl, x1⟩; have hb := (x1.block w.heap.size (by simp)).trans (heap_alloc_new w (.cells #[.int .i64 0, .int .i64 0, .int .i64 0] 26)); obtain ⟨c0, f0⟩ := cell_of hb (j := 0) rfl; obtain ⟨c1, f1⟩ := cell_of hb (j := 1) rfl; obtain ⟨c2, f2⟩ := cell_of hb (j := 2) rfl)
    have HS := set_cells2 (j := 2) (u := .int .i64 x) (set_cells2 (j := 1) (u := .int .i64 ((y : Int) % 8 + 2)) (set_cells2 (j := 0) (u := .int .i64 4) hb))
    exact bodyPost_ret (results_cell_row (P := Tryz.prog) (p := 6) (ty := 26) rfl _ _ w.heap.size 26 #[.int .i64 4, .int .i64 ((y : Int) % 8 + 2), .int .i64 x] (0, 0) _ rfl HS Tryz.underlying26 rfl (by show _ = some 3; kernel_rfl)) rfl ⟨by rw [HB.out, HA.out]; rfl, ((X0.out.trans x1).setCell (p := ⟨w.heap.size, 0, none⟩) (Nat.le_refl _) _).setCell (p := ⟨w.heap.size, 1, none⟩) (Nat.le_refl _) _ |>.setCell (p := ⟨w.heap.size, 2, none⟩) (Nat.le_refl _) _⟩
  · skip
    have HC := Lib.hid (fun w => (show Calls Tryz.prog 79 #[.int .i64 (k : Int), .int .i64 0, .string n] w fun e w' => e = .returned (.int .i64 x) ∧ Ext w w' from by have := HP.out w; rw [mkA_o h1 h4] at this; exact this))
    have HA := Lib.hid (show (mkCl k y n).a = 0 from mkA_o (y := y) (n := n) h1 h4)
    have h1i : ((k : Int) == 1) = false := beq_eq_false_iff_ne.2 (by omega)
    have h4i : ((k : Int) == 4) = false := beq_eq_false_iff_ne.2 (by omega)
    clear hx HP
    go_enter Tryz.func75, Tryz.ntmps75
    go_wp2_with (go_at_call 79; refine (HC.out _).mono ?_; rintro e w1 ⟨rfl, x1⟩; have hb := (x1.block w.heap.size (by simp)).trans (heap_alloc_new w (.cells #[.int .i64 0, .int .i64 0, .int .i64 0] 26)); obtain ⟨c0, f0⟩ := cell_of hb (j := 0) rfl; obtain ⟨c1, f1⟩ := cell_of hb (j := 1) rfl; obtain ⟨c2, f2⟩ := cell_of hb (j := 2) rfl)
    have HS := set_cells2 (j := 2) (u := .int .i64 x) (set_cells2 (j := 1) (u := .int .i64 0) (set_cells2 (j := 0) (u := .int .i64 (k : Int)) hb))
    exact bodyPost_ret (results_cell_row (P := Tryz.prog) (p := 6) (ty := 26) rfl _ _ w.heap.size 26 #[.int .i64 (k : Int), .int .i64 0, .int .i64 x] (0, 0) _ rfl HS Tryz.underlying26 rfl (by show _ = some 3; kernel_rfl)) rfl ⟨by rw [HB.out, HA.out]; rfl, ((X0.out.trans x1).setCell (p := ⟨w.heap.size, 0, none⟩) (Nat.le_refl _) _).setCell (p := ⟨w.heap.size, 1, none⟩) (Nat.le_refl _) _ |>.setCell (p := ⟨w.heap.size, 2, none⟩) (Nat.le_refl _) _⟩

set_option maxRecDepth 100000 in
set_option maxHeartbeats 2000000 in
theorem makeC_any (k y : Nat) (n : ByteArray) (w : World) (h : isDg 2 3 n = true) (hk : k < 6) (hy : y < 10007) : Calls Tryz.prog 77 #[.string n, .int .i64 k, .int .i64 y] w fun e w' => e = .returned (.agg #[.int .i64 (mkCl k y n).k, .int .i64 (mkCl k y n).a, .int .i64 (mkCl k y n).b]) ∧ Ext w w' := by
  obtain ⟨z1, z2⟩ := isHid_bd h
  have HP := Lib.hid (fun w => tp_any (k : Int) (mkA k y n) 0 n w h (inW_yes (by omega) (by omega)) (mkA_ok (by omega)))
  have HB := Lib.hid (show (mkCl k y n).b = tv k (mkA k y n) n from rfl)
  obtain ⟨x, hx⟩ : ∃ x, x = tv k (mkA k y n) n := ⟨_, rfl⟩
  rw [← hx] at HP HB
  by_cases h1 : k = 1
  · subst h1
    have HC := Lib.hid (fun w => (show Calls Tryz.prog 82 #[.agg #[.int .i64 1, .int .i64 ((y : Int) % (n.size : Int)), .int .i64 0], .string n] w fun e w' => e = .returned (.int .i64 x) ∧ Ext w w' from by have := HP.out w; rw [mkA_1] at this; exact this))
    have HA := Lib.hid (show (mkCl 1 y n).a = (y : Int) % (n.size : Int) from mkA_1 y n)
    have hz0 : ¬ (n.size : Int) = 0 := by omega
    have hz1 : ¬ n.size = 0 := by omega
    clear hx HP
    have X0 := Lib.hid (show Ext w ((w.alloc (.cells #[.int .i64 0, .int .i64 0, .int .i64 0] 26)).alloc (.cells #[.int .i64 1, .int .i64 ((y : Int) % (n.size : Int)), .int .i64 0] 26)) from ((Ext.refl w).alloc _).alloc _)
    go_enter Tryz.func77, Tryz.ntmps77
    go_wp2_with (first | (go_at_call 82; refine (HC.out _).mono ?_; rintro e w1 ⟨rfl, x1⟩; have hb := (x1.block w.heap.size (by simp; omega)).trans ((heap_alloc_old _ _ (by simp)).trans (heap_alloc_new w (.cells #[.int .i64 0, .int .i64 0, .int .i64 0] 26))); have hb1 := (x1.block (w.heap.size + 1) (by simp)).trans (heap_alloc2_new w _ _); obtain ⟨c0, f0⟩ := cell_of hb (j := 0) rfl; obtain ⟨c1, f1⟩ := cell_of hb (j := 1) rfl; obtain ⟨c2, f2⟩ := cell_of hb (j := 2) rfl; obtain ⟨e2, g2⟩ := cell_of hb1 (j := 2) rfl; have HB1 := Lib.hid (set_cells2 (j := 2) (u := .int .i64 x) hb1)) | (refine wpList_load_row rfl _ _ rfl (w.heap.size + 1) rfl 26 #[.int .i64 1, .int .i64 ((y : Int) % (n.size : Int)), .int .i64 x] (0, 0) _ HB1.out Tryz.underlying26 rfl (by show _ = some 3; kernel_rfl) ?_))
    have hbs := (Below.heap_setCell w1 ⟨w.heap.size + 1, 2, none⟩ (.int .i64 x) w.heap.size (show w.heap.size ≠ w.heap.size + 1 by omega)).trans hb
    have HS := set_cells2 (j := 2) (u := .int .i64 x) (set_cells2 (j := 1) (u := .int .i64 ((y : Int) % (n.size : Int))) (set_cells2 (j := 0) (u := .int .i64 1) hbs))
    exact bodyPost_ret (results_cell_row (P := Tryz.prog) (p := 6) (ty := 26) rfl _ _ w.heap.size 26 #[.int .i64 1, .int .i64 ((y : Int) % (n.size : Int)), .int .i64 x] (0, 0) _ rfl HS Tryz.underlying26 rfl (by show _ = some 3; kernel_rfl)) rfl ⟨by rw [HB.out, HA.out]; rfl, ((((X0.out.trans x1).setCell (p := ⟨w.heap.size + 1, 2, none⟩) (show w.heap.size ≤ w.heap.size + 1 by omega) _).setCell (p := ⟨w.heap.size, 0, none⟩) (Nat.le_refl _) _).setCell (p := ⟨w.heap.size, 1, none⟩) (Nat.le_refl _) _).setCell (p := ⟨w.heap.size, 2, none⟩) (Nat.le_refl _) _⟩
  by_cases h4 : k = 4
  · subst h4
    have HC := Lib.hid (fun w => (show Calls Tryz.prog 82 #[.agg #[.int .i64 4, .int .i64 (2 + (y : Int) % 8), .int .i64 0], .string n] w fun e w' => e = .returned (.int .i64 x) ∧ Ext w w' from by have := HP.out w; rw [mkA_4, Int.add_comm] at this; exact this))
    have HA := Lib.hid (show (mkCl 4 y n).a = 2 + (y : Int) % 8 from by rw [Int.add_comm]; exact mkA_4 y n)
    have W1 : IntKind.i64.wrap (2 + (y : Int) % 8) = 2 + (y : Int) % 8 := by simp only [IntKind.wrap_i64]; omega
    clear hx HP
    have X0 := Lib.hid (show Ext w ((w.alloc (.cells #[.int .i64 0, .int .i64 0, .int .i64 0] 26)).alloc (.cells #[.int .i64 4, .int .i64 (2 + (y : Int) % 8), .int .i64 0] 26)) from ((Ext.refl w).alloc _).alloc _)
    go_enter Tryz.func77, Tryz.ntmps77
    go_wp2_with (first | (go_at_call 82; refine (HC.out _).mono ?_; rintro e w1 ⟨rfl, x1⟩; have hb := (x1.block w.heap.size (by simp; omega)).trans ((heap_alloc_old _ _ (by simp)).trans (heap_alloc_new w (.cells #[.int .i64 0, .int .i64 0, .int .i64 0] 26))); have hb1 := (x1.block (w.heap.size + 1) (by simp)).trans (heap_alloc2_new w _ _); obtain ⟨c0, f0⟩ := cell_of hb (j := 0) rfl; obtain ⟨c1, f1⟩ := cell_of hb (j := 1) rfl; obtain ⟨c2, f2⟩ := cell_of hb (j := 2) rfl; obtain ⟨e2, g2⟩ := cell_of hb1 (j := 2) rfl; have HB1 := Lib.hid (set_cells2 (j := 2) (u := .int .i64 x) hb1)) | (refine wpList_load_row rfl _ _ rfl (w.heap.size + 1) rfl 26 #[.int .i64 4, .int .i64 (2 + (y : Int) % 8), .int .i64 x] (0, 0) _ HB1.out Tryz.underlying26 rfl (by show _ = some 3; kernel_rfl) ?_))
    have hbs := (Below.heap_setCell w1 ⟨w.heap.size + 1, 2, none⟩ (.int .i64 x) w.heap.size (show w.heap.size ≠ w.heap.size + 1 by omega)).trans hb
    have HS := set_cells2 (j := 2) (u := .int .i64 x) (set_cells2 (j := 1) (u := .int .i64 (2 + (y : Int) % 8)) (set_cells2 (j := 0) (u := .int .i64 4) hbs))
    exact bodyPost_ret (results_cell_row (P := Tryz.prog) (p := 6) (ty := 26) rfl _ _ w.heap.size 26 #[.int .i64 4, .int .i64 (2 + (y : Int) % 8), .int .i64 x] (0, 0) _ rfl HS Tryz.underlying26 rfl (by show _ = some 3; kernel_rfl)) rfl ⟨by rw [HB.out, HA.out]; rfl, ((((X0.out.trans x1).setCell (p := ⟨w.heap.size + 1, 2, none⟩) (show w.heap.size ≤ w.heap.size + 1 by omega) _).setCell (p := ⟨w.heap.size, 0, none⟩) (Nat.le_refl _) _).setCell (p := ⟨w.heap.size, 1, none⟩) (Nat.le_refl _) _).setCell (p := ⟨w.heap.size, 2, none⟩) (Nat.le_refl _) _⟩
  · skip
    have HC := Lib.hid (fun w => (show Calls Tryz.prog 82 #[.agg #[.int .i64 (k : Int), .int .i64 0, .int .i64 0], .string n] w fun e w' => e = .returned (.int .i64 x) ∧ Ext w w' from by have := HP.out w; rw [mkA_o h1 h4] at this; exact this))
    have HA := Lib.hid (show (mkCl k y n).a = 0 from mkA_o (y := y) (n := n) h1 h4)
    have h1i : ((k : Int) == 1) = false := beq_eq_false_iff_ne.2 (by omega)
    have h4i : ((k : Int) == 4) = false := beq_eq_false_iff_ne.2 (by omega)
    clear hx HP
    have X0 := Lib.hid (show Ext w ((w.alloc (.cells #[.int .i64 0, .int .i64 0, .int .i64 0] 26)).alloc (.cells #[.int .i64 (k : Int), .int .i64 0, .int .i64 0] 26)) from ((Ext.refl w).alloc _).alloc _)
    go_enter Tryz.func77, Tryz.ntmps77
    go_wp2_with (first | (go_at_call 82; refine (HC.out _).mono ?_; rintro e w1 ⟨rfl, x1⟩; have hb := (x1.block w.heap.size (by simp; omega)).trans ((heap_alloc_old _ _ (by simp)).trans (heap_alloc_new w (.cells #[.int .i64 0, .int .i64 0, .int .i64 0] 26))); have hb1 := (x1.block (w.heap.size + 1) (by simp)).trans (heap_alloc2_new w _ _); obtain ⟨c0, f0⟩ := cell_of hb (j := 0) rfl; obtain ⟨c1, f1⟩ := cell_of hb (j := 1) rfl; obtain ⟨c2, f2⟩ := cell_of hb (j := 2) rfl; obtain ⟨e2, g2⟩ := cell_of hb1 (j := 2) rfl; have HB1 := Lib.hid (set_cells2 (j := 2) (u := .int .i64 x) hb1)) | (refine wpList_load_row rfl _ _ rfl (w.heap.size + 1) rfl 26 #[.int .i64 (k : Int), .int .i64 0, .int .i64 x] (0, 0) _ HB1.out Tryz.underlying26 rfl (by show _ = some 3; kernel_rfl) ?_))
    have hbs := (Below.heap_setCell w1 ⟨w.heap.size + 1, 2, none⟩ (.int .i64 x) w.heap.size (show w.heap.size ≠ w.heap.size + 1 by omega)).trans hb
    have HS := set_cells2 (j := 2) (u := .int .i64 x) (set_cells2 (j := 1) (u := .int .i64 0) (set_cells2 (j := 0) (u := .int .i64 (k : Int)) hbs))
    exact bodyPost_ret (results_cell_row (P := Tryz.prog) (p := 6) (ty := 26) rfl _ _ w.heap.size 26 #[.int .i64 (k : Int), .int .i64 0, .int .i64 x] (0, 0) _ rfl HS Tryz.underlying26 rfl (by show _ = some 3; kernel_rfl)) rfl ⟨by rw [HB.out, HA.out]; rfl, ((((X0.out.trans x1).setCell (p := ⟨w.heap.size + 1, 2, none⟩) (show w.heap.size ≤ w.heap.size + 1 by omega) _).setCell (p := ⟨w.heap.size, 0, none⟩) (Nat.le_refl _) _).setCell (p := ⟨w.heap.size, 1, none⟩) (Nat.le_refl _) _).setCell (p := ⟨w.heap.size, 2, none⟩) (Nat.le_refl _) _⟩
end Go.Proofs.YtpdnpphjlnlneaaGreatDoor
