/- Puzzles that are made: the program. No conditions. -/
import Derived.Test.YtpdnpphjlnlneaaGreatDoorMkp
namespace Go.Proofs.YtpdnpphjlnlneaaGreatDoor
open Go.RowKit

set_option maxRecDepth 100000 in
set_option maxHeartbeats 4000000 in
theorem mpP_any (n : ByteArray) (c s : Int) (w : World) (hn : n.size ≤ maxLen) : Calls Tryz.prog 47 #[.string n, .int .i64 c, .int .i64 s] w (ResP (mpD n c s) (mpV n c s) (mpOk n c s) w) := by
  have X0 := Lib.hid (show Ext w (w.alloc (.cells #[.int .i64 0, .slice none 0 0] 37)) from (Ext.refl w).alloc _)
  cases h1 : isDg 2 3 n
  · have HO := Lib.hid (mpOk_n (c := c) (s := s) h1)
    go_enter Tryz.func47, Tryz.ntmps47
    go_wp2_with (first | (go_at_call 51; refine (isHid_any _ _ hn).mono ?_; rintro e w' ⟨rfl, rfl⟩; rw [h1]))
    exact bodyPost_ret (results_pz (p := 6) (q := 7) rfl _ _ w.heap.size _ 0 (.slice none 0 0) (0, 0) rfl (heap_alloc_new w _)) rfl ⟨_, ret_pzb (mp_no HO.out).1.symm HO.out.symm, by rw [(mp_no HO.out).2]; exact World.ownsRow_nil _ _ _ _, X0.out⟩
  by_cases k1 : c < 0
  · have HO := Lib.hid (mpOk_c (n := n) (s := s) (inW_lo k1))
    go_enter Tryz.func47, Tryz.ntmps47
    go_wp2_with (first | (go_at_call 51; refine (isHid_any _ _ hn).mono ?_; rintro e w' ⟨rfl, rfl⟩; rw [h1]))
    exact bodyPost_ret (results_pz (p := 6) (q := 7) rfl _ _ w.heap.size _ 0 (.slice none 0 0) (0, 0) rfl (heap_alloc_new w _)) rfl ⟨_, ret_pzb (mp_no HO.out).1.symm HO.out.symm, by rw [(mp_no HO.out).2]; exact World.ownsRow_nil _ _ _ _, X0.out⟩
  by_cases k2 : 6 < c
  · have HO := Lib.hid (mpOk_c (n := n) (s := s) (inW_hi k2))
    go_enter Tryz.func47, Tryz.ntmps47
    go_wp2_with (first | (go_at_call 51; refine (isHid_any _ _ hn).mono ?_; rintro e w' ⟨rfl, rfl⟩; rw [h1]))
    exact bodyPost_ret (results_pz (p := 6) (q := 7) rfl _ _ w.heap.size _ 0 (.slice none 0 0) (0, 0) rfl (heap_alloc_new w _)) rfl ⟨_, ret_pzb (mp_no HO.out).1.symm HO.out.symm, by rw [(mp_no HO.out).2]; exact World.ownsRow_nil _ _ _ _, X0.out⟩
  by_cases k3 : s < 0
  · have HO := Lib.hid (mpOk_s (n := n) (c := c) (inW_lo k3))
    go_enter Tryz.func47, Tryz.ntmps47
    go_wp2_with (first | (go_at_call 51; refine (isHid_any _ _ hn).mono ?_; rintro e w' ⟨rfl, rfl⟩; rw [h1]))
    exact bodyPost_ret (results_pz (p := 6) (q := 7) rfl _ _ w.heap.size _ 0 (.slice none 0 0) (0, 0) rfl (heap_alloc_new w _)) rfl ⟨_, ret_pzb (mp_no HO.out).1.symm HO.out.symm, by rw [(mp_no HO.out).2]; exact World.ownsRow_nil _ _ _ _, X0.out⟩
  by_cases k4 : 9999 < s
  · have HO := Lib.hid (mpOk_s (n := n) (c := c) (inW_hi k4))
    go_enter Tryz.func47, Tryz.ntmps47
    go_wp2_with (first | (go_at_call 51; refine (isHid_any _ _ hn).mono ?_; rintro e w' ⟨rfl, rfl⟩; rw [h1]))
    exact bodyPost_ret (results_pz (p := 6) (q := 7) rfl _ _ w.heap.size _ 0 (.slice none 0 0) (0, 0) rfl (heap_alloc_new w _)) rfl ⟨_, ret_pzb (mp_no HO.out).1.symm HO.out.symm, by rw [(mp_no HO.out).2]; exact World.ownsRow_nil _ _ _ _, X0.out⟩
  have h2 : inW c 0 6 = true := inW_yes (by omega) (by omega)
  have h3 : inW s 0 9999 = true := inW_yes (by omega) (by omega)
  clear k1 k2 k3 k4
  have HO := Lib.hid (mpOk_y h1 h2 h3)
  obtain ⟨c1, c2⟩ := inW_bd' h2
  obtain ⟨s1, s2⟩ := inW_bd' h3
  obtain ⟨z1, z2⟩ := isHid_bd h1
  obtain ⟨C, rfl⟩ := Int.eq_ofNat_of_zero_le c1
  obtain ⟨q, rfl⟩ := Int.eq_ofNat_of_zero_le s1
  have HD := Lib.hid (mp_yes HO.out).1
  have HV := Lib.hid (show mpV n (C : Int) (q : Int) = mks q n C from (mp_yes HO.out).2)
  have HDG := Lib.hid h1
  have q1 : decide ((C : Int) < 0) = false := decide_eq_false (by omega)
  have q2 : decide ((6 : Int) < (C : Int)) = false := decide_eq_false (by omega)
  have q3 : decide ((q : Int) < 0) = false := decide_eq_false (by omega)
  have q4 : decide ((9999 : Int) < (q : Int)) = false := decide_eq_false (by omega)
  go_enter Tryz.func47, Tryz.ntmps47
  go_wp2_with (first | (go_at_call 51; refine (isHid_any _ _ hn).mono ?_; rintro e w' ⟨rfl, rfl⟩; rw [h1]))
  clear h1 h2 h3 c1 s1
  have HBR := Lib.hid (show ((w.alloc (.cells #[.int .i64 0, .slice none 0 0] 37)).alloc (.cells #[.int .i64 (n.size : Int), .slice none 0 0] 37)).heap[w.heap.size]? = some (.cells #[.int .i64 0, .slice none 0 0] 37 (0, 0)) from (heap_alloc_old _ _ (by simp)).trans (heap_alloc_new w _))
  have HBP := Lib.hid (show ((w.alloc (.cells #[.int .i64 0, .slice none 0 0] 37)).alloc (.cells #[.int .i64 (n.size : Int), .slice none 0 0] 37)).heap[w.heap.size + 1]? = some (.cells #[.int .i64 (n.size : Int), .slice none 0 0] 37 (0, 0)) from heap_alloc2_new w _ _)
  have XW := Lib.hid (X0.out.alloc (.cells #[.int .i64 (n.size : Int), .slice none 0 0] 37))
  have HSZ := Lib.hid (show ((w.alloc (.cells #[.int .i64 0, .slice none 0 0] 37)).alloc (.cells #[.int .i64 (n.size : Int), .slice none 0 0] 37)).heap.size = w.heap.size + 2 by simp)
  go_loopw [9, 36] (fun z i wr => ∃ t : Nat, t ≤ C ∧ i = .int .i64 t ∧ z = .int .i64 ((yk q t : Nat) : Int) ∧ w.heap.size + 2 ≤ wr.heap.size ∧ wr.heap[w.heap.size]? = some (.cells #[.int .i64 0, .slice none 0 0] 37 (0, 0)) ∧ (∃ u, wr.heap[w.heap.size + 1]? = some (.cells #[.int .i64 (n.size : Int), u] 37 (0, 0)) ∧ OwnR (w.heap.size + 2) wr u (mks q n t)) ∧ Ext w wr) (fun _ i _ => C - (intOf i).toNat)
  case atStart => exact ⟨0, Nat.zero_le _, rfl, rfl, by rw [HSZ.out]; exact Nat.le_refl _, HBR.out, ⟨_, HBP.out, World.ownsRow_nil _ _ _ _⟩, XW.out⟩
  case round =>
    obtain ⟨t, ht, rfl, rfl, hsz, hb0, ⟨u, hb1, hr⟩, hx⟩ := hrel
    have HX := Lib.hid hx
    have HR := Lib.hid hr
    have HB0 := Lib.hid hb0
    have HB1 := Lib.hid hb1
    obtain ⟨ua, uc, rfl⟩ := hr.shape
    have HL := Lib.hid (mks_len q n t)
    clear hx hr HBR HBP XW HSZ
    by_cases hlt : t < C
    · have hy0 := yk_lt (s := q) (by omega) t
      have hy1 := nxt_lt (yk q t)
      have hy2 := nxt_lt (nxt (yk q t))
      have HM := Lib.hid (show mks q n (t + 1) = mks q n t ++ [mkCl (nxt (yk q t) % 6) (nxt (nxt (yk q t))) n] from rfl)
      have HYK := Lib.hid (show yk q (t + 1) = nxt (nxt (yk q t)) from rfl)
      have HN0 := Lib.hid (fun w => nextM_any (yk q t) w hy0)
      have HN1 := Lib.hid (fun w => nextM_any (nxt (yk q t)) w hy1)
      have hk6 := Nat.mod_lt (nxt (yk q t)) (show 0 < 6 by omega)
      have HO2 := Lib.hid (fun w => (show Calls Tryz.prog 77 #[.string n, .int .i64 (((nxt (yk q t) : Nat) : Int) % 6), .int .i64 ((nxt (nxt (yk q t)) : Nat) : Int)] w fun e w' => e = .returned (.agg #[.int .i64 (mkCl (nxt (yk q t) % 6) (nxt (nxt (yk q t))) n).k, .int .i64 (mkCl (nxt (yk q t) % 6) (nxt (nxt (yk q t))) n).a, .int .i64 (mkCl (nxt (yk q t) % 6) (nxt (nxt (yk q t))) n).b]) ∧ Ext w w' from makeC_any (nxt (yk q t) % 6) (nxt (nxt (yk q t))) n w HDG.out hk6 hy2))
      obtain ⟨g, hg⟩ : ∃ g, g = mkCl (nxt (yk q t) % 6) (nxt (nxt (yk q t))) n := ⟨_, rfl⟩
      rw [← hg] at HM HO2
      obtain ⟨y0, e0⟩ : ∃ y, y = yk q t := ⟨_, rfl⟩
      rw [← e0] at HN0 HN1 HO2 HYK hy1 hy2 ⊢
      obtain ⟨y1, e1⟩ : ∃ y, y = nxt y0 := ⟨_, rfl⟩
      rw [← e1] at HN0 HN1 HO2 HYK hy1 hy2
      obtain ⟨y2, e2⟩ : ∃ y, y = nxt y1 := ⟨_, rfl⟩
      rw [← e2] at HN1 HO2 HYK hy2
      clear hg e0 e1 e2 hk6 hy0
      obtain ⟨b1, f1⟩ := cell_of hb1 (j := 1) rfl
      go_wp2_with (go_at_call 76; first | (refine (HN0.out _).mono ?_; rintro e w' ⟨rfl, rfl⟩) | (refine (HN1.out _).mono ?_; rintro e w' ⟨rfl, rfl⟩))
      go_region_law (first | (refine step_clue rfl _ _ rfl w (w.heap.size + 2) _ _ _ g rfl (by exact R2.out) X2.out (by omega) (by have := heapLt HB12.out; omega) (by rw [HL.out]; omega) rfl ?_; intro v9 w9 r9 x9 k9; obtain ⟨a9, c9, rfl⟩ := r9.shape; have R9 := Lib.hid (show OwnR (w.heap.size + 2) w9 (.slice a9 ((mks q n t).length + 1) c9) (mks q n t ++ [g]) from (by rw [List.length_append, List.length_singleton] at r9; exact r9)); have X9 := Lib.hid x9; have HB9 := Lib.hid ((k9 (w.heap.size + 1) (by omega)).trans HB12.out); have HB90 := Lib.hid ((k9 w.heap.size (by omega)).trans HB02.out); obtain ⟨b9, f9⟩ := cell_of HB9.out (j := 1) rfl; clear r9 x9 k9) | (go_simp; go_at_call 77; refine (HO2.out _).mono ?_; rintro e w2 ⟨rfl, x2⟩; have X2 := Lib.hid ((ext_drewN HX.out _).trans x2); have R2 := Lib.hid ((HR.out.ext (ext_drewN (Ext.refl _) _)).ext x2); have HB12 := Lib.hid ((x2.block (w.heap.size + 1) (show w.heap.size + 1 < wr.heap.size by omega)).trans HB1.out); have HB02 := Lib.hid ((x2.block w.heap.size (show w.heap.size < wr.heap.size by omega)).trans HB0.out); obtain ⟨b12, f12⟩ := cell_of HB12.out (j := 1) rfl; obtain ⟨b13, f13⟩ := cell_of ((heap_alloc_old w2 (.cells #[.int .i64 g.k, .int .i64 g.a, .int .i64 g.b] 26) (heapLt HB12.out)).trans HB12.out) (j := 1) rfl; clear x2))
      all_goals go_wp2
      all_goals go_roundw
      all_goals first
        | exact ⟨t + 1, by omega, by go_num, by rw [HYK.out], by have := heapLt HB9.out; simp; omega, (Below.heap_setCell _ ⟨w.heap.size + 1, 1, none⟩ _ w.heap.size (show w.heap.size ≠ w.heap.size + 1 by omega)).trans HB90.out, ⟨_, set_cells2 (j := 1) HB9.out, by rw [HM.out]; exact row_sameS R9.out (fun k hk => Below.heap_setCell _ ⟨w.heap.size + 1, 1, none⟩ _ k (show k ≠ w.heap.size + 1 by omega))⟩, X9.out.setCell (p := ⟨w.heap.size + 1, 1, none⟩) (show w.heap.size ≤ w.heap.size + 1 by omega) _⟩
        | (simp [intOf]; omega)
    · obtain rfl : t = C := by omega
      obtain ⟨e0, h0⟩ := cell_of hb0 (j := 0) rfl
      obtain ⟨e1, h1⟩ := cell_of hb0 (j := 1) rfl
      have HSB := Lib.hid (set_cells2 (j := 1) (u := .slice ua (mks q n t).length uc) (set_cells2 (j := 0) (u := .int .i64 (n.size : Int)) HB0.out))
      go_wp2_with (refine wpList_load_row rfl _ _ rfl (w.heap.size + 1) rfl 37 #[.int .i64 (n.size : Int), .slice ua (mks q n t).length uc] (0, 0) _ HB1.out Tryz.underlying37 rfl (pz_size _ _) ?_)
      exact bodyPost_ret (results_pz (p := 6) (q := 7) rfl _ _ w.heap.size _ (n.size : Int) (.slice ua (mks q n t).length uc) (0, 0) rfl HSB.out) rfl ⟨_, ret_pzb HD.out.symm HO.out.symm, by
        rw [HV.out]
        exact OwnR.down (B := w.heap.size + 2) (row_sameS HR.out (fun k hk => (Below.heap_setCell _ ⟨w.heap.size, 1, none⟩ _ k (show k ≠ w.heap.size by omega)).trans (Below.heap_setCell _ ⟨w.heap.size, 0, none⟩ _ k (show k ≠ w.heap.size by omega)))) (by omega), (HX.out.setCell (p := ⟨w.heap.size, 0, none⟩) (Nat.le_refl _) _).setCell (p := ⟨w.heap.size, 1, none⟩) (Nat.le_refl _) _⟩
end Go.Proofs.YtpdnpphjlnlneaaGreatDoor
