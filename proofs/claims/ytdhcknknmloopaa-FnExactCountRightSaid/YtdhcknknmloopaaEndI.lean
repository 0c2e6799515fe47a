/- How many right numbers there are: the program's table. No conditions. -/
import Derived.Test.YtdhcknknmloopaaEnds
namespace Go.Proofs.Ytdhcknknmloopaa
open Go.RowKit

set_option maxRecDepth 100000 in
set_option maxHeartbeats 4000000 in
theorem ends_any (m : Nat) (v : Value) (zs : List Int) (w : World) (h : IntsA w v zs) (hb : SchB (m : Int) zs) : Calls Try.prog 75 #[.agg #[.int .i64 (m : Int), v]] w fun e w' => (∃ t, e = .returned (.agg (tabE t).toArray) ∧ t 0 0 = eE zs m 0 0) ∧ Ext w w' := by
  obtain ⟨W, hW⟩ : ∃ W, W = ((w.alloc (.cells #[.int .i64 (m : Int), v] 27)).alloc (.cells Try.zeroCells78 78)).alloc (.cells Try.zeroCells78 78) := ⟨_, rfl⟩
  have XS := Lib.hid (show Ext (w.alloc (.cells #[.int .i64 (m : Int), v] 27)) W by rw [hW]; exact ((Ext.refl _).alloc _).alloc _)
  have T0 := Lib.hid (show TabE W (w.heap.size + 1 + 1) (fun _ _ => 0) by rw [hW]; unfold TabE; rw [← zeroE]; have := heap_alloc_new ((w.alloc (.cells #[.int .i64 (m : Int), v] 27)).alloc (.cells Try.zeroCells78 78)) (.cells Try.zeroCells78 78); simpa using this)
  have R0 := Lib.hid (show TabE W (w.heap.size + 1) (fun _ _ => 0) by rw [hW]; unfold TabE; rw [← zeroE, heap_alloc_old _ _ (by simp)]; exact heap_alloc2_new w _ _)
  have X0 := Lib.hid (show Ext w W from ((Ext.refl w).alloc _).trans XS.out)
  go_enter Try.func75, Try.ntmps75
  go_wp2_with fail
  rw [← hW]
  clear hW
  have HCP := Lib.hid (fun w' (x : Ext W w') => chkPlace_any (m : Int) v zs w' (h.ext (X0.out.trans x)))
  have HWA := Lib.hid (fun j w' (hj : j ≤ zs.length) (x : Ext W w') => weightAt_any (m : Int) v zs j w' (h.ext (X0.out.trans x)) hj)
  have HGA := Lib.hid (fun j w' (x : Ext W w') => greatest_any (m : Int) v zs j w' (h.ext (X0.out.trans x)))
  have HI := Lib.hid (h.ext ((Ext.refl w).alloc (.cells #[.int .i64 (m : Int), v] 27)))
  have HB := Lib.hid hb
  have hl2 := hb.l2
  have hm1 := hb.m1
  have hm2 := hb.m2
  clear hb h
  refine (HCP.out W (Ext.refl W)).mono ?_
  rintro e w1 ⟨rfl, x1⟩
  have X1 := Lib.hid x1
  obtain ⟨c1, c2⟩ := sc_cells (XS.out.trans x1)
  obtain ⟨n1, hn1⟩ : ∃ n1, n1 = zs.length + 1 := ⟨_, rfl⟩
  have Ci : (zs.length : Int) + 1 = (n1 : Int) := by omega
  have Wn : IntKind.i64.wrap ((zs.length : Int) + 1) = (n1 : Int) := by simp only [IntKind.wrap_i64]; omega
  have Wn1 : IntKind.i64.wrap (n1 : Int) = (n1 : Int) := by simp only [IntKind.wrap_i64]; omega
  have n14 : n1 < 14 := by omega
  have n14i : (n1 : Int) < 14 := by omega
  have hT1 := T0.out.ext x1
  have cS : w1.cell? ⟨w.heap.size + 1 + 1, n1 * 13, none⟩ = some (.int .i64 0) := hT1.at n1 0 n14 (by decide)
  have fS := hT1.fr (n1 * 13)
  have HTO := Lib.hid (show TabE (w1.setCell ⟨w.heap.size + 1 + 1, n1 * 13, none⟩ (.int .i64 1)) (w.heap.size + 1 + 1) (fun a b => if a = zs.length + 1 ∧ b = 0 then 1 else 0) from by have := hT1.set n1 0 (by decide) 1; rw [Nat.add_zero] at this; rw [← hn1]; exact this)
  have HX2 := Lib.hid (show Ext W w1 ∧ Ext w (w1.setCell ⟨w.heap.size + 1 + 1, n1 * 13, none⟩ (.int .i64 1)) ∧ TabE (w1.setCell ⟨w.heap.size + 1 + 1, n1 * 13, none⟩ (.int .i64 1)) (w.heap.size + 1) (fun _ _ => 0) ∧ Ext (w.alloc (.cells #[.int .i64 (m : Int), v] 27)) (w1.setCell ⟨w.heap.size + 1 + 1, n1 * 13, none⟩ (.int .i64 1)) from ⟨x1, (X0.out.trans x1).setCell (by show w.heap.size ≤ w.heap.size + 1 + 1; omega) _, (R0.out.ext x1).other (by show ¬ w.heap.size + 1 + 1 = w.heap.size + 1; omega) _, (XS.out.trans x1).setCell (by simp) _⟩)
  have HN1 := Lib.hid hn1
  clear x1 hT1 hn1
  obtain ⟨d1, d2⟩ := sc_cells HX2.out.2.2.2
  go_wp2_with fail
  obtain ⟨w2, hw2⟩ : ∃ w2, w2 = w1.setCell ⟨w.heap.size + 1 + 1, n1 * 13, none⟩ (.int .i64 1) := ⟨_, rfl⟩
  rw [← hw2] at HX2 HTO ⊢
  clear hw2 d1 d2 cS fS c1 c2
  have HCN := Lib.hid (fun w' (x : Ext (w.alloc (.cells #[.int .i64 (m : Int), v] 27)) w') => chkPlace_any (m : Int) v zs w' (HI.out.ext x))
  refine (HCN.out w2 HX2.out.2.2.2).mono ?_
  rintro e w3 ⟨rfl, x3⟩
  have X3 := Lib.hid (HX2.out.2.2.2.trans x3)
  have X3w := Lib.hid (HX2.out.2.1.trans x3)
  have T3 := Lib.hid (HTO.out.ext x3)
  have R3 := Lib.hid (HX2.out.2.2.1.ext x3)
  clear x3
  go_wp2_with fail
  go_loopw [4] (fun q wr => ∃ (P : Nat) (x : Int), P ≤ zs.length + 1 ∧ q = .int .i64 x ∧ x = (P : Int) - 1 ∧ (∃ t, TabE wr (w.heap.size + 1 + 1) t ∧ TO zs m t P) ∧ TabE wr (w.heap.size + 1) (fun _ _ => 0) ∧ Ext w wr ∧ Ext (w.alloc (.cells #[.int .i64 (m : Int), v] 27)) wr) (fun q _ => (intOf q + 1).toNat)
  case atStart => exact ⟨zs.length + 1, _, Nat.le_refl _, rfl, by omega, ⟨_, T3.out, TO.start zs m⟩, R3.out, X3w.out, X3.out⟩
  case round =>
    obtain ⟨P, x, hP, rfl, hxP, ⟨t, hT, hO⟩, hR, hxw, hxs⟩ := hrel
    have HT := Lib.hid hT
    have HO := Lib.hid hO
    have HR := Lib.hid hR
    have HXW := Lib.hid hxw
    have HXS := Lib.hid hxs
    clear hT hO hR hxw hxs
    by_cases h0 : 0 ≤ x
    · obtain ⟨p, rfl⟩ : ∃ p : Nat, x = (p : Int) := Int.eq_ofNat_of_zero_le h0
      obtain rfl : P = p + 1 := by omega
      have hpn : p ≤ zs.length := by omega
      clear hxP hP h0
      obtain ⟨c1, c2⟩ := sc_cells HXS.out
      go_wp2
      go_loopw [20] (fun q wr => ∃ R : Nat, R ≤ m ∧ q = .int .i64 R ∧ (∃ t, TabE wr (w.heap.size + 1 + 1) t ∧ TE zs m t p R 0) ∧ TabE wr (w.heap.size + 1) (fun _ _ => 0) ∧ Ext w wr ∧ Ext (w.alloc (.cells #[.int .i64 (m : Int), v] 27)) wr) (fun q _ => m - (intOf q).toNat)
      case atStart => exact ⟨0, Nat.zero_le _, rfl, ⟨t, HT.out, HO.out.go⟩, HR.out, HXW.out, HXS.out⟩
      case round =>
        obtain ⟨R, hRm, rfl, ⟨t2, hT2, hO2⟩, hR2, hxw2, hxs2⟩ := hrel
        have HT2 := Lib.hid hT2
        have HO2 := Lib.hid hO2
        have HR2 := Lib.hid hR2
        have HXW2 := Lib.hid hxw2
        have HXS2 := Lib.hid hxs2
        clear hT2 hO2 hR2 hxw2 hxs2
        by_cases hRl : R < m
        · have hRi : (R : Int) < (m : Int) := by omega
          obtain ⟨d1, d2⟩ := sc_cells HXS2.out
          have hg11 := gv_le zs p
          obtain ⟨G, hG⟩ : ∃ G, G = gv zs p := ⟨_, rfl⟩
          have HGG := Lib.hid hG
          rw [← hG] at hg11
          have HGR := Lib.hid (fun w' (x : Ext (w.alloc (.cells #[.int .i64 (m : Int), v] 27)) w') => (show Calls Try.prog 87 #[.agg #[.int .i64 (m : Int), v], .int .i64 (p : Int)] w' fun e w2 => e = .returned (.int .i64 ((G : Int) - 1)) ∧ Ext w' w2 from by rw [hG]; exact greatest_any (m : Int) v zs p w' (HI.out.ext x)))
          have wg : IntKind.i64.wrap ((G : Int) - 1 + 1) = (G : Int) := by simp only [IntKind.wrap_i64]; omega
          have wg2 : (G : Int) - 1 + 1 = (G : Int) := by omega
          have wg3 : IntKind.i64.wrap (G : Int) = (G : Int) := by simp only [IntKind.wrap_i64]; omega
          clear hG
          go_wp2_with (first | (go_at_call 87; refine (HGR.out _ HXS2.out).mono ?_; rintro e w4 ⟨rfl, x4⟩; have X4 := Lib.hid x4))
          go_loopw [27] (fun q wr => ∃ V : Nat, V ≤ G ∧ q = .int .i64 V ∧ (∃ t, TabE wr (w.heap.size + 1 + 1) t ∧ TE zs m t p R V) ∧ TabE wr (w.heap.size + 1) (fun _ _ => 0) ∧ Ext w wr ∧ Ext (w.alloc (.cells #[.int .i64 (m : Int), v] 27)) wr) (fun q _ => G - (intOf q).toNat)
          case atStart => exact ⟨0, Nat.zero_le _, rfl, ⟨t2, HT2.out.ext X4.out, HO2.out⟩, HR2.out.ext X4.out, HXW2.out.trans X4.out, HXS2.out.trans X4.out⟩
          case round =>
            obtain ⟨V, hVG, rfl, ⟨t3, hT3, hO3⟩, hR3, hxw3, hxs3⟩ := hrel
            have HT3 := Lib.hid hT3
            have HO3 := Lib.hid hO3
            have HR3 := Lib.hid hR3
            have HXW3 := Lib.hid hxw3
            have HXS3 := Lib.hid hxs3
            clear hT3 hO3 hR3 hxw3 hxs3
            by_cases hVl : V < G
            · have hVi : (V : Int) < (G : Int) := by omega
              obtain ⟨p1, hp1⟩ : ∃ p1, p1 = p + 1 := ⟨_, rfl⟩
              obtain ⟨nx, hnx⟩ : ∃ nx, nx = nxR zs m p R V := ⟨_, rfl⟩
              obtain ⟨Y, hY⟩ : ∃ Y, Y = wt zs p := ⟨_, rfl⟩
              have hYb := wt_bd HB.out hpn
              have hnxm : nx < m := by rw [hnx]; exact nxR_lt (by omega) p R V
              have hmod := nxR_eq (zs := zs) (m := m) (by omega) p R V
              rw [← hY] at hYb hmod
              rw [← hnx] at hmod
              have HWT := Lib.hid (fun w' (x : Ext (w.alloc (.cells #[.int .i64 (m : Int), v] 27)) w') => (show Calls Try.prog 82 #[.agg #[.int .i64 (m : Int), v], .int .i64 (p : Int)] w' fun e w2 => e = .returned (.int .i64 Y) ∧ Ext w' w2 from by rw [hY]; exact weightAt_any (m : Int) v zs p w' (HI.out.ext x) hpn))
              have hmb := mul_bd (a := (V : Int)) (by omega) (by omega) hYb.1 hYb.2
              obtain ⟨q, hq⟩ : ∃ q, q = (V : Int) * Y := ⟨_, rfl⟩
              rw [← hq] at hmb hmod
              obtain ⟨S, hS⟩ : ∃ S, S = (R : Int) + q := ⟨_, rfl⟩
              rw [← hS] at hmod
              have hVY : (V : Int) * Y = q := hq.symm
              have wq : IntKind.i64.wrap q = q := by simp only [IntKind.wrap_i64]; omega
              have hRq : (R : Int) + q = S := hS.symm
              have wS : IntKind.i64.wrap S = S := by simp only [IntKind.wrap_i64]; omega
              have tmS : Int.tmod S (m : Int) = (nx : Int) := by rw [Int.tmod_eq_emod_of_nonneg (by omega)]; exact hmod
              have hmz : ¬ (m : Int) = 0 := by omega
              have hmz1 : ¬ (m : Int) = -1 := by omega
              have p14 : p1 < 14 := by omega
              have p14i : (p1 : Int) < 14 := by omega
              have pp14 : p < 14 := by omega
              have pp14i : (p : Int) < 14 := by omega
              have R13 : R < 13 := by omega
              have R13i : (R : Int) < 13 := by omega
              have n13 : nx < 13 := by omega
              have n13i : (nx : Int) < 13 := by omega
              have Cp : (p : Int) + 1 = (p1 : Int) := by omega
              have Wp : IntKind.i64.wrap ((p : Int) + 1) = (p1 : Int) := by simp only [IntKind.wrap_i64]; omega
              have Wp1 : IntKind.i64.wrap (p1 : Int) = (p1 : Int) := by simp only [IntKind.wrap_i64]; omega
              have hA := HO3.out.mid hRl
              have hBv := HO3.out.hi p1 nx (by omega) (by omega) hnxm
              have bA := eS_bd (zs := zs) (m := m) (p := p) (r := R) (k := V) hl2 (by omega)
              have bB := eE_bd (zs := zs) (m := m) (p := p1) (r := nx) hl2
              have HTM := Lib.hid (show t3 p1 nx = eTm zs m p R V by rw [hBv, hp1, hnx]; rfl)
              rw [← hA] at bA
              rw [← hBv] at bB
              obtain ⟨A, hAA⟩ : ∃ A, A = t3 p R := ⟨_, rfl⟩
              obtain ⟨B, hBB⟩ : ∃ B, B = t3 p1 nx := ⟨_, rfl⟩
              rw [← hAA] at bA
              rw [← hBB] at bB HTM
              have wAB : IntKind.i64.wrap (A + B) = A + B := by simp only [IntKind.wrap_i64]; omega
              have HNX := Lib.hid (HO3.out.next (A + B) (by rw [HTM.out, hAA]) hRl)
              have HCE := Lib.hid (fun w' (x : Ext wr w') => (show (w'.cell? ⟨w.heap.size + 1 + 1, p * 13 + R, none⟩ = some (.int .i64 A) ∧ w'.cell? ⟨w.heap.size + 1 + 1, p1 * 13 + nx, none⟩ = some (.int .i64 B) ∧ w'.frozen? ⟨w.heap.size + 1 + 1, p * 13 + R, none⟩ = false) ∧ (w'.cell? ⟨w.heap.size, 0, none⟩ = some (.int .i64 (m : Int)) ∧ w'.cell? ⟨w.heap.size, 1, none⟩ = some v) from
                ⟨⟨by rw [hAA]; exact (HT3.out.ext x).at p R pp14 R13, by rw [hBB]; exact (HT3.out.ext x).at p1 nx p14 n13, (HT3.out.ext x).fr _⟩, sc_cells (HXS3.out.trans x)⟩))
              have HAF := Lib.hid (fun w' (x : Ext wr w') => (show (∃ t, TabE (w'.setCell ⟨w.heap.size + 1 + 1, p * 13 + R, none⟩ (.int .i64 (A + B))) (w.heap.size + 1 + 1) t ∧ TE zs m t p R (V + 1)) ∧ TabE (w'.setCell ⟨w.heap.size + 1 + 1, p * 13 + R, none⟩ (.int .i64 (A + B))) (w.heap.size + 1) (fun _ _ => 0) ∧ Ext w (w'.setCell ⟨w.heap.size + 1 + 1, p * 13 + R, none⟩ (.int .i64 (A + B))) ∧ Ext (w.alloc (.cells #[.int .i64 (m : Int), v] 27)) (w'.setCell ⟨w.heap.size + 1 + 1, p * 13 + R, none⟩ (.int .i64 (A + B))) from
                ⟨⟨_, (HT3.out.ext x).set p R R13 (A + B), HNX.out⟩, (HR3.out.ext x).other (by show ¬ w.heap.size + 1 + 1 = w.heap.size + 1; omega) _, (HXW3.out.trans x).setCell (by show w.heap.size ≤ w.heap.size + 1 + 1; omega) _, (HXS3.out.trans x).setCell (by simp) _⟩))
              obtain ⟨⟨k1, k2, k3⟩, k4, k5⟩ := HCE.out wr (Ext.refl _)
              clear hp1 hnx hY hq hS hA hBv hAA hBB hmod
              go_wp2
              go_region_with (go_at_call 82; refine (HWT.out _ (ext_drewN HXS3.out _)).mono ?_; rintro e w5 ⟨rfl, x5⟩; have x5d := Lib.hid (Ext.trans (ext_drewN (Ext.refl wr) _) x5); obtain ⟨⟨j1, j2, j3⟩, j4, j5⟩ := HCE.out w5 x5d.out; clear x5)
              all_goals (have HFF := Lib.hid (HAF.out _ x5d.out))
              all_goals clear HCE HAF HWT HNX HTM HGR x5d j1 j2 j3 j4 j5
              all_goals go_wp2
              all_goals exact ⟨⟨V + 1, by omega, by go_num, HFF.out⟩, by simp [intOf]; omega⟩
            · obtain rfl : V = G := by omega
              have HRW := Lib.hid ((HGG.out ▸ HO3.out).row hpn hRl)
              go_wp2
              exact ⟨⟨R + 1, by omega, by go_num, ⟨t3, HT3.out, HRW.out⟩, HR3.out, HXW3.out, HXS3.out⟩, by simp [intOf]; omega⟩
        · obtain rfl : R = m := by omega
          have HDN := Lib.hid HO2.out.done
          go_wp2
          exact ⟨⟨p, _, by omega, rfl, by omega, ⟨t2, HT2.out, HDN.out⟩, HR2.out, HXW2.out, HXS2.out⟩, by simp [intOf] <;> omega⟩
    · obtain rfl : P = 0 := by omega
      have HN := Lib.hid (show (Try.prog.info? 78).map (·.size) = some (tabE t).toArray.size by rw [List.size_toArray, tabE_len]; kernel_rfl)
      have h182 : (tabE t).length = 182 := tabE_len _
      obtain ⟨W4, hst, hg4, X4⟩ := tabE_store wr (w.heap.size + 1) (fun _ _ => 0) t HR.out HXW.out (Nat.le_succ _)
      have G4 := Lib.hid hg4
      clear hg4
      go_wp2_with (first | (refine wpList_load_row rfl _ _ rfl (w.heap.size + 1 + 1) rfl 78 (tabE t).toArray (0, 0) _ HT.out Try.underlying78 rfl HN.out ?_))
      exact bodyPost_ret (results_cell_row (P := Try.prog) (p := 2) (ty := 78) rfl _ _ (w.heap.size + 1) 78 (tabE t).toArray (0, 0) _ rfl G4.out Try.underlying78 rfl HN.out) rfl ⟨⟨t, rfl, HO.out.hi 0 0 (Nat.le_refl 0) (Nat.zero_le _) (by omega)⟩, X4⟩
end Go.Proofs.Ytdhcknknmloopaa
