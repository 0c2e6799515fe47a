/- Numbers that come of a number when two neighbours are exchanged: the program. No conditions. -/
import Derived.Test.YtdhcknknmloopaaRep
namespace Go.Proofs.Ytdhcknknmloopaa
open Go.RowKit

theorem svB_inj {a b : UInt8} (ha : isg a.toNat = true) (hb : isg b.toNat = true) (h : svB a = svB b) : a = b := by
  have h1 := isg_bd ha
  have h2 := isg_bd hb
  unfold svB at h
  rw [if_neg (by omega), if_neg (by omega)] at h
  exact UInt8.toNat_inj.1 (by omega)
/-- A copy of a list of numbers, in memory of its own. -/
theorem clone_any (pv : Value) (ps : List Nat) (w : World) (h : Ps w pv ps) (h0 : 0 < ps.length) (hl : ps.length ≤ 1000) : Calls Try.prog 71 #[pv] w fun e w' => OwnP w w' e ps := by
  obtain ⟨a, cap, hv⟩ := h.at
  rw [hv] at h ⊢
  obtain ⟨b, off, rfl, hb, _⟩ := h.get 0 h0
  have hc : ∀ j, j < (ps.map Int.ofNat).length → w.cell? ⟨b, off + j, none⟩ = some (.int .i64 ((ps.map Int.ofNat).getD j 0)) := fun j hj => by
    rw [List.length_map] at hj
    obtain ⟨b', off', e, _, hc⟩ := h.get j hj
    injection e with e
    injection e with e1 e2
    subst e1; subst e2
    rw [hc, List.getD_eq_getElem?_getD, List.getElem?_map, List.getElem?_eq_getElem hj]
    rfl
  refine (Try.slices_Clone_int b off ps.length cap (ps.map Int.ofNat) w (by rw [List.length_map]; omega) (by omega) hc).mono ?_
  rintro e w' ⟨v', rfl, hown, _, hx⟩
  refine ⟨v', rfl, ?_, hx⟩
  unfold RowP pcs
  rw [List.take_of_length_le (by rw [List.length_map]; omega), List.map_map] at hown
  exact hown

set_option maxRecDepth 100000 in
set_option maxHeartbeats 1500000 in
theorem srI_any (m : Int) (v : Value) (zs : List Int) (s : ByteArray) (w : World) (h : IntsA w v zs) (hm : -9223372036854775808 ≤ m ∧ m ≤ 9223372036854775807) (hs : s.size ≤ maxLen) : Calls Try.prog 37 #[.agg #[.int .i64 m, v], .string s] w (ResS (srV m zs s) (isNum m zs s) w) := by
  obtain ⟨va, vc, hv⟩ := h.at
  rw [hv] at h ⊢
  clear hv
  have X0 := Lib.hid (show Ext w (w.alloc (.cells #[.int .i64 m, .slice va zs.length vc] 27)) from (Ext.refl w).alloc _)
  have HI := Lib.hid (h.ext X0.out)
  have HN := Lib.hid (isNumber_any m (.slice va zs.length vc) zs s _ HI.out hm hs)
  clear h
  cases hn : isNum m zs s
  · have HV := Lib.hid (srV_no hn)
    rw [hn] at HN
    clear hn
    go_enter Try.func37, Try.ntmps37
    go_wp2_with (fail)
    refine HN.out.mono ?_
    rintro e w1 ⟨rfl, x1⟩
    go_wp2
    go_ret2
    exact ⟨_, rfl, by rw [HV.out]; exact RowS.nil _ _, X0.out.trans x1⟩
  have HV := Lib.hid (srV_yes hn)
  have hlen := (isNum_parts hn).2.1
  have hb := isSch_bd (isNum_parts hn).1
  have hz1 : 1 ≤ zs.length := hb.l1
  have hz12 : zs.length ≤ 12 := hb.l2
  have HVAL := Lib.hid (fun w => valuesOf_any s w (isNum_sg hn) (by omega))
  have HCP := Lib.hid (fun w (h : IntsA w (.slice va zs.length vc) zs) => chkPlace_any m (.slice va zs.length vc) zs w h)
  rw [hn] at HN
  go_enter Try.func37, Try.ntmps37
  go_wp2_with (fail)
  refine HN.out.mono ?_
  rintro e w1 ⟨rfl, x1⟩
  have X1 := Lib.hid x1
  clear x1
  go_wp2_with (fail)
  refine (HVAL.out _).mono ?_
  rintro e w2 ⟨v1, rfl, r1, x2⟩
  have X2 := Lib.hid (X1.out.trans x2)
  have HPS := Lib.hid (RowP.ps r1 (by rw [vls_len]; unfold maxLen; omega))
  clear r1 x2
  obtain ⟨va1, vc1, hv1⟩ := HPS.out.at
  have HVL := Lib.hid (show (vls s).length = zs.length + 1 by rw [vls_len, hlen])
  rw [HVL.out] at hv1
  rw [hv1] at HPS ⊢
  have HLEN := Lib.hid hlen
  have hs1 : s.size ≤ zs.length + 1 := by omega
  have hs2 : zs.length + 1 ≤ s.size := by omega
  obtain ⟨b1, off1, hva, hb0, _⟩ := (HVL.out ▸ HPS.out : Ps w2 (.slice va1 (vls s).length vc1) (vls s)).get 0 (by rw [HVL.out]; omega)
  subst hva
  clear hv1 hlen
  go_wp2_with (fail)
  go_loopw [6, 8] (fun o i wr => ∃ j : Nat, j + 1 ≤ zs.length ∧ i = .int .i64 (j + 1 : Nat) ∧ RowS w2.heap.size wr o (rps m zs s j) ∧ ((rps m zs s j).length = 0 → o = .slice none 0 0) ∧ Ext w2 wr) (fun _ i _ => zs.length - (intOf i).toNat)
  case atStart => exact ⟨0, by omega, rfl, RowS.nil _ _, fun _ => rfl, Ext.refl _⟩
  case round =>
    obtain ⟨j, hj, rfl, hr, hnl, hx⟩ := hrel
    have HR := Lib.hid hr
    have HZ := Lib.hid hnl
    obtain ⟨d1, d2⟩ := sc_cells (X2.out.trans hx)
    clear hr hnl
    have hcl := rps_len m zs s j
    obtain ⟨k, hk⟩ : ∃ k, k = j + 1 := ⟨_, rfl⟩
    have HK := Lib.hid hk
    rw [← hk]
    have k1 : j + 1 ≤ k := by omega
    have k2 : k ≤ j + 1 := by omega
    clear hk
    go_wp2_with (fail)
    refine (HCP.out _ (HI.out.ext (X2.out.trans hx))).mono ?_
    rintro e w3 ⟨rfl, x3⟩
    have hx3 := hx.trans x3
    by_cases hlt : k < zs.length
    · go_wp2_with (fail)
      refine (clone_any _ (vls s) _ (HPS.out.ext hx3) (by rw [HVL.out]; omega) (by rw [HVL.out]; omega)).mono ?_
      rintro e w4 ⟨v4, rfl, r4, x4⟩
      have X4 := Lib.hid (hx3.trans x4)
      obtain ⟨b6, off6, hva6, _, e1⟩ := ((HVL.out ▸ HPS.out : Ps w2 (.slice (some ⟨b1, off1, none⟩) (vls s).length vc1) (vls s)).ext X4.out).get j (by rw [HVL.out]; omega)
      obtain ⟨b7, off7, hva7, _, e2⟩ := ((HVL.out ▸ HPS.out : Ps w2 (.slice (some ⟨b1, off1, none⟩) (vls s).length vc1) (vls s)).ext X4.out).get k (by rw [HVL.out]; omega)
      injection hva6 with hva6
      injection hva6 with q1 q2
      subst q1; subst q2
      injection hva7 with hva7
      injection hva7 with q1 q2
      subst q1; subst q2
      obtain ⟨a4, c4, hv4⟩ := r4.shape
      rw [HVL.out] at hv4
      have R4 := Lib.hid r4
      rw [hv4] at R4 ⊢
      obtain ⟨g4, ha4, hg4, hg4l, f1, f2⟩ := (HVL.out ▸ R4.out : RowP w3.heap.size w4 (.slice a4 (vls s).length c4) (vls s)).at j (by rw [HVL.out]; omega)
      obtain ⟨g5, ha5, _, _, f3, f4⟩ := (HVL.out ▸ R4.out : RowP w3.heap.size w4 (.slice a4 (vls s).length c4) (vls s)).at k (by rw [HVL.out]; omega)
      rw [ha4] at ha5
      injection ha5 with ha5
      injection ha5 with ha5
      subst ha5
      subst ha4
      have hgs := hx3.size
      have hne1 : ¬ g4 = b1 := by omega
      have hne2 : ¬ b1 = g4 := by omega
      have hjk : ¬ j = k := by omega
      have hkj : ¬ k = j := by omega
      have W1 : IntKind.i64.wrap ((k : Int) - 1) = ((j : Nat) : Int) := by simp only [IntKind.wrap_i64]; omega
      have W2 : (k : Int) - 1 = ((j : Nat) : Int) := by omega
      obtain ⟨xj, hxj⟩ : ∃ x, x = (vls s)[j]'(by rw [HVL.out]; omega) := ⟨_, rfl⟩
      obtain ⟨xk, hxk⟩ : ∃ x, x = (vls s)[k]'(by rw [HVL.out]; omega) := ⟨_, rfl⟩
      rw [← hxj] at e1 f1
      rw [← hxk] at e2 f3
      have e5 : xj = svB (sg s j) := by rw [hxj, vls_at s j (by omega), sg_at s j (by omega)]
      have e6 : xk = svB (sg s k) := by rw [hxk, vls_at s k (by omega), sg_at s k (by omega)]
      have H5 := Lib.hid (show RowP w3.heap.size ((w4.setCell ⟨g4, j, none⟩ (.int .i64 (xk : Int))).setCell ⟨g4, k, none⟩ (.int .i64 (xj : Int))) (.slice (some ⟨g4, 0, none⟩) (zs.length + 1) c4) (vls (swp s j)) ∧ Ext w2 ((w4.setCell ⟨g4, j, none⟩ (.int .i64 (xk : Int))).setCell ⟨g4, k, none⟩ (.int .i64 (xj : Int))) from by
        constructor
        · have h1 := R4.out
          unfold RowP at h1 ⊢
          rw [HVL.out] at h1
          have h2 := ((h1.stored j (.int .i64 (xk : Int))).1.stored k (.int .i64 (xj : Int))).1
          have e7 : vls (swp s j) = ((vls s).set j xk).set k xj := by rw [vls_swp (by omega), e5, e6, HK.out]
          have e8 : (vls (swp s j)).length = zs.length + 1 := by rw [e7, List.length_set, List.length_set, HVL.out]
          have e9 : pcs (vls (swp s j)) = ((pcs (vls s)).set j (.int .i64 (xk : Int))).set k (.int .i64 (xj : Int)) := by rw [e7]; unfold pcs; rw [List.map_set, List.map_set]
          rw [e8, e9]
          exact h2
        · exact (X4.out.setCell (p := ⟨g4, j, none⟩) (by show w2.heap.size ≤ g4; omega) _).setCell (p := ⟨g4, k, none⟩) (by show w2.heap.size ≤ g4; omega) _)
      have R34 := Lib.hid (show RowS w2.heap.size ((w4.setCell ⟨g4, j, none⟩ (.int .i64 (xk : Int))).setCell ⟨g4, k, none⟩ (.int .i64 (xj : Int))) u6 (rps m zs s j) from by
        have h1 := (HR.out.ext x3)
        have hne : u6.ownBlock = none ∨ u6.ownBlock ≠ some g4 := by
          cases eb : u6.ownBlock with
          | none => exact .inl rfl
          | some q =>
            refine .inr fun e => ?_
            injection e with e
            have := (World.ownsRow.lt h1 q eb).2
            omega
        have g1 : ∀ (wq : World) (i : Nat) (u : Value), wq.grownBy (wq.setCell ⟨g4, i, none⟩ u) (some g4) := fun wq i u => ⟨rfl, rfl, rfl, by simp [World.setCell], fun k _ hk => Below.heap_setCell _ _ _ _ (by intro e; exact hk (by rw [e]))⟩
        exact RowS.kept (RowS.kept (h1.ext x4) (g1 _ _ _) hne) (g1 _ _ _) hne)
      have E5 := Lib.hid e5
      have E6 := Lib.hid e6
      clear hv4 hxj hxk r4 x4 e5 e6
      go_wp2_with (fail)
      go_region
      obtain ⟨w5, hw5⟩ : ∃ w5, w5 = ((w4.setCell ⟨g4, j, none⟩ (.int .i64 (xk : Int))).setCell ⟨g4, k, none⟩ (.int .i64 (xj : Int))).drew := ⟨_, rfl⟩
      rw [← hw5]
      have R5 := Lib.hid (show RowP w3.heap.size w5 (.slice (some ⟨g4, 0, none⟩) (zs.length + 1) c4) (vls (swp s j)) by rw [hw5]; exact RowP.ext H5.out.1 (ext_drewN (Ext.refl _) 1))
      have X5 := Lib.hid (show Ext w2 w5 by rw [hw5]; exact ext_drewN H5.out.2 1)
      obtain ⟨b6, off6, hva6, _, u1⟩ := ((HVL.out ▸ HPS.out : Ps w2 (.slice (some ⟨b1, off1, none⟩) (vls s).length vc1) (vls s)).ext X5.out).get j (by rw [HVL.out]; omega)
      obtain ⟨b7, off7, hva7, _, u2⟩ := ((HVL.out ▸ HPS.out : Ps w2 (.slice (some ⟨b1, off1, none⟩) (vls s).length vc1) (vls s)).ext X5.out).get k (by rw [HVL.out]; omega)
      injection hva6 with hva6
      injection hva6 with q1 q2
      subst q1; subst q2
      injection hva7 with hva7
      injection hva7 with q1 q2
      subst q1; subst q2
      rw [vls_at s j (by omega), sg_at s j (by omega)] at u1
      rw [vls_at s k (by omega), sg_at s k (by omega)] at u2
      obtain ⟨d3, d4⟩ := sc_cells (X2.out.trans X5.out)
      have R35 := Lib.hid (show RowS w2.heap.size w5 u6 (rps m zs s j) by rw [hw5]; exact RowS.ext R34.out (ext_drewN (Ext.refl _) 1))
      clear hw5 H5 X4 R4 e1 e2 f1 f2 f3 f4 hne1 hne2
      have HSWP := Lib.hid (num_swp hn (show j + 1 < zs.length by omega))
      have HIJ := Lib.hid (show isg (sg s j).toNat = true ∧ isg (sg s k).toNat = true from by
        obtain ⟨p1, p2⟩ := isNum_dg hn j (by omega)
        obtain ⟨p3, p4⟩ := isNum_dg hn k (by omega)
        rw [sg_at s j p1] at p2
        rw [sg_at s k p3] at p4
        exact ⟨p2, p4⟩)
      by_cases he : svB (sg s j) = svB (sg s k)
      · have HN2 := Lib.hid (rps_eq (m := m) (zs := zs) (s := s) (j := j) (by rw [← HK.out]; exact svB_inj HIJ.out.1 HIJ.out.2 he))
        have he2 : (((svB (sg s j) : Nat) : Int) != ((svB (sg s k) : Nat) : Int)) = false := by rw [he]; simp
        go_wp2_with (fail)
        go_quiet (fail)
        go_wp2
        exact ⟨⟨k, by omega, by go_num, by rw [HK.out, HN2.out]; exact R35.out.ext (ext_drewN (Ext.refl _) _), by rw [HK.out, HN2.out]; exact HZ.out, ext_drewN X5.out _⟩, by simp [intOf]; omega⟩
      · have HNE := Lib.hid (show ¬ sg s j = sg s (j + 1) from fun e => he (by rw [HK.out, e]))
        have he2 : (((svB (sg s j) : Nat) : Int) != ((svB (sg s k) : Nat) : Int)) = true := bne_iff_ne.2 (by omega)
        have HRT := Lib.hid (fun w' (x : Ext w5 w') => isRightM_any m (.slice va zs.length vc) zs (.slice (some ⟨g4, 0, none⟩) (zs.length + 1) c4) (vls (swp s j)) w' (HI.out.ext ((X2.out.trans X5.out).trans x)) hb (RowP.ps (R5.out.ext x) (by rw [vls_len, swp_size (by omega)]; unfold maxLen; omega)) (vls_le HSWP.out) (by rw [vls_len, swp_size (by omega)]; omega))
        rw [sumN_len HSWP.out, show decide (sumN zs (swp s j) % m = 0) = rb m zs (swp s j) from rfl] at HRT
        have n1 : (0 : Int) ≤ (j : Int) := by omega
        have n2 : (j : Int) < (zs.length : Int) + 1 := by omega
        have n3 : (k : Int) < (zs.length : Int) + 1 := by omega
        have n4 : j < zs.length + 1 := by omega
        have n5 : k < zs.length + 1 := by omega
        have W3 : IntKind.i64.wrap ((j : Nat) : Int) = ((j : Nat) : Int) := by simp only [IntKind.wrap_i64]; omega
        clear W2
        cases hrb : rb m zs (swp s j)
        · have HN2 := Lib.hid (rps_no HNE.out hrb)
          rw [hrb] at HRT
          clear hrb
          go_wp2_with (fail)
          go_region_with (go_at_call 53; refine (HRT.out _ (ext_drewN (Ext.refl _) _)).mono ?_; rintro e w6 ⟨rfl, x6⟩)
          all_goals go_wp2
          all_goals exact ⟨⟨k, by omega, by go_num, by rw [HK.out, HN2.out]; exact R35.out.ext ((ext_drewN (Ext.refl _) _).trans x6), by rw [HK.out, HN2.out]; exact HZ.out, (ext_drewN X5.out _).trans x6⟩, by simp [intOf]; omega⟩
        · have HN2 := Lib.hid (rps_yes HNE.out hrb)
          have HNT := Lib.hid (fun w' (x : Ext w5 w') => numText_any (.slice (some ⟨g4, 0, none⟩) (zs.length + 1) c4) (vls (swp s j)) w' (RowP.ps (R5.out.ext x) (by rw [vls_len, swp_size (by omega)]; unfold maxLen; omega)) (vls_le HSWP.out) (by rw [vls_len, swp_size (by omega)]; omega))
          rw [nT_vls (isNum_sg HSWP.out)] at HNT
          rw [hrb] at HRT
          have HNZ := Lib.hid (show ¬ (rps m zs s (j + 1)).length = 0 by rw [HN2.out, List.length_append]; simp)
          clear hrb
          go_wp2_with (fail)
          go_region_with (go_at_call 53; refine (HRT.out _ (ext_drewN (Ext.refl _) _)).mono ?_; rintro e w6 ⟨rfl, x6⟩; have y6 := (ext_drewN (Ext.refl _) _).trans x6)
          all_goals go_wp2_with (fail)
          all_goals refine (HNT.out _ y6).mono ?_
          all_goals rintro e w7 ⟨rfl, x7⟩
          all_goals have R37 := Lib.hid (RowS.ext R35.out (y6.trans x7))
          all_goals have X7 := Lib.hid (X5.out.trans (y6.trans x7))
          all_goals go_wp2_with (at_builtin; refine app_str rfl _ _ rfl w2 w2.heap.size w7 u6 (rps m zs s j) (swp s j) rfl R37.out X7.out (Nat.le_refl _) X7.out.size (by omega) (by rfl) ?_; intro v8 w8 r8 x8 _; have R8 := Lib.hid r8; clear r8)
          all_goals go_wp2
          all_goals exact ⟨⟨k, by omega, by go_num, by rw [HK.out, HN2.out]; exact R8.out, fun h => absurd (by rw [← HK.out]; exact h) HNZ.out, x8⟩, by simp [intOf]; omega⟩
    · have HE := Lib.hid (show srV m zs s = putAll (rps m zs s j) by rw [HV.out, show zs.length - 1 = j by omega])
      by_cases h0 : (rps m zs s j).length = 0
      · obtain rfl := HZ.out h0
        have HE2 := Lib.hid (show putAll (rps m zs s j) = [] by rw [List.length_eq_zero_iff.1 h0]; rfl)
        go_wp2_with (fail)
        refine (once_zero none 0 _).mono ?_
        rintro e w5 ⟨rfl, rfl⟩
        go_wp2
        go_ret2
        exact ⟨_, rfl, by rw [HE.out, HE2.out]; exact RowS.nil _ _, (X0.out.trans X2.out).trans hx3⟩
      · have R3 := HR.out.ext x3
        obtain ⟨a6, c6, hv6⟩ := R3.shape
        rw [hv6] at R3 ⊢
        obtain ⟨g6, ha6, hg6, _⟩ := R3.at 0 (by omega)
        subst ha6
        clear hv6
        go_wp2_with (fail)
        refine (once_any w2.heap.size g6 _ c6 (rps m zs s j) _ rfl (by omega) R3).mono ?_
        rintro e w5 ⟨v5, rfl, r5, x5⟩
        have X5 := x5 w ((X0.out.trans X2.out).trans hx3) (by have := (X0.out.trans X2.out).size; omega)
        go_wp2
        go_ret2
        exact ⟨_, rfl, by rw [HE.out]; exact r5.down (X0.out.trans X2.out).size, X5⟩
end Go.Proofs.Ytdhcknknmloopaa
