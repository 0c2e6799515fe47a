/- The number of a rank: the program's side. No conditions. -/
import Derived.Test.YtmpajijnpoekgacNum
namespace Go.Proofs.Ytmpajijnpoekgac
open Go.RowKit

set_option maxRecDepth 100000 in
set_option maxHeartbeats 1000000 in
theorem nuI_any (s t : ByteArray) (n r : Int) (w : World) (hs : s.size ≤ maxLen) (ht : t.size ≤ maxLen) : Calls Try.prog 38 #[.string s, .string t, .int .i64 n, .int .i64 r] w fun e w' => e = .returned (.tuple #[.string (nuV s t n r), .bool (nuOk s t n r)]) ∧ Ext w w' := by
  cases h : cnOk s t n
  · have HO := Lib.hid (nuOk_c (r := r) h)
    have HV := Lib.hid (nu_no HO.out)
    go_enter Try.func38, Try.ntmps38
    go_wp2_with (go_at_call 30; refine (cnI_any _ _ _ _ hs ht).mono ?_; rintro e w1 ⟨rfl, x1⟩; rw [h])
    go_ret2
    exact ⟨ret_sBn HV.out.symm HO.out.symm, x1⟩
  by_cases hr0 : r < 0
  · have HO := Lib.hid (nuOk_l (s := s) (t := t) (n := n) hr0)
    have HV := Lib.hid (nu_no HO.out)
    go_enter Try.func38, Try.ntmps38
    go_wp2_with (go_at_call 30; refine (cnI_any _ _ _ _ hs ht).mono ?_; rintro e w1 ⟨rfl, x1⟩; rw [h])
    go_ret2
    exact ⟨ret_sBn HV.out.symm HO.out.symm, x1⟩
  by_cases hr1 : r < cnV s t n
  rotate_left
  · have HO := Lib.hid (nuOk_h hr1)
    have HV := Lib.hid (nu_no HO.out)
    have hge : r ≥ cnV s t n := by omega
    go_enter Try.func38, Try.ntmps38
    go_wp2_with (go_at_call 30; refine (cnI_any _ _ _ _ hs ht).mono ?_; rintro e w1 ⟨rfl, x1⟩; rw [h])
    go_ret2
    exact ⟨ret_sBn HV.out.symm HO.out.symm, x1⟩
  obtain ⟨i0, hi, hzz0, hzs, hzb⟩ := info_parts info_intP
  have HI := Lib.hid (show Try.prog.info? 3 = some i0 ∧ i0.zero = some (.int .i64 0) ∧ i0.size = 1 ∧ i0.bytes = 8 from ⟨hi, hzz0, hzs, hzb⟩)
  clear hi hzz0 hzs hzb
  have HO := Lib.hid (nuOk_y h (by omega : 0 ≤ r) hr1)
  obtain ⟨p, m, b0, rfl, hp, hnm, hm, rfl, hwk, hz1, hd, hb0, hV⟩ := nu_parts h (by omega) hr1
  have HV := Lib.hid hV
  have HWK := Lib.hid hwk
  have HDO := Lib.hid (dgs_one hz1)
  have HB0 := Lib.hid hb0
  have HH := Lib.hid h
  clear hV hwk hb0 h
  obtain ⟨cv, hcv⟩ : ∃ cv, cv = cnV (pcT p) t n := ⟨_, rfl⟩
  have HCN := Lib.hid (show ∀ w, Calls Try.prog 30 #[.string (pcT p), .string t, .int .i64 n] w fun e w' => e = .returned (.tuple #[.int .i64 cv, .bool true]) ∧ Ext w w' from fun w => by rw [hcv, ← HH.out]; exact cnI_any _ _ _ _ hs ht)
  rw [← hcv] at hr1
  clear hcv
  have hnge : ¬ (b0 : Int) ≥ cv := by omega
  have W1 : IntKind.i64.wrap (n - 1) = (m : Int) := by simp only [IntKind.wrap_i64]; omega
  have W2 : IntKind.i64.wrap (n - 2) = (m : Int) - 1 := by simp only [IntKind.wrap_i64]; omega
  have W3 : IntKind.i64.wrap (m : Int) = (m : Int) := by simp only [IntKind.wrap_i64]; omega
  have C1 : n - 1 = (m : Int) := by omega
  have C2 : n - 2 = (m : Int) - 1 := by omega
  clear hnm
  go_enter Try.func38, Try.ntmps38
  go_wp2_with (go_at_call 30; refine (HCN.out _).mono ?_; rintro e w1 ⟨rfl, x1⟩)
  refine (movesOf_any p _ hp).mono ?_
  rintro e w2 ⟨vs, rfl, hvs, x2⟩
  obtain ⟨VA, hVA⟩ : ∃ VA, VA = vs.toArray := ⟨_, rfl⟩
  rw [← hVA]
  obtain ⟨W3w, st3, G3, X3, Y3⟩ := newMv w w2 vs hvs.1 hvs.one VA hVA (x1.trans x2)
  have hVAs : VA.size = 10 := by rw [hVA, List.size_toArray, hvs.1]
  have HMV := Lib.hid (hvs.ext Y3)
  have HNV := Lib.hid (show (Try.prog.info? 49).map (·.size) = some VA.size by rw [hVAs]; kernel_rfl)
  have HVA := Lib.hid hVA
  clear hvs hVA
  go_wp2
  obtain ⟨C, hC⟩ : ∃ C, C = w2.heap.size := ⟨_, rfl⟩
  rw [← hC] at G3 ⊢
  clear hC hVAs st3
  have HG3 := Lib.hid G3
  clear G3
  have HRG := Lib.hid (fun (w' : World) (hx' : Ext W3w w') => show w'.rangeAt C 0 vs ∧ Ext W3w w' from ⟨fun j v hv => by
    have hg := (hx'.block C (heapLt HG3.out)).trans HG3.out
    rw [cell_of_row w' C _ _ _ _ hg, Nat.zero_add, HVA.out, List.getElem?_toArray]
    exact hv, hx'⟩)
  have HAE := Lib.hid (fun w => anyEnd_any w)
  have HWY := Lib.hid (fun (w : World) (hx : Ext W3w w) => waysOn_any p (eF 0) vs _ m w (HMV.out.ext hx) (eF_le 0) (by omega))
  obtain ⟨EA, hEA⟩ : ∃ EA, EA = (rowI (eF 0)).toArray := ⟨_, rfl⟩
  rw [← hEA] at HAE HWY
  clear hEA
  have hu44 := Try.underlying49
  have hi44 : (Try.prog.info? 49).map (·.size) = some vs.length := by rw [HMV.out.1]; kernel_rfl
  go_region_held3 (fun w' => w'.rangeAt C 0 vs ∧ Ext W3w w') (first | exact HRG.out _ (Ext.refl _).drew | exact HRG.out _ (Ext.trans (And.right (by assumption)) x5) | exact HRG.out _ (Ext.trans (And.right (by assumption)) x6)) (first | (go_at_call 67; refine (HAE.out _).mono ?_; rintro e w5 ⟨rfl, x5⟩) | (go_at_call 60; refine (HWY.out _ (And.right (by assumption))).mono ?_; rintro e w6 ⟨v, rfl, hv, x6⟩))
  rename_i hHeld
  have hE : Ext W3w w6 := And.right hHeld
  clear hHeld x5 x6 hu44 hi44 W1 W3 C1
  obtain ⟨g, cap, rfl, _, _⟩ := hv.shape (by omega)
  have X6 : Ext w w6 := X3.trans hE
  have HWC := Lib.hid (fun (m1 o : Nat) (hm1 : m1 < m + 1) (ho : o < 10) (w' : World) (hx' : Ext w6 w') => (hv.ext hx').at m1 o hm1 ho)
  have HMC := Lib.hid (fun (a : Nat) (ha : a < 10) (w' : World) (hx' : Ext w6 w') => show w'.cell? ⟨C, a, none⟩ = some (vs.getD a nil1) from by
    have hg := ((hE.trans hx').block C (heapLt HG3.out)).trans HG3.out
    rw [cell_of_row w' C _ _ _ _ hg, HVA.out, List.getElem?_toArray, List.getD_eq_getElem?_getD, List.getElem?_eq_getElem (by rw [HMV.out.1]; exact ha)]
    rfl)
  have HMP := Lib.hid (fun (a : Nat) (ha : a < 10) (w' : World) (hx' : Ext w6 w') => show Ps w' (vs.getD a nil1) (nx p a) from (((HMV.out.ext (hE.trans hx')).2 a ha).ps (by have := nx_len p a; unfold maxLen; omega)))
  clear hv
  go_wp2_with fail
  refine (digitsOf_any t _ HWK.out).mono ?_
  rintro e w7 ⟨vd, rfl, hvd, x7⟩
  rw [HDO.out] at hvd
  obtain ⟨d0, hd0⟩ : ∃ d0, d0 = dg1 t := ⟨_, rfl⟩
  rw [← hd0] at hd hvd HV HB0
  clear hd0
  have HVD := Lib.hid hvd
  clear hvd
  obtain ⟨F, hF⟩ : ∃ F, F = d0 :: nor p m d0 b0 := ⟨_, rfl⟩
  rw [← hF] at HV
  have HF := Lib.hid hF
  clear hF
  obtain ⟨z0, hz0⟩ : ∃ z0, z0 = (m : Int) - 1 := ⟨_, rfl⟩
  rw [← hz0] at W2 C2
  have HZ0 := Lib.hid hz0
  clear hz0
  go_wp2
  clear W2 C2
  have hgC : g < w6.heap.size := by assumption
  go_loopw [14, 15, 16] (fun v bq lq wr => ∃ (tt a b : Nat) (pre : List Nat), tt ≤ m ∧ lq = .int .i64 ((tt : Int) - 1) ∧ bq = .int .i64 b ∧ RowP w6.heap.size wr v (pre ++ [a]) ∧ pre.length + tt = m ∧ (∀ q ∈ pre ++ [a], q < 10) ∧ b < wyF p (eF 0) tt a ∧ (pre ++ [a]) ++ nor p tt a b = F ∧ Ext w6 wr) (fun _ _ q _ => (intOf q + 1).toNat)
  case atStart => exact ⟨m, d0, b0, [], Nat.le_refl _, by rw [HZ0.out, show wrap64 ((m : Int) - 1) = (m : Int) - 1 by unfold wrap64; omega], rfl, HVD.out, by simp, by simpa using hd, HB0.out, by rw [HF.out]; rfl, x7⟩
  case round =>
    obtain ⟨tt, a, b, pre, htm, rfl, rfl, hrow, hlen, hq10, hb, hfull, hx⟩ := hrel
    have HROW := Lib.hid hrow
    have HFU := Lib.hid hfull
    have HQ := Lib.hid hq10
    clear hfull hq10
    obtain ⟨av, cpn, hv⟩ := hrow.shape
    subst hv
    have hl1 : (pre ++ [a]).length = pre.length + 1 := by simp
    rw [hl1] at hrow ⊢
    by_cases h0 : tt = 0
    · subst h0
      have HPS := Lib.hid (HROW.out.ps (by unfold maxLen; rw [hl1]; omega))
      rw [hl1] at HPS
      clear hrow
      have HL := Lib.hid hl1
      clear hl1
      go_wp2_with fail
      refine (digitsText_any _ (pre ++ [a]) _ HPS.out (fun q hq => HQ.out q hq) (by rw [HL.out]; omega)).mono ?_
      rintro e w8 ⟨rfl, x8⟩
      have HFE := Lib.hid (show dT (pre ++ [a]) = nuV (pcT p) t n (b0 : Int) by rw [HV.out, ← HFU.out]; show dT (pre ++ [a]) = dT (pre ++ [a] ++ []); rw [List.append_nil])
      go_wp2
      go_ret2
      exact ⟨ret_sBn (by first | exact HFE.out | (rw [HV.out, ← HFU.out]; simp [nor])) HO.out.symm, (X6.trans hx).trans x8⟩
    · obtain ⟨u, rfl⟩ : ∃ u, tt = u + 1 := ⟨tt - 1, by omega⟩
      obtain ⟨ds, hds, x, hxl, hS1, hS2, hnor, hle⟩ := nor_step hb
      have hu : u < m + 1 := by omega
      have ha10 : a < 10 := HQ.out a (by simp)
      have cm := HMC.out a ha10 wr hx
      have HN := Lib.hid (HMP.out a ha10 wr hx)
      have HXN := Lib.hid (fun q (hq : q ∈ nx p a) => nx_lt hq)
      have hnl := nx_len p a
      rw [← hds] at HN HXN hnl
      obtain ⟨v2, hv2⟩ : ∃ v2, v2 = vs.getD a nil1 := ⟨_, rfl⟩
      rw [← hv2] at cm HN
      have HB1 := Lib.hid hb
      clear hv2 hds hb
      obtain ⟨ua, uc, hus⟩ := HN.out.at
      subst hus
      obtain ⟨gn, hgn, hgn1, hgn2, hcn, _⟩ := HROW.out.at pre.length (by rw [hl1]; omega)
      subst hgn
      have hcn2 : wr.cell? ⟨gn, pre.length, none⟩ = some (.int .i64 (a : Int)) := by rw [hcn]; simp
      have HNOR := Lib.hid hnor
      have HLE := Lib.hid hle
      have HS1 := Lib.hid hS1
      have HS2 := Lib.hid hS2
      have HL := Lib.hid hl1
      clear hnor hle hS1 hS2 hcn hrow hl1
      obtain ⟨z, hz⟩ : ∃ z : Int, z = ((u + 1 : Nat) : Int) - 1 := ⟨_, rfl⟩
      have hzu : z = (u : Int) := by omega
      rw [← hz]
      clear hz
      subst hzu
      have hge : (u : Int) ≥ 0 := by omega
      have Wl : IntKind.i64.wrap ((pre.length : Int) + 1 - 1) = (pre.length : Int) := by simp only [IntKind.wrap_i64]; omega
      have Wl2 : wrap64 ((pre.length : Int) + 1 - 1) = (pre.length : Int) := by unfold wrap64; omega
      have Cl : (pre.length : Int) + 1 - 1 = (pre.length : Int) := by omega
      have hll : (pre.length : Int) < (pre.length : Int) + 1 := by omega
      have hai : (a : Int) < 10 := by omega
      obtain ⟨wo, rfl⟩ : ∃ wo, wo = wr := ⟨_, rfl⟩
      go_wp2
      clear Wl Wl2 Cl hll hcn2 cm hai hge
      have hsz6 : w6.heap.size ≤ wo.heap.size := hx.size
      have HR9 := Lib.hid (fun (w' : World) (hx' : Ext wo w') => show w'.ownsRow w6.heap.size 3 1 (.slice (some ⟨gn, 0, none⟩) (pre.length + 1) cpn) (pre.length + 1) (pcs (pre ++ [a])) from by
        have h9 := HROW.out.ext hx'
        unfold RowP at h9
        rw [HL.out] at h9
        exact h9)
      go_loopw [14, 15, 62] (fun v bq q wz => ∃ j : Nat, j ≤ x ∧ v = .slice (some ⟨gn, 0, none⟩) (pre.length + 1) cpn ∧ q = .int .i64 j ∧ bq = .int .i64 ((b - sumL (wyF p (eF 0) u) (ds.take j) : Nat) : Int) ∧ Ext wo wz) (fun _ _ q _ => ds.length - (intOf q).toNat)
      case atStart => exact ⟨0, Nat.zero_le _, rfl, rfl, rfl, by first | exact Ext.refl _ | exact ext_drewN (Ext.refl _) _⟩
      case round =>
        obtain ⟨j, hj, rfl, rfl, rfl, hx2⟩ := hrel
        have hjl : j < ds.length := by omega
        have hji : (j : Int) < (ds.length : Int) := by omega
        obtain ⟨bk, off, hab, hbk, hcell⟩ := (HN.out.ext hx2).get j hjl
        have hq10 := HXN.out ds[j] (List.getElem_mem hjl)
        have cW := HWC.out u ds[j] hu hq10 wr (hx.trans hx2)
        by_cases hlt3 : j < x
        · have hle := HLE.out j hlt3
          have hsu := sumL_take (wyF p (eF 0) u) ds j hjl
          obtain ⟨d, hd⟩ : ∃ d, d = ds[j] := ⟨_, rfl⟩
          rw [← hd] at hcell hq10 hsu cW hle
          obtain ⟨V, hV⟩ : ∃ V, V = wyF p (eF 0) u d := ⟨_, rfl⟩
          rw [← hV] at hsu cW hle
          obtain ⟨bb, hbb⟩ : ∃ bb, bb = b - sumL (wyF p (eF 0) u) (ds.take j) := ⟨_, rfl⟩
          have HSS := Lib.hid (show ((b - sumL (wyF p (eF 0) u) (ds.take (j + 1)) : Nat) : Int) = (bb : Int) - (V : Int) by rw [hsu, hbb]; omega)
          have hnl : ¬ (bb : Int) < (V : Int) := by omega
          have hbbM : bb ≤ 1000000000000001 := by have := wyF_le p (eF 0) (eF_le 0) (u + 1) a; unfold most1 at this; have := HB1.out; omega
          have hadd : IntKind.i64.wrap ((bb : Int) - (V : Int)) = (bb : Int) - (V : Int) := by simp only [IntKind.wrap_i64]; omega
          rw [← hbb]
          have hdi : (d : Int) < 10 := by omega
          have hmi : (u : Int) < (m : Int) + 1 := by omega
          have hu0 : (0 : Int) ≤ (u : Int) := by omega
          subst hab
          clear hd hV hbb hsu hle hbk hbbM
          go_wp2
          go_roundw
          case rel => exact ⟨j + 1, by omega, rfl, by go_num, by rw [HSS.out], by first | exact hx2 | exact ext_drewN hx2 _⟩
          case measure => simp [intOf] <;> omega
        · obtain rfl : j = x := by omega
          have hs2 := HS2.out
          obtain ⟨d, hd⟩ : ∃ d, d = ds[j] := ⟨_, rfl⟩
          have HNR := Lib.hid (show (pre ++ [a] ++ [d]) ++ nor p u d (b - sumL (wyF p (eF 0) u) (ds.take j)) = F by rw [hd, ← HFU.out, HNOR.out]; simp)
          rw [← hd] at hcell hq10 cW hs2
          obtain ⟨bb, hbb⟩ : ∃ bb, bb = b - sumL (wyF p (eF 0) u) (ds.take j) := ⟨_, rfl⟩
          rw [← hbb] at hs2 HNR ⊢
          have HS9 := Lib.hid hs2
          obtain ⟨V, hV⟩ : ∃ V, V = wyF p (eF 0) u d := ⟨_, rfl⟩
          rw [← hV] at hs2 cW
          have hbl : (bb : Int) < (V : Int) := by omega
          have hdi : (d : Int) < 10 := by omega
          have hmi : (u : Int) < (m : Int) + 1 := by omega
          have hu0 : (0 : Int) ≤ (u : Int) := by omega
          have hsr : wo.heap.size ≤ wr.heap.size := hx2.size
          subst hab
          clear hd hV hbb hs2 hbk
          have hsw : w6.heap.size ≤ wr.heap.size := by omega
          have Xal : Ext w6 (wr.alloc (.cells #[.int .i64 (d : Int)] 3)) := (hx.trans hx2).alloc _
          have hpl : pre.length ≤ 40 := by omega
          go_wp2_with (at_builtin; refine wpList_append_own _ rfl _ _ 25 rfl w6.heap.size 3 i0 (.int .i64 0) 1 8 Try.underlying25 HI.out.1 HI.out.2.1 HI.out.2.2.1 HI.out.2.2.2 rfl (by decide) (.slice (some ⟨gn, 0, none⟩) (pre.length + 1) cpn) (pre.length + 1) (pcs (pre ++ [a])) rfl (World.ownsRow.alloc (HR9.out _ hx2) _) ⟨_, 0, none⟩ 1 1 [.int .i64 (d : Int)] rfl rfl (cell_one_new _ _ _) (oneIM _) (by unfold maxLen; omega) (by omega) (by simp; omega) ?_; intro v5 w5 own5 gr5 _; have R5 := Lib.hid (show RowP w6.heap.size w5 v5 ((pre ++ [a]) ++ [d]) by unfold RowP; rw [List.length_append, HL.out, pcs_snoc]; exact own5); have X5 : Ext w6 w5 := ext_grown Xal gr5 (fun j hj => by have := (World.ownsRow.lt (HR9.out wr hx2) j hj).1; omega); clear own5 gr5)
          go_roundw
          case rel => exact ⟨u, d, bb, pre ++ [a], by omega, by go_num, rfl, R5.out, by rw [HL.out]; omega, fun q hq => by rcases List.mem_append.1 hq with h1 | h1; exact HQ.out q h1; (simp at h1; rw [h1]; exact hq10), HS9.out, HNR.out, X5⟩
          case measure => simp [intOf] <;> omega
end Go.Proofs.Ytmpajijnpoekgac
