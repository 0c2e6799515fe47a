/- SchemeText, the program's. No conditions. -/
import Derived.Test.YthooedmlnonadaaDoorSct
namespace Go.Proofs.YthooedmlnonadaaDoor
open Go.RowKit

/-! ### The program's -/
set_option maxRecDepth 100000 in
set_option maxHeartbeats 2000000 in
theorem stI_any (m : Int) (v : Value) (zs : List Int) (w : World) (h : IntsA w v zs) (hm : -9223372036854775808 ≤ m ∧ m ≤ 9223372036854775807) : Calls Tryd.prog 14 #[.agg #[.int .i64 m, v]] w fun e w' => e = .returned (.tuple #[.string (stV m zs), .bool (isSch m zs)]) ∧ Ext w w' := by
  have H := Lib.hid h
  have HM := Lib.hid hm
  obtain ⟨a, cap, hv⟩ := h.at
  rw [hv] at H ⊢
  clear h hm hv v
  have X0 := Lib.hid (show Ext w (w.alloc (.cells #[.int .i64 m, .slice a zs.length cap] 34)) from (Ext.refl w).alloc _)
  cases h1 : isSch m zs
  · have HV := Lib.hid (stV_no h1)
    go_enter Tryd.func14, Tryd.ntmps14
    go_wp2_with (go_at_call 29; refine (isSch_any m _ zs _ (H.out.ext X0.out) HM.out).mono ?_; rintro e w1 ⟨rfl, x1⟩; rw [h1])
    go_ret2
    exact ⟨ret_sb HV.out.symm rfl, X0.out.trans x1⟩
  have HB := Lib.hid (isSch_bd h1)
  have HV := Lib.hid (stV_yes h1)
  have hm1 := HB.out.m1
  have hm2 := HB.out.m2
  have hl2 := HB.out.l2
  have hl1 := HB.out.l1
  obtain ⟨n, rfl⟩ : ∃ n : Nat, m = n := ⟨m.toNat, by omega⟩
  have HG := Lib.hid h1
  obtain ⟨i0, hi, hz0, hzs, hzb⟩ := info_parts info_strC
  have HI := Lib.hid (show Tryd.prog.info? 9 = some i0 ∧ i0.zero = some (.string ⟨#[]⟩) ∧ i0.size = 1 ∧ i0.bytes = 16 from ⟨hi, hz0, hzs, hzb⟩)
  clear hi hz0 hzs hzb h1
  have HLL := Lib.hid (wT_len zs)
  have HAT := Lib.hid (wT_at zs)
  have HSZ := Lib.hid (wT_sz zs)
  have hjz := wT_jt zs hl2 zs.length
  rw [List.take_of_length_le (by rw [HLL.out]; exact Nat.le_refl _)] at hjz
  obtain ⟨T, hT⟩ : ∃ T, T = wT zs := ⟨_, rfl⟩
  have HTE := Lib.hid hT
  rw [← hT] at HLL HSZ HV hjz
  clear hT
  have HNM := Lib.hid (fun w => itoa_any n w (by omega))
  have HHD := Lib.hid (show numT n ++ (⟨#[58]⟩ : ByteArray) = hd (n : Int) from by unfold hd; rw [Int.toNat_natCast])
  have hnz := numT_size n
  obtain ⟨N, hN⟩ : ∃ N, N = numT n := ⟨_, rfl⟩
  rw [← hN] at HHD hnz
  simp only [← hN] at HNM
  have hz2 : (N ++ (⟨#[58]⟩ : ByteArray)).size ≤ 3 := by rw [HHD.out]; exact hd_size _
  clear hN
  go_enter Tryd.func14, Tryd.ntmps14
  go_wp2_with (first | (go_at_call 29; refine (isSch_any _ _ zs _ (H.out.ext X0.out) HM.out).mono ?_; rintro e w1 ⟨rfl, x1⟩; rw [HG.out]; have XA1 := Lib.hid x1; obtain ⟨a1, a2⟩ := sc_cells x1) | (at_make; refine wpList_make_full _ rfl _ _ 22 rfl w1.heap.size 9 i0 (.string ⟨#[]⟩) 1 Tryd.underlying22 HI.out.1 HI.out.2.1 HI.out.2.2.1 .i64 .i64 _ _ zs.length rfl rfl rfl rfl (by rw [HI.out.2.2.2]; omega) (by unfold maxLen; omega) (Nat.le_refl _) ?_; intro w2 hown hgr; have X2 := Lib.hid (ext_grown (Ext.refl w1) hgr (by intro k hk; cases hk)); have RR := Lib.hid (show RowT w1.heap.size w2 w1.heap.size zs.length (partT T 0) from by unfold RowT; rw [partT_zero, HLL.out]; exact hown); obtain ⟨b1, b2⟩ := sc_cells (XA1.out.trans X2.out); clear hown hgr))
  clear a1 a2 b1 b2
  go_loopw [17] (fun i wr => ∃ k : Nat, k ≤ zs.length ∧ i = .int .i64 k ∧ RowT w1.heap.size wr w1.heap.size zs.length (partT T k) ∧ Ext w1 wr) (fun i _ => zs.length - (intOf i).toNat)
  case atStart => exact ⟨0, Nat.zero_le _, rfl, RR.out, X2.out⟩
  case round =>
    obtain ⟨k, hk, rfl, hr, hx⟩ := hrel
    have HR := Lib.hid hr
    clear hr
    by_cases hlt : k < zs.length
    · obtain ⟨b, off, ha, _, e1⟩ := (H.out.ext (X0.out.trans (XA1.out.trans hx))).get2 k hlt
      have hbd := HB.out.at_ k hlt
      have hpl : (partT T k).length = zs.length := by rw [partT_len _ _ (by rw [HLL.out]; omega), HLL.out]
      have HAK := Lib.hid (HAT.out k hlt)
      obtain ⟨z, hz⟩ : ∃ z : Nat, zs[k] = z := ⟨zs[k].toNat, by omega⟩
      rw [hz] at e1 hbd HAK
      rw [Int.toNat_natCast] at HAK
      have HZ := Lib.hid (fun w => itoa_any z w (by omega))
      obtain ⟨t, ht⟩ : ∃ t, t = numT z := ⟨_, rfl⟩
      rw [← ht] at HAK
      simp only [← ht] at HZ
      have HW := Lib.hid (show ∀ wz, Ext w1 wz → RowT w1.heap.size wz w1.heap.size zs.length (partT T k) → RowT w1.heap.size (wz.setCell ⟨w1.heap.size, k, none⟩ (.string t)) w1.heap.size zs.length (partT T (k + 1)) ∧ Ext w1 (wz.setCell ⟨w1.heap.size, k, none⟩ (.string t)) from fun wz hxz hz => by
        refine ⟨?_, hxz.setCell (Nat.le_refl _) _⟩
        have e2 : partT T (k + 1) = (partT T k).set k t := by
          rw [← partT_set T k (by rw [HLL.out]; exact hlt)]
          congr 1
          have := HAK.out
          simp only [HTE.out]
          exact this
        rw [e2]
        exact hz.put k _)
      have HPL := Lib.hid hpl
      clear hz ht hpl
      subst ha
      go_wp2_with (go_at_call 30; refine (HZ.out _).mono ?_; rintro e w5 ⟨rfl, x5⟩; have R5 := Lib.hid (show RowT w1.heap.size w5 w1.heap.size zs.length (partT T k) from row_ext HR.out x5); obtain ⟨c1, c2⟩ := R5.out.at k hlt HPL.out)
      go_roundw
      case rel => exact ⟨k + 1, by omega, by go_num, (HW.out _ (hx.trans x5) R5.out).1, (HW.out _ (hx.trans x5) R5.out).2⟩
      case measure => simp [intOf]; omega
    · have HR2 := Lib.hid (show RowT w1.heap.size wr w1.heap.size T.length T from by
        have h2 := HR.out
        have hkL : k = T.length := by rw [HLL.out]; omega
        rw [hkL, partT_all, ← HLL.out] at h2
        exact h2)
      obtain ⟨a1, a2⟩ := sc_cells (XA1.out.trans hx)
      have HJ := Lib.hid (fun w h => joinW_any w1.heap.size T w h HSZ.out (by rw [HLL.out]; omega) (B := w1.heap.size))
      obtain ⟨J, hJ⟩ : ∃ J, J = jt T := ⟨_, rfl⟩
      rw [← hJ] at HV hjz
      simp only [← hJ] at HJ
      clear hJ
      go_wp2_with (first | (go_at_call 30; refine (HNM.out _).mono ?_; rintro e w5 ⟨rfl, x5⟩; have X5 := Lib.hid x5) | (go_at_call 31; rw [← HLL.out]; refine (HJ.out _ (row_ext HR2.out X5.out)).mono ?_; rintro e w6 ⟨rfl, x6⟩))
      go_ret2
      exact ⟨ret_sb (by rw [HV.out, ← HHD.out]) rfl, X0.out.trans (XA1.out.trans (hx.trans (X5.out.trans x6)))⟩

end Go.Proofs.YthooedmlnonadaaDoor
