/- The program's split by first words, with FirstFewest's own test. -/
import Derived.Test.YtioinihlahnbfaaDoorFirstF
import Derived.Test.YtioinihlahnbfaaDoorFirstBy
import Derived.Test.YtioinihlahnbfaaDoorFewI
import Derived.Deep.LoopGhost
import Derived.Deep.RegionWith
import Derived.WalkMore
namespace Go.Proofs.YtioinihlahnbfaaDoor
open Go.RowKit

theorem mayF_any (C : Nat) (t : Nat → Int) (i j : Nat) (w : World) (h : TabI w C t) (hi : i < 21) (hj : j < 21) (h0 : 0 ≤ t i) (h1 : t i ≤ 21) : Calls Tryd.prog 50 #[.int .i64 i, .int .i64 j, .pointer (some ⟨C, 0, none⟩)] w fun e w' => e = .returned (.bool (decide (t j = t i - 1))) ∧ Ext w w' := by
  have c1 := h.at j hj
  have c2 := h.at i hi
  have hji : (j : Int) < 21 := by omega
  have hii : (i : Int) < 21 := by omega
  have W1 : IntKind.i64.wrap (t i - 1) = t i - 1 := by simp only [IntKind.wrap_i64]; omega
  have t1 : (t j == t i - 1) = decide (t j = t i - 1) := by
    by_cases e : t j = t i - 1
    · rw [decide_eq_true e]; simp [e]
    · rw [decide_eq_false e]; simp [e]
  clear h
  go_enter Tryd.func50, Tryd.ntmps50
  go_wp2
  go_quiet (fail)
  go_wp2
  go_ret
  exact ⟨rfl, ext_drewN (Ext.refl _) _⟩

set_option maxRecDepth 100000 in
set_option maxHeartbeats 8000000 in
theorem firstByF_any (v : Value) (ss : List ByteArray) (q : ByteArray) (C : Nat) (w : World) (h : Strs w v ss) (hd : dicB ss = true) (hq : q.size ≤ 20) (hq1 : 1 ≤ q.size) (hp : PadIs w) (hC : TabI w C (gFrom ss q 0)) (h20 : fq ss q 0 ≤ 20) : Calls Tryd.prog 49 #[v, .string q, .func (.func 50) #[] #[.pointer (some ⟨C, 0, none⟩)]] w (fun e w' => ∃ v, e = .returned v ∧ RowS w.heap.size w' v (firstF ss q) ∧ Ext w w') := by
  have HS := Lib.hid h
  have HP := Lib.hid hp
  have HCC := Lib.hid hC
  obtain ⟨hl1, hl2⟩ := dicB_len hd
  have HD := Lib.hid hd
  obtain ⟨a, cap, hv, hnil⟩ := h.at
  rw [hv] at HS ⊢
  clear hv hnil h v hd hp hC
  obtain ⟨i0, hi, hz0, hzs, hzb⟩ := info_parts info_strN
  have HI := Lib.hid (show Tryd.prog.info? 9 = some i0 ∧ i0.zero = some (.string ⟨#[]⟩) ∧ i0.size = 1 ∧ i0.bytes = 16 from ⟨hi, hz0, hzs, hzb⟩)
  clear hi hz0 hzs hzb
  have HLEN := Lib.hid (show (firstF ss q).length ≤ 20 from Nat.le_trans (path_len _ _ _ _ _) hq)
  go_enter Tryd.func49, Tryd.ntmps49
  go_wp2
  go_step3
  go_wp2
  go_step3
  go_wp2
  go_loopg [7, 8] q.size (fun g o i wr => ∃ (p : Nat) (f : Nat) (ts : List ByteArray), p + g = q.size ∧ q.size ≤ p + f ∧ i = .int .i64 p ∧ ts ++ path ss (goF ss q) q.size f p = firstF ss q ∧ fq ss q p ≤ 20 ∧ RowS w.heap.size wr o ts ∧ Ext w wr)
  case atStart => exact ⟨0, q.size, [], by omega, by omega, rfl, rfl, h20, RowS.nil _ _, Ext.refl _⟩
  case round =>
    obtain ⟨p, f, ts, hpg, hf, rfl, hG, hnz, hO, hx⟩ := hrel
    have HG := Lib.hid hG
    have HNZ := Lib.hid hnz
    have HWW := Lib.hid (show ∀ s ∈ ss, 1 ≤ s.size from fun s hs => (isW_size (wdW_isW (dicB_mem HD.out s hs))).1)
    have HO := Lib.hid hO
    clear hG hnz hO
    by_cases hlt : p < q.size
    · obtain ⟨f, rfl⟩ : ∃ f', f = f' + 1 := ⟨f - 1, by omega⟩
      have hlti : (p : Int) < (q.size : Int) := by omega
      go_wp2
      go_loopg [7, 8, 18] ss.length (fun g2 o j c wx => ∃ m : Nat, m + g2 = ss.length ∧ c = .int .i64 m ∧ j = .int .i64 p ∧ (ss.take m).find? (goF ss q p) = none ∧ RowS w.heap.size wx o ts ∧ Ext w wx)
      case atStart => exact ⟨0, by omega, rfl, rfl, rfl, HO.out, hx⟩
      case round =>
        obtain ⟨m, hmg, rfl, rfl, hno, ho2, hx2⟩ := hrel
        have HNO := Lib.hid hno
        have HO2 := Lib.hid ho2
        clear hno ho2
        by_cases hlm : m < ss.length
        · rcases (HS.out.ext hx2).2.2 with ⟨h3, _⟩ | ⟨b, off, cap', h4, hb, hc⟩
          · rw [h3] at hlm; exact absurd hlm (by simp)
          have ha : a = some ⟨b, off, none⟩ := by injection h4
          have e1 := hc m hlm
          have HW := Lib.hid (wdW_isW (dicB_at HD.out m hlm))
          have hz10 := wdW_size (dicB_at HD.out m hlm)
          obtain ⟨kk, hkk⟩ : ∃ p, p = keysB ss[m] := ⟨_, rfl⟩
          have HQ := Lib.hid hkk
          obtain ⟨E, hE⟩ : ∃ E, E = p + ss[m].size := ⟨_, rfl⟩
          have HEE := Lib.hid hE
          have hEi : (p : Int) + (ss[m].size : Int) = (E : Int) := by omega
          have hple : p ≤ q.size := by omega
          have hpli : (p : Int) ≤ (q.size : Int) := by omega
          have HPF := Lib.hid (pre_fits q p ss[m] hple)
          clear hc h4 hb hkk
          subst ha
          by_cases hF : fits q p ss[m]
          · have HB := Lib.hid (show pre (q.extract p q.size) kk = true by rw [HQ.out, HPF.out, decide_eq_true hF])
            have hEle : E ≤ q.size := by have := hF.1; omega
            have hE21 : E < 21 := by omega
            have hp21 : p < 21 := by omega
            have HTE := Lib.hid (show gFrom ss q 0 E = (fq ss q E : Int) by unfold gFrom; rw [if_pos (by omega)])
            have HTP := Lib.hid (show gFrom ss q 0 p = (fq ss q p : Int) by unfold gFrom; rw [if_pos (by omega)])
            have HRG := Lib.hid (show 0 ≤ gFrom ss q 0 p ∧ gFrom ss q 0 p ≤ 21 by rw [HTP.out]; have := HNZ.out; omega)
            by_cases hT0 : fq ss q E + 1 = fq ss q p
            rotate_left
            · have HM := Lib.hid (show decide (gFrom ss q 0 E = gFrom ss q 0 p - 1) = false by rw [HTE.out, HTP.out]; exact decide_eq_false (by omega))
              have HNN := Lib.hid (find_no hlm HNO.out (goF_no2 (by rw [← HEE.out]; exact hT0)))
              clear hT0 hE
              go_wp2
              go_region_with (first | (go_at_call 33; refine (keysL_any _ _ HW.out (HP.out.ext (hx2.trans (ext_drewN (Ext.refl _) 1)))).mono ?_; rintro e w9 ⟨rfl, x9⟩; rw [← HQ.out]) | (go_at_call 63; refine (hp_any _ _ _).mono ?_; rintro e w' ⟨rfl, rfl⟩; rw [HB.out]) | (go_at_call 50; refine (mayF_any C (gFrom ss q 0) p E _ (HCC.out.ext ((hx2.trans (ext_drewN (Ext.refl _) 1)).trans x9)) hp21 hE21 HRG.out.1 HRG.out.2).mono ?_; rintro e w8 ⟨rfl, x8⟩; rw [HM.out]))
              go_wp2
              go_roundg (ss.length - (m + 1))
              case measure => omega
              case rel => exact ⟨m + 1, by omega, by go_num, rfl, HNN.out, (((HO2.out.ext (ext_drewN (Ext.refl _) 1)).ext x9).ext x8), ((hx2.trans (ext_drewN (Ext.refl _) 1)).trans x9).trans x8⟩
            · have HM := Lib.hid (show decide (gFrom ss q 0 E = gFrom ss q 0 p - 1) = true by rw [HTE.out, HTP.out]; exact decide_eq_true (by omega))
              have HEN20 := Lib.hid (show fq ss q E ≤ 20 by have := HNZ.out; omega)
              have HFY := Lib.hid (find_yes hlm HNO.out (goF_yes hF (by rw [← HEE.out]; exact hT0)))
              have hz1 := (isW_size HW.out).1
              have hpE : p < E := by omega
              have hts : ts.length ≤ 20 := by have e := congrArg List.length HG.out; rw [List.length_append] at e; have := HLEN.out; omega
              clear hT0 hE hF
              go_wp2
              go_region_with (first | (go_at_call 33; refine (keysL_any _ _ HW.out (HP.out.ext (hx2.trans (ext_drewN (Ext.refl _) 1)))).mono ?_; rintro e w9 ⟨rfl, x9⟩; rw [← HQ.out]) | (go_at_call 63; refine (hp_any _ _ _).mono ?_; rintro e w' ⟨rfl, rfl⟩; rw [HB.out]) | (go_at_call 50; refine (mayF_any C (gFrom ss q 0) p E _ (HCC.out.ext ((hx2.trans (ext_drewN (Ext.refl _) 1)).trans x9)) hp21 hE21 HRG.out.1 HRG.out.2).mono ?_; rintro e w8 ⟨rfl, x8⟩; rw [HM.out]))
              go_wp2_with (at_builtin; refine wpList_append_own _ rfl _ _ 22 rfl w.heap.size 9 i0 (.string ⟨#[]⟩) 1 16 Tryd.underlying22 HI.out.1 HI.out.2.1 HI.out.2.2.1 HI.out.2.2.2 rfl (by decide) _ _ _ rfl (World.ownsRow.alloc (((HO2.out.ext (ext_drewN (Ext.refl _) 1)).ext x9).ext x8) _) ⟨_, 0, none⟩ 1 1 [.string ss[m]] rfl rfl (cell_one_new _ _ _) (oneS _) (by unfold maxLen; omega) (by omega) (by have := (((hx2.trans (ext_drewN (Ext.refl _) 1)).trans x9).trans x8).size; simp; omega) ?_; intro v' w5 hown' hgr' _)
              have R : RowS w.heap.size w5 v' (ts ++ [ss[m]]) := by
                unfold RowS
                rw [List.length_append, List.map_append]
                exact hown'
              have X : Ext w w5 := ext_grown ((((hx2.trans (ext_drewN (Ext.refl _) 1)).trans x9).trans x8).alloc _) hgr' (fun j hj => HO2.out.own_le j hj)
              clear hown' hgr'
              go_wp2
              go_roundg (q.size - E)
              case measure => omega
              case rel =>
                refine ⟨E, f, ts ++ [ss[m]], by omega, by omega, rfl, ?_, HEN20.out, R, X⟩
                have e := HG.out
                rw [path_step hlt HFY.out, ← HEE.out] at e
                rw [List.append_assoc]
                exact e
          · have HB := Lib.hid (show pre (q.extract p q.size) kk = false by rw [HQ.out, HPF.out, decide_eq_false hF])
            have HNN := Lib.hid (find_no hlm HNO.out (goF_no1 hF))
            clear hF hE
            go_wp2
            first | (go_region_with (first | (go_at_call 33; refine (keysL_any _ _ HW.out (HP.out.ext (hx2.trans (ext_drewN (Ext.refl _) 1)))).mono ?_; rintro e w9 ⟨rfl, x9⟩; rw [← HQ.out]) | (go_at_call 63; refine (hp_any _ _ _).mono ?_; rintro e w' ⟨rfl, rfl⟩; rw [HB.out]))) | fail
            all_goals go_wp2
            all_goals go_roundg (ss.length - (m + 1))
            all_goals first | omega | exact ⟨m + 1, by omega, by go_num, rfl, HNN.out, ((HO2.out.ext (ext_drewN (Ext.refl _) 1)).ext x9), (hx2.trans (ext_drewN (Ext.refl _) 1)).trans x9⟩
        · exact absurd (by have := HNO.out; rwa [List.take_of_length_le (by omega)] at this) (goF_some HD.out q p hlt HNZ.out)
    · obtain rfl : p = q.size := by omega
      go_wp2
      try rw [Exit.noGoto_ret]
      go_ret
      have e : ts = firstF ss q := by have := HG.out; rwa [path_end _ _ _ _ _ (Nat.le_refl _), List.append_nil] at this
      exact ⟨_, rfl, by rw [← e]; exact HO.out, hx⟩

end Go.Proofs.YtioinihlahnbfaaDoor
