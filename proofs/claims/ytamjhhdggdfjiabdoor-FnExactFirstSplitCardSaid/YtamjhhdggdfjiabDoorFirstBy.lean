/- The program's split by first words, and FirstSplit's own test. -/
import Derived.Test.YtamjhhdggdfjiabDoorFirst
import Derived.Test.YtamjhhdggdfjiabDoorTab
import Derived.Deep.LoopGhost
import Derived.Deep.RegionWith
import Derived.WalkMore
namespace Go.Proofs.YtamjhhdggdfjiabDoor
open Go.RowKit

theorem may_any (C : Nat) (t : Nat → Int) (i : Int) (j : Nat) (w : World) (h : TabI w C t) (hj : j < 21) : Calls Tryd.prog 48 #[.int .i64 i, .int .i64 j, .pointer (some ⟨C, 0, none⟩)] w fun e w' => e = .returned (.bool (decide (0 < t j))) ∧ w = w' := by
  have c1 := h.at j hj
  have hji : (j : Int) < 21 := by omega
  clear h
  go_enter Tryd.func48, Tryd.ntmps48
  go_wp2
  go_ret
  exact ⟨rfl, rfl⟩

theorem pre_fits (q : ByteArray) (p : Nat) (s : ByteArray) (hp : p ≤ q.size) : pre (q.extract p q.size) (keysB s) = decide (fits q p s) := by
  have hl : (q.extract p q.size).size = q.size - p := by rw [ByteArray.size_extract]; omega
  by_cases h : p + s.size ≤ q.size
  · have e : (q.extract p q.size).extract 0 (keysB s).size = q.extract p (p + s.size) := by
      rw [keysB_size]
      apply ByteArray.ext
      rw [ByteArray.data_extract, ByteArray.data_extract, ByteArray.data_extract, Array.extract_extract]
      congr 1
      omega
    rw [← pre_raw _ _ (by rw [hl, keysB_size]; omega), e, beqS]
    by_cases h2 : keysB s = q.extract p (p + s.size)
    · rw [decide_eq_true h2.symm, decide_eq_true (show fits q p s from ⟨h, h2⟩)]
    · rw [decide_eq_false (fun h3 => h2 h3.symm), decide_eq_false (fun h3 : fits q p s => h2 h3.2)]
  · rw [pre_short _ _ (by rw [hl, keysB_size]; omega), decide_eq_false (fun h3 : fits q p s => h h3.1)]
/-- The first split, or no list at all. -/
def Split1 (ss : List ByteArray) (q : ByteArray) (w : World) (e : Ending) (w' : World) : Prop := ∃ v, e = .returned v ∧ (tq ss q 0 = 0 → v = .slice none 0 0) ∧ (¬ tq ss q 0 = 0 → RowS w.heap.size w' v (firstV ss q)) ∧ Ext w w'

set_option maxRecDepth 100000 in
set_option maxHeartbeats 8000000 in
theorem firstBy_any (v : Value) (ss : List ByteArray) (q : ByteArray) (C : Nat) (w : World) (h : Strs w v ss) (hd : dicB ss = true) (hq : q.size ≤ 20) (hq1 : 1 ≤ q.size) (hp : PadIs w) (hC : TabI w C (tFrom ss q 0)) : Calls Tryd.prog 47 #[v, .string q, .func (.func 48) #[] #[.pointer (some ⟨C, 0, none⟩)]] w (Split1 ss q w) := by
  have HS := Lib.hid h
  have HP := Lib.hid hp
  have HCC := Lib.hid hC
  obtain ⟨hl1, hl2⟩ := dicB_len hd
  have HD := Lib.hid hd
  obtain ⟨a, cap, hv, hnil⟩ := h.at
  rw [hv] at HS ⊢
  clear hv hnil h v hd hp hC
  obtain ⟨i0, hi, hz0, hzs, hzb⟩ := info_parts info_strN
  have HI := Lib.hid (show Tryd.prog.info? 9 = some i0 ∧ i0.zero = some (.string ⟨#[]⟩) ∧ i0.size = 1 ∧ i0.bytes = 16 from ⟨hi, hz0, hzs, hzb⟩)
  clear hi hz0 hzs hzb
  have HLEN := Lib.hid (show (firstV ss q).length ≤ 20 from Nat.le_trans (path_len _ _ _ _ _) hq)
  go_enter Tryd.func47, Tryd.ntmps47
  go_wp2
  go_step3
  go_wp2
  go_step3
  go_wp2
  go_loopg [7, 8] q.size (fun g o i wr => ∃ (p : Nat) (f : Nat) (ts : List ByteArray), p + g = q.size ∧ q.size ≤ p + f ∧ i = .int .i64 p ∧ ts ++ path ss (goOn ss q) q.size f p = firstV ss q ∧ (0 < p → ¬ tq ss q 0 = 0 ∧ ¬ tq ss q p = 0) ∧ RowS w.heap.size wr o ts ∧ Ext w wr)
  case atStart => exact ⟨0, q.size, [], by omega, by omega, rfl, rfl, fun h => absurd h (by omega), RowS.nil _ _, Ext.refl _⟩
  case round =>
    obtain ⟨p, f, ts, hpg, hf, rfl, hG, hnz, hO, hx⟩ := hrel
    have HG := Lib.hid hG
    have HNZ := Lib.hid hnz
    have HO := Lib.hid hO
    clear hG hnz hO
    by_cases hlt : p < q.size
    · obtain ⟨f, rfl⟩ : ∃ f', f = f' + 1 := ⟨f - 1, by omega⟩
      have hlti : (p : Int) < (q.size : Int) := by omega
      go_wp2
      go_loopg [7, 8, 18] ss.length (fun g2 o j c wx => ∃ m : Nat, m + g2 = ss.length ∧ c = .int .i64 m ∧ j = .int .i64 p ∧ (ss.take m).find? (goOn ss q p) = none ∧ RowS w.heap.size wx o ts ∧ Ext w wx)
      case atStart => exact ⟨0, by omega, rfl, rfl, rfl, HO.out, hx⟩
      case round =>
        obtain ⟨m, hmg, rfl, rfl, hno, ho2, hx2⟩ := hrel
        have HNO := Lib.hid hno
        have HO2 := Lib.hid ho2
        clear hno ho2
        by_cases hlm : m < ss.length
        · rcases (HS.out.ext hx2).2.2 with ⟨h3, _⟩ | ⟨b, off, cap', h4, hb, hc⟩
          · rw [h3] at hlm; exact absurd hlm (by simp)
          have ha : a = some ⟨b, off, none⟩ := by injection h4
          have e1 := hc m hlm
          have HW := Lib.hid (wdW_isW (dicB_at HD.out m hlm))
          have hz10 := wdW_size (dicB_at HD.out m hlm)
          obtain ⟨kk, hkk⟩ : ∃ p, p = keysB ss[m] := ⟨_, rfl⟩
          have HQ := Lib.hid hkk
          obtain ⟨E, hE⟩ : ∃ E, E = p + ss[m].size := ⟨_, rfl⟩
          have HEE := Lib.hid hE
          have hEi : (p : Int) + (ss[m].size : Int) = (E : Int) := by omega
          have hple : p ≤ q.size := by omega
          have hpli : (p : Int) ≤ (q.size : Int) := by omega
          have HPF := Lib.hid (pre_fits q p ss[m] hple)
          clear hc h4 hb hkk
          subst ha
          by_cases hF : fits q p ss[m]
          · have HB := Lib.hid (show pre (q.extract p q.size) kk = true by rw [HQ.out, HPF.out, decide_eq_true hF])
            have hEle : E ≤ q.size := by have := hF.1; omega
            have hE21 : E < 21 := by omega
            have HTE := Lib.hid (show tFrom ss q 0 E = tq ss q E by unfold tFrom; rw [if_pos (by omega)])
            have hnn := tq_nn HD.out q hq E hEle
            by_cases hT0 : tq ss q E = 0
            · have HM := Lib.hid (show decide (0 < tFrom ss q 0 E) = false by rw [HTE.out, hT0]; rfl)
              have HNN := Lib.hid (find_no hlm HNO.out (goOn_no2 (by rw [← HEE.out]; exact hT0)))
              clear hT0 hnn hE
              go_wp2
              go_region_with (first | (go_at_call 54; refine (keysL_any _ _ HW.out (HP.out.ext (hx2.trans (ext_drewN (Ext.refl _) 1)))).mono ?_; rintro e w9 ⟨rfl, x9⟩; rw [← HQ.out]) | (go_at_call 63; refine (hp_any _ _ _).mono ?_; rintro e w' ⟨rfl, rfl⟩; rw [HB.out]) | (go_at_call 48; refine (may_any C (tFrom ss q 0) _ E _ (HCC.out.ext ((hx2.trans (ext_drewN (Ext.refl _) 1)).trans x9)) hE21).mono ?_; rintro e w' ⟨rfl, rfl⟩; rw [HM.out]))
              go_wp2
              go_roundg (ss.length - (m + 1))
              case measure => omega
              case rel => exact ⟨m + 1, by omega, by go_num, rfl, HNN.out, ((HO2.out.ext (ext_drewN (Ext.refl _) 1)).ext x9), (hx2.trans (ext_drewN (Ext.refl _) 1)).trans x9⟩
            · have HM := Lib.hid (show decide (0 < tFrom ss q 0 E) = true by rw [HTE.out]; exact decide_eq_true (by omega))
              have HTN := Lib.hid hT0
              have HFY := Lib.hid (find_yes hlm HNO.out (goOn_yes hF (by rw [← HEE.out]; exact hT0)))
              have HT1 := Lib.hid (show ¬ tq ss q 0 = 0 by
                by_cases h0 : p = 0
                · subst h0
                  have := (tq_pos HD.out q hq 0 hlt).2 ⟨ss[m], List.getElem_mem _, hF, by rw [← HEE.out]; omega⟩
                  omega
                · exact (HNZ.out (by omega)).1)
              have hz1 := (isW_size HW.out).1
              have hpE : p < E := by omega
              have hts : ts.length ≤ 20 := by have e := congrArg List.length HG.out; rw [List.length_append] at e; have := HLEN.out; omega
              clear hT0 hnn hE hF
              go_wp2
              go_region_with (first | (go_at_call 54; refine (keysL_any _ _ HW.out (HP.out.ext (hx2.trans (ext_drewN (Ext.refl _) 1)))).mono ?_; rintro e w9 ⟨rfl, x9⟩; rw [← HQ.out]) | (go_at_call 63; refine (hp_any _ _ _).mono ?_; rintro e w' ⟨rfl, rfl⟩; rw [HB.out]) | (go_at_call 48; refine (may_any C (tFrom ss q 0) _ E _ (HCC.out.ext ((hx2.trans (ext_drewN (Ext.refl _) 1)).trans x9)) hE21).mono ?_; rintro e w' ⟨rfl, rfl⟩; rw [HM.out]))
              go_wp2_with (at_builtin; refine wpList_append_own _ rfl _ _ 22 rfl w.heap.size 9 i0 (.string ⟨#[]⟩) 1 16 Tryd.underlying22 HI.out.1 HI.out.2.1 HI.out.2.2.1 HI.out.2.2.2 rfl (by decide) _ _ _ rfl (World.ownsRow.alloc ((HO2.out.ext (ext_drewN (Ext.refl _) 1)).ext x9) _) ⟨_, 0, none⟩ 1 1 [.string ss[m]] rfl rfl (cell_one_new _ _ _) (oneS _) (by unfold maxLen; omega) (by omega) (by have := ((hx2.trans (ext_drewN (Ext.refl _) 1)).trans x9).size; simp; omega) ?_; intro v' w5 hown' hgr' _)
              have R : RowS w.heap.size w5 v' (ts ++ [ss[m]]) := by
                unfold RowS
                rw [List.length_append, List.map_append]
                exact hown'
              have X : Ext w w5 := ext_grown (((hx2.trans (ext_drewN (Ext.refl _) 1)).trans x9).alloc _) hgr' (fun j hj => HO2.out.own_le j hj)
              clear hown' hgr'
              go_wp2
              go_roundg (q.size - E)
              case measure => omega
              case rel =>
                refine ⟨E, f, ts ++ [ss[m]], by omega, by omega, rfl, ?_, fun _ => ⟨HT1.out, HTN.out⟩, R, X⟩
                have e := HG.out
                rw [path_step hlt HFY.out, ← HEE.out] at e
                rw [List.append_assoc]
                exact e
          · have HB := Lib.hid (show pre (q.extract p q.size) kk = false by rw [HQ.out, HPF.out, decide_eq_false hF])
            have HNN := Lib.hid (find_no hlm HNO.out (goOn_no1 hF))
            clear hF hE
            go_wp2
            first | (go_region_with (first | (go_at_call 54; refine (keysL_any _ _ HW.out (HP.out.ext (hx2.trans (ext_drewN (Ext.refl _) 1)))).mono ?_; rintro e w9 ⟨rfl, x9⟩; rw [← HQ.out]) | (go_at_call 63; refine (hp_any _ _ _).mono ?_; rintro e w' ⟨rfl, rfl⟩; rw [HB.out]))) | fail
            all_goals go_wp2
            all_goals go_roundg (ss.length - (m + 1))
            all_goals first | omega | exact ⟨m + 1, by omega, by go_num, rfl, HNN.out, ((HO2.out.ext (ext_drewN (Ext.refl _) 1)).ext x9), (hx2.trans (ext_drewN (Ext.refl _) 1)).trans x9⟩
        · have HZ := Lib.hid (show tq ss q p = 0 by
            by_cases h0 : tq ss q p = 0
            · exact h0
            · exact absurd (by have := HNO.out; rwa [List.take_of_length_le (by omega)] at this) (goOn_some HD.out q hq p hlt h0))
          have hp0 : p = 0 := by
            by_cases h0 : p = 0
            · exact h0
            · exact absurd HZ.out (HNZ.out (by omega)).2
          subst hp0
          go_wp2
          rw [Exit.noGoto_ret]
          go_ret
          exact ⟨_, rfl, fun _ => rfl, fun h => absurd HZ.out h, hx2⟩
    · obtain rfl : p = q.size := by omega
      go_wp2
      try rw [Exit.noGoto_ret]
      go_ret
      have e : ts = firstV ss q := by have := HG.out; rwa [path_end _ _ _ _ _ (Nat.le_refl _), List.append_nil] at this
      exact ⟨_, rfl, fun h => absurd h (HNZ.out (by omega)).1, fun _ => by rw [← e]; exact HO.out, hx⟩

end Go.Proofs.YtamjhhdggdfjiabDoor
