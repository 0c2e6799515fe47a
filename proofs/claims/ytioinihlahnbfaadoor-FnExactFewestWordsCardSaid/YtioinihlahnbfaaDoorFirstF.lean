/- The first split of the fewest words: the model's. No conditions but the dictionary's. -/
import Derived.Test.YtioinihlahnbfaaDoorFirst
import Derived.Test.YtioinihlahnbfaaDoorFew
namespace Go.Proofs.YtioinihlahnbfaaDoor
open Go.RowKit

/-- The first split of the fewest words. -/
def firstF (ss : List ByteArray) (q : ByteArray) : List ByteArray := path ss (goF ss q) q.size q.size 0
theorem pathF_len {ss : List ByteArray} (hd : dicB ss = true) (q : ByteArray) : ∀ f i, q.size ≤ i + f → i ≤ q.size → fq ss q i ≤ 20 → (path ss (goF ss q) q.size f i).length = fq ss q i
  | 0, i, hf, hi, _ => by
    obtain rfl : i = q.size := by omega
    rw [fq_end]; rfl
  | f + 1, i, hf, hi, h20 => by
    by_cases hlt : i < q.size
    · cases hc : ss.find? (goF ss q i) with
      | none => exact absurd hc (goF_some hd q i hlt h20)
      | some s =>
        have hg := List.find?_some hc
        have hg2 := of_decide_eq_true hg
        have hs1 := (isW_size (wdW_isW (dicB_mem hd s (List.mem_of_find?_eq_some hc)))).1
        have hf1 := hg2.1.1
        rw [path_step hlt hc, List.length_cons, pathF_len hd q f (i + s.size) (by omega) hf1 (by omega)]
        exact hg2.2
    · obtain rfl : i = q.size := by omega
      rw [path_end _ _ _ _ _ (Nat.le_refl _), fq_end]; rfl
theorem firstF_len {ss : List ByteArray} (hd : dicB ss = true) (q : ByteArray) (hq : q.size ≤ 20) (h0 : ¬ tq ss q 0 = 0) : (firstF ss q).length = fq ss q 0 := pathF_len hd q q.size 0 (by omega) (Nat.zero_le _) (by have := fq_small hd q hq 0 (Nat.zero_le _) h0; omega)

set_option maxRecDepth 100000 in
set_option maxHeartbeats 8000000 in
theorem wdFirst2_any (v : Value) (ss : List ByteArray) (q : ByteArray) (w : World) (h : Strs w v ss) (hd : dicB ss = true) (hq : q.size ≤ 20) (hq1 : 1 ≤ q.size) : Calls Tryd.prog 46 #[v, .string q, .bool true] w (ResS (if tq ss q 0 = 0 then [] else firstF ss q) (decide (¬ tq ss q 0 = 0)) w) := by
  have HS := Lib.hid h
  obtain ⟨hl1, hl2⟩ := dicB_len hd
  have HD := Lib.hid hd
  obtain ⟨a, cap, hv, hnil⟩ := h.at
  rw [hv] at HS ⊢
  clear hv hnil h v hd
  obtain ⟨i0, hi, hz0, hzs, hzb⟩ := info_parts info_strN
  have HI := Lib.hid (show Tryd.prog.info? 9 = some i0 ∧ i0.zero = some (.string ⟨#[]⟩) ∧ i0.size = 1 ∧ i0.bytes = 16 from ⟨hi, hz0, hzs, hzb⟩)
  clear hi hz0 hzs hzb
  obtain ⟨N, hN⟩ : ∃ N, N = q.size + 1 := ⟨_, rfl⟩
  have HN := Lib.hid hN
  have hN0 : 0 < N := by omega
  have hN0i : (0 : Int) < (N : Int) := by omega
  have hqN : q.size < N := by omega
  clear hN
  obtain ⟨c, hc⟩ : ∃ c, c = tq ss q 0 := ⟨_, rfl⟩
  have HC := Lib.hid hc
  rw [← hc]
  clear hc
  by_cases hc0 : c = 0
  · have t1 : (c == 0) = true := by simp [hc0]
    rw [if_pos hc0, decide_eq_false (fun h => h hc0)]
    clear hc0
    go_enter Tryd.func46, Tryd.ntmps46
    go_wp2_with (go_at_call 45; refine (wdTables2_any _ _ _ _ HS.out HD.out hq).mono ?_; rintro e w2 ⟨g1, g2, rfl, r1, r2, x2⟩; rw [← HN.out] at r1 r2 ⊢; have c0 := (r1.at 0 hN0).trans (congrArg (fun i => some (Value.int .i64 i)) (show tFrom ss q 0 0 = c by rw [HC.out]; unfold tFrom; rw [if_pos (by omega)])); clear r1 r2)
    go_ret2
    exact ⟨_, rfl, RowS.nil _ _, x2⟩
  have t1 : (c == 0) = false := by simp [hc0]
  have HC0 := Lib.hid (show ¬ tq ss q 0 = 0 by rw [← HC.out]; exact hc0)
  rw [if_neg hc0, decide_eq_true hc0]
  clear hc0
  go_enter Tryd.func46, Tryd.ntmps46
  go_wp2_with (go_at_call 45; refine (wdTables2_any _ _ _ _ HS.out HD.out hq).mono ?_; rintro e w2 ⟨g1, g2, rfl, r1, r2, x2⟩; rw [← HN.out] at r1 r2 ⊢; have c0 := (r1.at 0 hN0).trans (congrArg (fun i => some (Value.int .i64 i)) (show tFrom ss q 0 0 = c by rw [HC.out]; unfold tFrom; rw [if_pos (by omega)])); have R1 := Lib.hid r1; have R2 := Lib.hid r2; clear r1 r2)
  have HLEN := Lib.hid (show (firstF ss q).length ≤ 20 from Nat.le_trans (path_len _ _ _ _ _) hq)
  go_loopw [10, 11] (fun o i wr => ∃ (p : Nat) (f : Nat) (ts : List ByteArray), p ≤ q.size ∧ q.size ≤ p + f ∧ i = .int .i64 p ∧ ts ++ path ss (goF ss q) q.size f p = firstF ss q ∧ ¬ tq ss q p = 0 ∧ RowS w2.heap.size wr o ts ∧ Ext w2 wr) (fun _ i _ => q.size - (intOf i).toNat)
  case atStart => exact ⟨0, q.size, [], Nat.zero_le _, by omega, rfl, rfl, HC0.out, RowS.nil _ _, Ext.refl _⟩
  case round =>
    obtain ⟨p, f, ts, hp, hf, rfl, hG, hnz, hO, hx⟩ := hrel
    have HG := Lib.hid hG
    have HNZ := Lib.hid hnz
    have HO := Lib.hid hO
    clear hG hnz hO
    by_cases hlt : p < q.size
    · obtain ⟨f, rfl⟩ : ∃ f', f = f' + 1 := ⟨f - 1, by omega⟩
      have HT := Lib.hid (R1.out.ext hx)
      have HF := Lib.hid (R2.out.ext hx)
      have hz20 : fq ss q p ≤ 20 := by have := fq_small HD.out q hq p hp HNZ.out; omega
      have hpN : p < N := by omega
      have hpNi : (p : Int) < (N : Int) := by omega
      go_wp2
      go_loopw [10, 11, 31] (fun o j c wx => ∃ m : Nat, m ≤ ss.length ∧ c = .int .i64 m ∧ j = .int .i64 p ∧ (ss.take m).find? (goF ss q p) = none ∧ RowS w2.heap.size wx o ts ∧ Ext wr wx) (fun _ _ c _ => ss.length - (intOf c).toNat)
      case atStart => exact ⟨0, Nat.zero_le _, rfl, rfl, rfl, HO.out, Ext.refl _⟩
      case round =>
        obtain ⟨m, hm, rfl, rfl, hno, ho2, hx2⟩ := hrel
        have HNO := Lib.hid hno
        have HO2 := Lib.hid ho2
        clear hno ho2
        by_cases hlm : m < ss.length
        · rcases (HS.out.ext ((x2.trans hx).trans hx2)).2.2 with ⟨h3, _⟩ | ⟨b, off, cap', h4, hb, hc⟩
          · rw [h3] at hlm; exact absurd hlm (by simp)
          have ha : a = some ⟨b, off, none⟩ := by injection h4
          have e1 := hc m hlm
          have HW := Lib.hid (wdW_isW (dicB_at HD.out m hlm))
          have hz10 := wdW_size (dicB_at HD.out m hlm)
          have hz1 := (isW_size HW.out).1
          obtain ⟨kk, hkk⟩ : ∃ p, p = keysB ss[m] := ⟨_, rfl⟩
          have HQ := Lib.hid hkk
          obtain ⟨E, hE⟩ : ∃ E, E = p + ss[m].size := ⟨_, rfl⟩
          have HEE := Lib.hid hE
          have hEi : (p : Int) + (ss[m].size : Int) = (E : Int) := by omega
          clear hc h4 hb hkk
          subst ha
          by_cases hE1 : q.size < E
          · have HNN := Lib.hid (find_no hlm HNO.out (goF_no1 (fun hc => by have := hc.1; omega)))
            have hE1d : decide (q.size < E) = true := decide_eq_true hE1
            clear hE
            go_wp2
            go_quiet (fail)
            go_wp2
            exact ⟨⟨m + 1, by omega, by go_num, rfl, HNN.out, HO2.out.ext (ext_drewN (Ext.refl _) _), ext_drewN hx2 _⟩, by simp [intOf]; omega⟩
          have hE1d : decide (q.size < E) = false := decide_eq_false hE1
          have hEle : E ≤ q.size := by omega
          have hEq : (E : Int) ≤ (q.size : Int) := by omega
          have hEN : E < N := by omega
          have hENi : (E : Int) < (N : Int) := by omega
          have hpE : p ≤ E := by omega
          have hpEi : (p : Int) ≤ (E : Int) := by omega
          have hpE2 : p < E := by omega
          by_cases hE2 : kk = q.extract p E
          · have t2 : (kk.toList == (q.extract p E).toList) = true := by rw [beqS, decide_eq_true hE2]
            have HFI := Lib.hid (show fits q p ss[m] from ⟨by omega, by rw [← HQ.out, ← HEE.out]; exact hE2⟩)
            obtain ⟨T, hT⟩ : ∃ T, T = tq ss q E := ⟨_, rfl⟩
            have c2 := (HT.out.ext hx2).at E hEN
            rw [show tFrom ss q 0 E = T by unfold tFrom; rw [if_pos (by omega), hT]] at c2
            have HTT := Lib.hid hT
            clear hE2 hT hE
            by_cases hT0 : T = 0
            · have t3 : (T == 0) = true := by simp [hT0]
              have HNN := Lib.hid (find_no hlm HNO.out (goF_no2 (by rw [← HEE.out, fq_none HD.out q hq E hEle (by rw [← HTT.out]; exact hT0)]; omega)))
              clear hT0
              go_wp2
              go_quiet (first | (exact Calls.quiet_of_same ((prKeys_any _ _ HW.out).mono fun e w' h => ⟨(h.1.trans (by rw [← HQ.out]) : e = Ending.returned (.string kk)), h.2.symm⟩)))
              go_wp2
              exact ⟨⟨m + 1, by omega, by go_num, rfl, HNN.out, HO2.out.ext (ext_drewN (Ext.refl _) _), ext_drewN hx2 _⟩, by simp [intOf]; omega⟩
            · have t3 : (T == 0) = false := by simp [hT0]
              have HTN := Lib.hid (show ¬ tq ss q E = 0 by rw [← HTT.out]; exact hT0)
              have hts : ts.length ≤ 20 := by have e := congrArg List.length HG.out; rw [List.length_append] at e; have := HLEN.out; omega
              obtain ⟨Y, hY⟩ : ∃ Y, Y = fq ss q E := ⟨_, rfl⟩
              obtain ⟨Z, hZ⟩ : ∃ Z, Z = fq ss q p := ⟨_, rfl⟩
              have hY20 : Y ≤ 19 := by have := fq_small HD.out q hq E hEle HTN.out; omega
              rw [← hZ] at hz20
              have HYY := Lib.hid hY
              have HZZ := Lib.hid hZ
              have b1 := (HF.out.ext hx2).at E hEN
              rw [show fFrom ss q 0 E = (Y : Int) by unfold fFrom; rw [if_pos (by omega), ← hY, encF_lt (by omega)]] at b1
              have b2 := (HF.out.ext hx2).at p hpN
              rw [show fFrom ss q 0 p = (Z : Int) by unfold fFrom; rw [if_pos (by omega), ← hZ, encF_lt (by omega)]] at b2
              obtain ⟨G, hG⟩ : ∃ G : Int, G = (Y : Int) + 1 := ⟨_, rfl⟩
              have W1 : IntKind.i64.wrap ((Y : Int) + 1) = G := by rw [hG]; exact w64_small (by omega) (by omega)
              by_cases hGZ : Y + 1 = Z
              rotate_left
              · have t4 : (G == (Z : Int)) = false := by rw [hG]; simp; omega
                have HNN := Lib.hid (find_no hlm HNO.out (goF_no2 (by rw [← HEE.out, ← HYY.out, ← HZZ.out]; exact hGZ)))
                clear hT0 hG hGZ hY hZ
                go_wp2
                go_quiet (first | (exact Calls.quiet_of_same ((prKeys_any _ _ HW.out).mono fun e w' h => ⟨(h.1.trans (by rw [← HQ.out]) : e = Ending.returned (.string kk)), h.2.symm⟩)))
                go_wp2
                exact ⟨⟨m + 1, by omega, by go_num, rfl, HNN.out, HO2.out.ext (ext_drewN (Ext.refl _) _), ext_drewN hx2 _⟩, by simp [intOf]; omega⟩
              have t4 : (G == (Z : Int)) = true := by rw [hG]; simp; omega
              have HFY := Lib.hid (find_yes hlm HNO.out (goF_yes HFI.out (by rw [← HEE.out, ← HYY.out, ← HZZ.out]; exact hGZ)))
              clear hT0 hG hGZ hY hZ
              go_wp2
              go_quiet (first | (exact Calls.quiet_of_same ((prKeys_any _ _ HW.out).mono fun e w' h => ⟨(h.1.trans (by rw [← HQ.out]) : e = Ending.returned (.string kk)), h.2.symm⟩)))
              go_wp2_with (at_builtin; refine wpList_append_own _ rfl _ _ 22 rfl w2.heap.size 9 i0 (.string ⟨#[]⟩) 1 16 Tryd.underlying22 HI.out.1 HI.out.2.1 HI.out.2.2.1 HI.out.2.2.2 rfl (by decide) _ _ _ rfl (World.ownsRow.alloc (HO2.out.ext (ext_drewN (Ext.refl _) _)) _) ⟨_, 0, none⟩ 1 1 [.string ss[m]] rfl rfl (cell_one_new _ _ _) (oneS _) (by unfold maxLen; omega) (by omega) (by have := (hx.trans hx2).size; simp; omega) ?_; intro v' w5 hown' hgr' _)
              have R : RowS w2.heap.size w5 v' (ts ++ [ss[m]]) := by
                unfold RowS
                rw [List.length_append, List.map_append]
                exact hown'
              have X : Ext w2 w5 := ext_grown ((ext_drewN (hx.trans hx2) _).alloc _) hgr' (fun j hj => HO2.out.own_le j hj)
              clear hown' hgr'
              go_wp2
              go_roundw
              case rel =>
                refine ⟨E, f, ts ++ [ss[m]], hEle, by omega, rfl, ?_, HTN.out, R, X⟩
                have e := HG.out
                rw [path_step hlt HFY.out, ← HEE.out] at e
                rw [List.append_assoc]
                exact e
              case measure => simp [intOf]; omega
          · have t2 : (kk.toList == (q.extract p E).toList) = false := by rw [beqS, decide_eq_false hE2]
            have HNN := Lib.hid (find_no hlm HNO.out (goF_no1 (fun hc => hE2 (by rw [HQ.out, HEE.out]; exact hc.2))))
            clear hE2 hE
            go_wp2
            go_quiet (first | (exact Calls.quiet_of_same ((prKeys_any _ _ HW.out).mono fun e w' h => ⟨(h.1.trans (by rw [← HQ.out]) : e = Ending.returned (.string kk)), h.2.symm⟩)))
            go_wp2
            exact ⟨⟨m + 1, by omega, by go_num, rfl, HNN.out, HO2.out.ext (ext_drewN (Ext.refl _) _), ext_drewN hx2 _⟩, by simp [intOf]; omega⟩
        · exact absurd (by have := HNO.out; rwa [List.take_of_length_le (by omega)] at this) (goF_some HD.out q p hlt hz20)
    · obtain rfl : p = q.size := by omega
      go_wp2
      go_ret2
      have e : ts = firstF ss q := by have := HG.out; rwa [path_end _ _ _ _ _ (Nat.le_refl _), List.append_nil] at this
      exact ⟨_, rfl, by rw [← e]; exact HO.out.down x2.size, x2.trans hx⟩

end Go.Proofs.YtioinihlahnbfaaDoor
