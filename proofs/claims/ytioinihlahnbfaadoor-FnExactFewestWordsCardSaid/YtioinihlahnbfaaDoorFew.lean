/- The fewest words of a split, from each place on: the model's tables, both. No conditions but the dictionary's. -/
import Derived.Test.YtioinihlahnbfaaDoorFewN
import Derived.Deep.QuietTactic
import Derived.BigQuiet
namespace Go.Proofs.YtioinihlahnbfaaDoor
open Go.RowKit

/-- The model's second table when the keys from i on are done; and while the words are gone through at a place. -/
def fFrom (ss : List ByteArray) (q : ByteArray) (i : Nat) (j : Nat) : Int := if i ≤ j ∧ j ≤ q.size then encF (fq ss q j) else 0
def fWord (ss : List ByteArray) (q : ByteArray) (k m : Nat) (j : Nat) : Int := if j = k then encF (wm ss q k (ss.take m)) else if k < j ∧ j ≤ q.size then encF (fq ss q j) else 0
theorem fWord_start (ss : List ByteArray) (q : ByteArray) (k : Nat) (j : Nat) : (if j = k then (-1 : Int) else fFrom ss q (k + 1) j) = fWord ss q k 0 j := by
  unfold fFrom fWord
  by_cases e : j = k
  · rw [if_pos e, if_pos e, List.take_zero]; rfl
  · rw [if_neg e, if_neg e]
    by_cases h : k + 1 ≤ j ∧ j ≤ q.size
    · rw [if_pos h, if_pos (by omega)]
    · rw [if_neg h, if_neg (by omega)]
theorem fWord_next (ss : List ByteArray) (q : ByteArray) (k m : Nat) (h : m < ss.length) (hf : fits q k ss[m]) (hz : ¬ tq ss q (k + ss[m].size) = 0) (j : Nat) : fWord ss q k (m + 1) j = if j = k then encF (min (wm ss q k (ss.take m)) (fq ss q (k + ss[m].size) + 1)) else fWord ss q k m j := by
  unfold fWord
  by_cases e : j = k
  · rw [if_pos e, if_pos e, takeS ss m h, wm_yes hf hz]
  · rw [if_neg e, if_neg e, if_neg e]
theorem fWord_same (ss : List ByteArray) (q : ByteArray) (k m : Nat) (h : m < ss.length) (hn : ¬ (fits q k ss[m] ∧ ¬ tq ss q (k + ss[m].size) = 0)) (j : Nat) : fWord ss q k m j = fWord ss q k (m + 1) j := by
  unfold fWord
  by_cases e : j = k
  · rw [if_pos e, if_pos e, takeS ss m h, wm_no hn]
  · rw [if_neg e, if_neg e]
theorem fWord_end {ss : List ByteArray} (hd : dicB ss = true) (q : ByteArray) (hq : q.size ≤ 20) (k m : Nat) (hk : k < q.size) (hm : m = ss.length) (j : Nat) : fWord ss q k m j = fFrom ss q k j := by
  unfold fFrom fWord
  subst hm
  by_cases e : j = k
  · subst e
    rw [if_pos rfl, if_pos (by omega), List.take_length, wm_all hd q hq j hk]
  · rw [if_neg e]
    by_cases h2 : k < j ∧ j ≤ q.size
    · rw [if_pos h2, if_pos (by omega)]
    · rw [if_neg h2, if_neg (by omega)]
theorem wrap_id {x : Int} (h0 : 0 ≤ x) (h : x < 9223372036854775808) : IntKind.i64.wrap x = x := w64_small h0 h
/-- The two lists that the model's tables come in. -/
def Tabs2 (ss : List ByteArray) (q : ByteArray) (w : World) (e : Ending) (w' : World) : Prop := ∃ g1 g2, e = .returned (.tuple #[.slice (some ⟨g1, 0, none⟩) (q.size + 1) (q.size + 1), .slice (some ⟨g2, 0, none⟩) (q.size + 1) (q.size + 1)]) ∧ RowN w.heap.size w' g1 (q.size + 1) (tFrom ss q 0) ∧ RowN w.heap.size w' g2 (q.size + 1) (fFrom ss q 0) ∧ Ext w w'

set_option maxRecDepth 100000 in
set_option maxHeartbeats 8000000 in
theorem wdTables2_any (v : Value) (ss : List ByteArray) (q : ByteArray) (w : World) (h : Strs w v ss) (hd : dicB ss = true) (hq : q.size ≤ 20) : Calls Tryd.prog 45 #[v, .string q] w (Tabs2 ss q w) := by
  have HS := Lib.hid h
  obtain ⟨hl1, hl2⟩ := dicB_len hd
  have HD := Lib.hid hd
  obtain ⟨a, cap, hv, hnil⟩ := h.at
  rw [hv] at HS ⊢
  clear hv hnil h v hd
  obtain ⟨i0, hi, hz0, hzs, hzb⟩ := info_parts info_intW
  have HI := Lib.hid (show Tryd.prog.info? 3 = some i0 ∧ i0.zero = some (.int .i64 0) ∧ i0.size = 1 ∧ i0.bytes = 8 from ⟨hi, hz0, hzs, hzb⟩)
  clear hi hz0 hzs hzb
  obtain ⟨N, hN⟩ : ∃ N, N = q.size + 1 := ⟨_, rfl⟩
  have HN := Lib.hid hN
  have hNI : (q.size : Int) + 1 = (N : Int) := by omega
  have hN21 : N ≤ 21 := by omega
  clear hN
  go_enter Tryd.func45, Tryd.ntmps45
  go_upto_region 2 with (at_make; refine wpList_make_full _ rfl _ _ 50 rfl w.heap.size 3 i0 (.int .i64 0) 1 Tryd.underlying50 HI.out.1 HI.out.2.1 HI.out.2.2.1 .i64 .i64 _ _ N rfl rfl rfl rfl (by rw [HI.out.2.2.2]; omega) (by unfold maxLen; omega) (Nat.le_refl _) ?_; intro w1 hown1 hgr1)
  have X1 : Ext w w1 := ext_grown (Ext.refl w) hgr1 (by intro k hk; cases hk)
  have HO1 := Lib.hid hown1
  have hg1 : w.heap.size < w1.heap.size := (World.ownsRow.lt hown1 w.heap.size rfl).2
  clear hown1 hgr1
  go_upto_region 3 with (at_make; refine wpList_make_full _ rfl _ _ 50 rfl w.heap.size 3 i0 (.int .i64 0) 1 Tryd.underlying50 HI.out.1 HI.out.2.1 HI.out.2.2.1 .i64 .i64 _ _ N rfl rfl rfl rfl (by rw [HI.out.2.2.2]; omega) (by unfold maxLen; omega) X1.size ?_; intro w2 hown2 hgr2)
  have X12 : Ext w1 w2 := ext_grown (Ext.refl w1) hgr2 (by intro k hk; cases hk)
  have X2 : Ext w w2 := X1.trans X12
  have hR1 : RowN w.heap.size w2 w.heap.size N (fun _ => 0) := (RowN.some HO1.out rfl).ext X12
  have hR2 : RowN w.heap.size w2 w1.heap.size N (fun _ => 0) := RowN.some hown2 rfl
  have c0 := hR1.at q.size (by omega)
  have f0 := hR1.fr q.size
  have hqN : q.size < N := by omega
  have hqi : (q.size : Int) < (N : Int) := by omega
  have R1 := Lib.hid hR1
  have R2 := Lib.hid hR2
  have hg21 : ¬ w.heap.size = w1.heap.size := by omega
  clear hR1 hR2 hown2 hgr2
  go_wp2
  go_loopw [8] (fun f wr => ∃ i : Nat, i ≤ q.size ∧ f = .int .i64 ((i : Int) - 1) ∧ RowN w.heap.size wr w.heap.size N (tFrom ss q i) ∧ RowN w.heap.size wr w1.heap.size N (fFrom ss q i) ∧ Ext w wr) (fun f _ => (intOf f + 1).toNat)
  case atStart =>
    refine ⟨q.size, Nat.le_refl _, rfl, (R1.out.set q.size 1).congr fun j hj => ?_, (R2.out.other (fun e => hg21 e.symm) _).congr fun j hj => ?_, X2.setCell (Nat.le_refl _) _⟩
    · unfold tFrom
      by_cases e : j = q.size
      · subst e
        rw [if_pos rfl, if_pos (by omega), tq_end]
      · rw [if_neg e, if_neg (by omega)]
    · unfold fFrom
      by_cases e : j = q.size
      · subst e
        rw [if_pos (by omega), fq_end]; rfl
      · rw [if_neg (by omega)]
  case round =>
    obtain ⟨i, hi, rfl, hT, hF, hx⟩ := hrel
    have HT := Lib.hid hT
    have HF := Lib.hid hF
    clear hT
    by_cases h0 : i = 0
    · subst h0
      go_wp2
      go_ret2
      exact ⟨w.heap.size, w1.heap.size, by rw [HN.out]; rfl, by rw [← HN.out]; exact HT.out, by rw [← HN.out]; exact HF.out, hx⟩
    obtain ⟨k, rfl⟩ : ∃ k, i = k + 1 := ⟨i - 1, by omega⟩
    have hfk : (((k + 1 : Nat) : Int) - 1) = (k : Int) := by omega
    rw [hfk]
    clear hfk h0
    have hkN : k < N := by omega
    have hki : (k : Int) < (N : Int) := by omega
    have d0 := hF.at k hkN
    have d1 := hF.fr k
    clear hF
    go_wp2
    go_loopw [36] (fun i wx => ∃ m : Nat, m ≤ ss.length ∧ i = .int .i64 m ∧ RowN w.heap.size wx w.heap.size N (tWord ss q k m) ∧ RowN w.heap.size wx w1.heap.size N (fWord ss q k m) ∧ Ext w wx) (fun i _ => ss.length - (intOf i).toNat)
    case atStart =>
      exact ⟨0, Nat.zero_le _, rfl, (HT.out.other hg21 _).congr (fun j _ => tWord_start ss q k j), (HF.out.set k (-1)).congr (fun j _ => fWord_start ss q k j), hx.setCell X1.size _⟩
    case round =>
      obtain ⟨m, hm, rfl, hT2, hF2, hx2⟩ := hrel
      have HT2 := Lib.hid hT2
      have HF2 := Lib.hid hF2
      by_cases hlt : m < ss.length
      · rcases (HS.out.ext hx2).2.2 with ⟨h3, _⟩ | ⟨b, off, cap', h4, hb, hc⟩
        · rw [h3] at hlt; exact absurd hlt (by simp)
        have ha : a = some ⟨b, off, none⟩ := by injection h4
        have e1 := hc m hlt
        have HW := Lib.hid (wdW_isW (dicB_at HD.out m hlt))
        obtain ⟨hz1, hz2⟩ := isW_size HW.out
        have hz10 := wdW_size (dicB_at HD.out m hlt)
        have HNX := Lib.hid (tWord_next ss q k m hlt)
        obtain ⟨p, hp⟩ : ∃ p, p = keysB ss[m] := ⟨_, rfl⟩
        have HQ := Lib.hid hp
        clear hp
        rw [ha]
        clear hc h4 ha hb hT2 hF2
        by_cases hE1 : q.size < k + ss[m].size
        · have HZ := Lib.hid (show term q (tq ss q) k ss[m] = 0 by unfold term; rw [if_neg (by omega)])
          have HFZ := Lib.hid (fWord_same ss q k m hlt (fun h => by have := h.1.1; omega))
          have hE1i : (q.size : Int) < (k : Int) + (ss[m].size : Int) := by omega
          go_wp2
          go_quiet (first | (exact Calls.quiet_of_same ((prKeys_any _ _ HW.out).mono fun e w' h => ⟨(h.1.trans (by rw [← HQ.out]) : e = Ending.returned (.string p)), h.2.symm⟩)))
          go_wp2
          go_roundw
          case rel => exact ⟨m + 1, by omega, by go_num, (HT2.out.congr (fun j _ => tWord_same ss q k m hlt HZ.out j)).ext (ext_drewN (Ext.refl _) _), (HF2.out.congr (fun j _ => HFZ.out j)).ext (ext_drewN (Ext.refl _) _), ext_drewN hx2 _⟩
          case measure => simp [intOf]; omega
        have hke : k ≤ k + ss[m].size := by omega
        have hen : k + ss[m].size ≤ q.size := by omega
        have heI : (k : Int) + (ss[m].size : Int) ≤ (q.size : Int) := by omega
        obtain ⟨E, hE⟩ : ∃ E, E = k + ss[m].size := ⟨_, rfl⟩
        have HEE := Lib.hid hE
        have hEi : (k : Int) + (ss[m].size : Int) = (E : Int) := by omega
        have hEN : E < N := by omega
        have hENi : (E : Int) < (N : Int) := by omega
        have hEle : E ≤ q.size := by omega
        have hkE : k ≤ E := by omega
        have hkE2 : k < E := by omega
        clear hE hen heI hke
        by_cases hE2 : p = q.extract k E
        · have t1 : (p.toList == (q.extract k E).toList) = true := by rw [beqS, decide_eq_true hE2]
          obtain ⟨T, hTe⟩ : ∃ T, T = tq ss q E := ⟨_, rfl⟩
          have c2 := HT2.out.at E hEN
          have hTE : tWord ss q k m E = T := by unfold tWord; rw [if_neg (by omega), if_pos (by omega), hTe]
          rw [hTE] at c2
          have HTERM := Lib.hid (show term q (tq ss q) k ss[m] = T by unfold term; rw [if_pos ⟨by rw [← HEE.out]; exact hEle, by rw [← HQ.out, ← HEE.out]; exact hE2⟩, ← HEE.out, hTe])
          have HTT := Lib.hid hTe
          have HFI := Lib.hid (show fits q k ss[m] from ⟨by rw [← HEE.out]; exact hEle, by rw [← HQ.out, ← HEE.out]; exact hE2⟩)
          clear hE2 hTE hTe
          by_cases hT0 : T = 0
          · have t2 : (T == 0) = true := by simp [hT0]
            have HZ := Lib.hid (show term q (tq ss q) k ss[m] = 0 by rw [HTERM.out, hT0])
            have HFZ := Lib.hid (fWord_same ss q k m hlt (fun h => h.2 (by rw [← HEE.out, ← HTT.out]; exact hT0)))
            clear hT0
            go_wp2
            go_quiet (first | (exact Calls.quiet_of_same ((prKeys_any _ _ HW.out).mono fun e w' h => ⟨(h.1.trans (by rw [← HQ.out]) : e = Ending.returned (.string p)), h.2.symm⟩)))
            go_wp2
            go_roundw
            case rel => exact ⟨m + 1, by omega, by go_num, (HT2.out.congr (fun j _ => tWord_same ss q k m hlt HZ.out j)).ext (ext_drewN (Ext.refl _) _), (HF2.out.congr (fun j _ => HFZ.out j)).ext (ext_drewN (Ext.refl _) _), ext_drewN hx2 _⟩
            case measure => simp [intOf]; omega
          · have t2 : (T == 0) = false := by simp [hT0]
            have HTN := Lib.hid (show ¬ tq ss q E = 0 by rw [← HTT.out]; exact hT0)
            have HFN := Lib.hid (fWord_next ss q k m hlt HFI.out (by rw [← HEE.out]; exact HTN.out))
            clear hT0
            obtain ⟨S, hS⟩ : ∃ S, S = tWord ss q k m k := ⟨_, rfl⟩
            obtain ⟨A, hA⟩ : ∃ A, A = w64 (S + T) := ⟨_, rfl⟩
            have c1 := HT2.out.at k hkN
            rw [← hS] at c1
            have f1 := HT2.out.fr k
            have W1 : IntKind.i64.wrap (S + T) = A := hA.symm
            have HNXT := Lib.hid (show ∀ j, (if j = k then A else tWord ss q k m j) = tWord ss q k (m + 1) j from fun j => by rw [HNX.out j, HTERM.out, ← hS, hA])
            obtain ⟨X, hX⟩ : ∃ X, X = wm ss q k (ss.take m) := ⟨_, rfl⟩
            obtain ⟨Y, hY⟩ : ∃ Y, Y = fq ss q E := ⟨_, rfl⟩
            have hY20 : Y ≤ 19 := by have := fq_small HD.out q hq E hEle HTN.out; omega
            obtain ⟨F0, hF0⟩ : ∃ F, F = encF X := ⟨_, rfl⟩
            have hF0k : fWord ss q k m k = F0 := by unfold fWord; rw [if_pos rfl, hF0, hX]
            have hF1E : fWord ss q k m E = (Y : Int) := by unfold fWord; rw [if_neg (by omega), if_pos (by omega), ← hY, encF_lt (by omega)]
            obtain ⟨G, hG⟩ : ∃ G : Int, G = (Y : Int) + 1 := ⟨_, rfl⟩
            have HFN2 := Lib.hid (show ∀ j, (if j = k then encF (min X (Y + 1)) else fWord ss q k m j) = fWord ss q k (m + 1) j from fun j => by rw [HFN.out j, ← HEE.out, ← hX, ← hY])
            have b1 := HF2.out.at k hkN
            rw [hF0k] at b1
            have b2 := HF2.out.at E hEN
            rw [hF1E] at b2
            have bf := HF2.out.fr k
            have W2 : IntKind.i64.wrap ((Y : Int) + 1) = G := by rw [hG]; exact wrap_id (by omega) (by omega)
            have hg12 : ¬ w1.heap.size = w.heap.size := fun e => hg21 e.symm
            have HE0 := Lib.hid hF0
            have HG0 := Lib.hid hG
            have HXX := Lib.hid hX
            have HX21 := Lib.hid (show X ≤ 21 by rw [hX]; exact wm_le ss q k _)
            clear hS hA hF0 hG hX hY hF0k hF1E
            go_wp2
            go_quiet (first | (exact Calls.quiet_of_same ((prKeys_any _ _ HW.out).mono fun e w' h => ⟨(h.1.trans (by rw [← HQ.out]) : e = Ending.returned (.string p)), h.2.symm⟩)))
            go_wp2
            go_region
            go_wp2
            by_cases hn0 : F0 < 0
            · have HV := Lib.hid (show G = encF (min X (Y + 1)) by rw [HG0.out]; rw [HE0.out] at hn0; unfold encF at hn0; split at hn0 <;> first | omega | (rw [encF_lt (by omega)]; omega))
              go_quiet (fail)
              go_wp2
              refine ⟨⟨m + 1, by omega, by go_num, RowN.other ((((HT2.out.ext (ext_drewN (Ext.refl _) _)).set k A).congr (fun j _ => HNXT.out j)).ext (ext_drewN (Ext.refl _) _)) hg21 _, (RowN.set ((((HF2.out.ext (ext_drewN (Ext.refl _) _)).other hg12 _).ext (ext_drewN (Ext.refl _) _))) k G).congr (fun j _ => by rw [← HFN2.out j, HV.out]), (ext_drewN ((ext_drewN hx2 _).setCell (Nat.le_refl _) _) _).setCell X1.size _⟩, ?_⟩
              simp [intOf]
              omega
            · by_cases hn1 : G < F0
              · have HV := Lib.hid (show G = encF (min X (Y + 1)) by rw [HG0.out]; rw [HE0.out, HG0.out] at hn1; unfold encF at hn1; split at hn1 <;> first | omega | (rw [encF_lt (by omega)]; omega))
                go_quiet (fail)
                go_wp2
                refine ⟨⟨m + 1, by omega, by go_num, RowN.other ((((HT2.out.ext (ext_drewN (Ext.refl _) _)).set k A).congr (fun j _ => HNXT.out j)).ext (ext_drewN (Ext.refl _) _)) hg21 _, (RowN.set ((((HF2.out.ext (ext_drewN (Ext.refl _) _)).other hg12 _).ext (ext_drewN (Ext.refl _) _))) k G).congr (fun j _ => by rw [← HFN2.out j, HV.out]), (ext_drewN ((ext_drewN hx2 _).setCell (Nat.le_refl _) _) _).setCell X1.size _⟩, ?_⟩
                simp [intOf]
                omega
              · have HV := Lib.hid (show F0 = encF (min X (Y + 1)) by rw [HE0.out] at hn0 hn1 ⊢; rw [HG0.out] at hn1; have := HX21.out; unfold encF at hn0 hn1; split at hn0 <;> first | omega | (rename_i hx21; rw [if_pos hx21] at hn1; rw [show min X (Y + 1) = X by omega]))
                have HSM := Lib.hid (show ∀ j, fWord ss q k m j = fWord ss q k (m + 1) j from fun j => by
                  rw [← HFN2.out j]
                  by_cases e : j = k
                  · subst e; rw [if_pos rfl, ← HV.out]; unfold fWord; rw [if_pos rfl, HE0.out, HXX.out]
                  · rw [if_neg e])
                go_quiet (fail)
                go_wp2
                go_roundw
                case rel => exact ⟨m + 1, by omega, by go_num, ((((HT2.out.ext (ext_drewN (Ext.refl _) _)).set k A).congr (fun j _ => HNXT.out j)).ext (ext_drewN (Ext.refl _) _)), (((HF2.out.ext (ext_drewN (Ext.refl _) _)).other hg12 _).ext (ext_drewN (Ext.refl _) _)).congr (fun j _ => HSM.out j), ext_drewN ((ext_drewN hx2 _).setCell (Nat.le_refl _) _) _⟩
                case measure => simp [intOf]; omega
        · have HZ := Lib.hid (show term q (tq ss q) k ss[m] = 0 by unfold term; rw [if_neg (fun h => hE2 (by rw [HQ.out, HEE.out]; exact h.2))])
          have HFZ := Lib.hid (fWord_same ss q k m hlt (fun h => hE2 (by rw [HQ.out, HEE.out]; exact h.1.2)))
          have t1 : (p.toList == (q.extract k E).toList) = false := by rw [beqS, decide_eq_false hE2]
          clear hE2
          go_wp2
          go_quiet (first | (exact Calls.quiet_of_same ((prKeys_any _ _ HW.out).mono fun e w' h => ⟨(h.1.trans (by rw [← HQ.out]) : e = Ending.returned (.string p)), h.2.symm⟩)))
          go_wp2
          go_roundw
          case rel => exact ⟨m + 1, by omega, by go_num, (HT2.out.congr (fun j _ => tWord_same ss q k m hlt HZ.out j)).ext (ext_drewN (Ext.refl _) _), (HF2.out.congr (fun j _ => HFZ.out j)).ext (ext_drewN (Ext.refl _) _), ext_drewN hx2 _⟩
          case measure => simp [intOf]; omega
      · have HE := HT2.out.congr (fun j _ => tWord_end ss q k m (by omega) (fun t ht => (isW_size (wdW_isW (dicB_mem HD.out t ht))).1) (by omega) j)
        go_wp2
        go_roundw
        case rel => exact ⟨k, by omega, rfl, HE, HF2.out.congr (fun j _ => fWord_end HD.out q hq k m (by omega) (by omega) j), hx2⟩
        case measure => simp [intOf]

end Go.Proofs.YtioinihlahnbfaaDoor
