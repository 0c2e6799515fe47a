/- The fewest words of a split, from each place on: the program's table. No conditions but the table's content. -/
import Derived.Test.YtioinihlahnbfaaDoorFewN
import Derived.Deep.RegionHeld3
import Derived.Deep.RegionWith
import Derived.Deep.Cut
import Derived.Deep.QuietTactic
import Derived.BigQuiet
namespace Go.Proofs.YtioinihlahnbfaaDoor
open Go.RowKit

/-- The table when the keys from i on are done; and while the parts of a place are gone through, up to e. -/
def gFrom (ss : List ByteArray) (q : ByteArray) (i : Nat) (j : Nat) : Int := if i ≤ j ∧ j ≤ q.size then (fq ss q j : Int) else 0
def gMid (ss : List ByteArray) (q : ByteArray) (k e : Nat) (j : Nat) : Int := if j = k then (pmin (fun l => fstep ss q k (k + l + 1) (fq ss q (k + l + 1))) (e - (k + 1)) : Int) else if k < j ∧ j ≤ q.size then (fq ss q j : Int) else 0
theorem gMid_start (ss : List ByteArray) (q : ByteArray) (k : Nat) (j : Nat) : (if j = k then (21 : Int) else gFrom ss q (k + 1) j) = gMid ss q k (k + 1) j := by
  unfold gFrom gMid
  by_cases e : j = k
  · rw [if_pos e, if_pos e, Nat.sub_self]; rfl
  · rw [if_neg e, if_neg e]
    by_cases h : k + 1 ≤ j ∧ j ≤ q.size
    · rw [if_pos h, if_pos (by omega)]
    · rw [if_neg h, if_neg (by omega)]
theorem gMid_end (ss : List ByteArray) (q : ByteArray) (k : Nat) (hk : k < q.size) (j : Nat) : gMid ss q k (q.size + 1) j = gFrom ss q k j := by
  unfold gFrom gMid
  by_cases e : j = k
  · subst e
    rw [if_pos rfl, if_pos (by omega), fq_step ss q j hk, show q.size + 1 - (j + 1) = q.size - j by omega]
  · rw [if_neg e]
    by_cases h : k < j ∧ j ≤ q.size
    · rw [if_pos h, if_pos (by omega)]
    · rw [if_neg h, if_neg (by omega)]
theorem gMid_at (ss : List ByteArray) (q : ByteArray) (k e : Nat) : ∃ X : Nat, gMid ss q k e k = (X : Int) ∧ X ≤ 21 := ⟨pmin (fun l => fstep ss q k (k + l + 1) (fq ss q (k + l + 1))) (e - (k + 1)), by unfold gMid; rw [if_pos rfl], ((le_pmin _ _ _).1 (Nat.le_refl _)).1⟩
theorem gMid_next (ss : List ByteArray) (q : ByteArray) (k e : Nat) (hke : k + 1 ≤ e) (_he : e ≤ q.size) (h : 0 < (fors ss (q.extract k e)).length) (j : Nat) : (if j = k then min (gMid ss q k e k) ((fq ss q e : Int) + 1) else gMid ss q k e j) = gMid ss q k (e + 1) j := by
  unfold gMid
  by_cases hj : j = k
  · rw [if_pos hj, if_pos hj, if_pos rfl, show e + 1 - (k + 1) = e - (k + 1) + 1 by omega, pmin, show k + (e - (k + 1)) + 1 = e by omega]
    unfold fstep
    rw [if_pos h]
    omega
  · rw [if_neg hj, if_neg hj, if_neg hj]
theorem gMid_same (ss : List ByteArray) (q : ByteArray) (k e : Nat) (hke : k + 1 ≤ e) (h : ¬ 0 < (fors ss (q.extract k e)).length) (j : Nat) : gMid ss q k e j = gMid ss q k (e + 1) j := by
  unfold gMid
  by_cases hj : j = k
  · rw [if_pos hj, if_pos hj, show e + 1 - (k + 1) = e - (k + 1) + 1 by omega, pmin, show k + (e - (k + 1)) + 1 = e by omega]
    have h1 := ((le_pmin (fun l => fstep ss q k (k + l + 1) (fq ss q (k + l + 1))) _ (e - (k + 1))).1 (Nat.le_refl _)).1
    unfold fstep at h1 ⊢
    rw [if_neg h]
    omega
  · rw [if_neg hj, if_neg hj]
theorem gMid_past (ss : List ByteArray) (q : ByteArray) (k e : Nat) (h1 : k < e) (h2 : e ≤ q.size) : gMid ss q k e e = (fq ss q e : Int) := by
  unfold gMid
  rw [if_neg (by omega), if_pos ⟨h1, h2⟩]

set_option maxRecDepth 100000 in
set_option maxHeartbeats 4000000 in
theorem fewestFrom_any (B n : Nat) (ss : List ByteArray) (q : ByteArray) (w : World) (h : Kept B n w ss) (hq : okQ q) : Calls Tryd.prog 47 #[.map (some B), .string q] w fun e w' => e = .returned (.agg (tabL (gFrom ss q 0)).toArray) ∧ Ext w w' := by
  have hz := hq.1
  have HK := Lib.hid h
  have HOQ := Lib.hid hq
  clear h hq
  obtain ⟨W, hW⟩ : ∃ W, W = (w.alloc (.cells zero21 55)).alloc (.cells zero21 55) := ⟨_, rfl⟩
  have hT0 : TabI W (w.heap.size + 1) (fun _ => 0) := by rw [hW]; unfold TabI; rw [← zero21_eq]; exact heap_alloc2_new w _ _
  have hR0 : TabI W w.heap.size (fun _ => 0) := by rw [hW]; unfold TabI; rw [← zero21_eq]; exact heap_alloc2_old w _ _
  have X0 : Ext w W := by rw [hW]; exact ((Ext.refl _).alloc _).alloc _
  unfold zero21 at hW
  have T0 := Lib.hid hT0
  have R0 := Lib.hid hR0
  clear hT0 hR0
  go_enter Tryd.func47, Tryd.ntmps47
  go_wp2
  rw [← hW]
  clear hW
  go_loopw [6] (fun f wr => ∃ i : Nat, i ≤ q.size ∧ f = .int .i64 ((i : Int) - 1) ∧ TabI wr (w.heap.size + 1) (gFrom ss q i) ∧ TabI wr w.heap.size (fun _ => 0) ∧ Ext w wr) (fun f _ => (intOf f + 1).toNat)
  case atStart =>
    refine ⟨q.size, Nat.le_refl _, rfl, T0.out.congr fun j hj => ?_, R0.out, X0⟩
    unfold gFrom
    by_cases e : j = q.size
    · subst e
      rw [if_pos (by omega), fq_end]; rfl
    · rw [if_neg (by omega)]
  case round =>
    obtain ⟨i, hi, rfl, hT, hR, hx⟩ := hrel
    have HT := Lib.hid hT
    have HR := Lib.hid hR
    clear hT hR
    by_cases h0 : i = 0
    · subst h0
      have HN := Lib.hid (show (Tryd.prog.info? 55).map (·.size) = some (tabL (gFrom ss q 0)).toArray.size by rw [List.size_toArray, tabL_len]; kernel_rfl)
      have h21 : (tabL (gFrom ss q 0)).length = 21 := tabL_len _
      obtain ⟨W4, hst, hg4, X4⟩ := tab_store wr w.heap.size (fun _ => 0) (gFrom ss q 0) HR.out hx (Nat.le_refl _)
      have G4 := Lib.hid hg4
      clear hg4
      go_wp2_with (first | (refine wpList_load_row rfl _ _ rfl (w.heap.size + 1) rfl 55 (tabL (gFrom ss q 0)).toArray (0, 0) _ HT.out Tryd.underlying55 rfl HN.out ?_))
      exact bodyPost_ret (results_cell_row (P := Tryd.prog) (p := 4) (ty := 55) rfl _ _ w.heap.size 55 (tabL (gFrom ss q 0)).toArray (0, 0) _ rfl G4.out Tryd.underlying55 rfl HN.out) rfl ⟨rfl, X4⟩
    obtain ⟨k, rfl⟩ : ∃ k, i = k + 1 := ⟨i - 1, by omega⟩
    have hfk : (((k + 1 : Nat) : Int) - 1) = (k : Int) := by omega
    rw [hfk]
    clear hfk h0
    have hk21 : k < 21 := by omega
    have hki : (k : Int) < 21 := by omega
    have c0 := HT.out.at k hk21
    have f0 := HT.out.fr k
    go_wp2
    go_loopw [7] (fun tt wx => ∃ e : Nat, k + 1 ≤ e ∧ e ≤ q.size + 1 ∧ tt = .int .i64 (e : Int) ∧ TabI wx (w.heap.size + 1) (gMid ss q k e) ∧ TabI wx w.heap.size (fun _ => 0) ∧ Ext w wx) (fun tt _ => q.size + 1 - (intOf tt).toNat)
    case atStart =>
      refine ⟨k + 1, Nat.le_refl _, by omega, by go_num, (HT.out.set k 21).congr (fun j _ => gMid_start ss q k j), ?_, hx.setCell (Nat.le_succ _) _⟩
      unfold TabI
      rw [heap_setCell_other wr _ _ _ (by simp)]
      exact HR.out
    case round =>
      obtain ⟨e, he1, he2, rfl, hT2, hR2, hx2⟩ := hrel
      have HT2 := Lib.hid hT2
      have HR2 := Lib.hid hR2
      clear hT2 hR2
      by_cases hle : e ≤ q.size
      · have HQE := Lib.hid (okQ_part HOQ.out k e (by omega) hle)
        obtain ⟨S, hS, hS21⟩ := gMid_at ss q k e
        obtain ⟨T, hTe⟩ : ∃ T, T = fq ss q e := ⟨_, rfl⟩
        have hT21 : T ≤ 21 := by rw [hTe]; exact fq_le ss q e hle
        obtain ⟨L, hL⟩ : ∃ L, L = (fors ss (q.extract k e)).length := ⟨_, rfl⟩
        have HLL := Lib.hid hL
        have hc := HT2.out.at k (by omega)
        rw [hS] at hc
        have hd := HT2.out.at e (by omega)
        rw [gMid_past ss q k e (by omega) hle, ← hTe] at hd
        have hf := HT2.out.fr k
        have HC := Lib.hid hc
        have HDD := Lib.hid hd
        have HF := Lib.hid hf
        have HSS := Lib.hid hS
        have HTT := Lib.hid hTe
        have hlt2 := HT2.out.lt
        have hke : k ≤ e := by omega
        have he21 : e < 21 := by omega
        have hei : (e : Int) < 21 := by omega
        have hqi : (e : Int) ≤ (q.size : Int) := by omega
        by_cases hL0 : 0 < L
        · have hL0i : (0 : Int) < (L : Int) := by omega
          obtain ⟨G, hG⟩ : ∃ G : Int, G = (T : Int) + 1 := ⟨_, rfl⟩
          have W1 : IntKind.i64.wrap ((T : Int) + 1) = G := by rw [hG]; exact w64_small (by omega) (by omega)
          have HGG := Lib.hid hG
          have HNX := Lib.hid (fun j => gMid_next ss q k e he1 hle (by rw [← HLL.out]; exact hL0) j)
          clear hS hTe hL hL0 hG
          go_wp2_with (go_at_call 51; refine (with_any B n ss (q.extract k e) _ (kept_grown HK.out hx2) HQE.out).mono ?_; rintro e w9 ⟨v9, rfl, r9, x9⟩; obtain ⟨a9, cap9, rfl⟩ := r9.shape; rw [← HLL.out])
          have X9 : Ext w w9 := hx2.trans x9
          have d1 := (x9.cell (p := ⟨w.heap.size + 1, k, none⟩) hlt2).trans HC.out
          have d2 := (x9.cell (p := ⟨w.heap.size + 1, e, none⟩) hlt2).trans HDD.out
          have d3 := (x9.frozen (p := ⟨w.heap.size + 1, k, none⟩) hlt2).trans HF.out
          clear hc hd hf
          have T9 := Lib.hid ((HT2.out.ext x9).set k (min (S : Int) G))
          have T9' := Lib.hid (T9.out.congr (t' := gMid ss q k (e + 1)) (fun j _ => by rw [← HNX.out j, HSS.out, HGG.out, HTT.out]))
          have R9 := Lib.hid (show TabI (w9.setCell ⟨w.heap.size + 1, k, none⟩ (.int .i64 (min (S : Int) G))) w.heap.size (fun _ => 0) from by
            unfold TabI
            rw [heap_setCell_other w9 _ _ _ (by simp)]
            exact HR2.out.ext x9)
          go_region
          go_wp2
          go_roundw
          case rel => exact ⟨e + 1, by omega, by omega, by go_num, T9'.out.ext (ext_drewN (Ext.refl _) 1), R9.out.ext (ext_drewN (Ext.refl _) 1), ext_drewN (X9.setCell (p := ⟨w.heap.size + 1, k, none⟩) (Nat.le_succ _) _) 1⟩
          case measure => simp [intOf]; omega
        · have hL0i : ¬ (0 : Int) < (L : Int) := by omega
          have HNX := Lib.hid (fun j => gMid_same ss q k e he1 (by rw [← HLL.out]; exact hL0) j)
          clear hS hTe hL hL0
          go_wp2_with (go_at_call 51; refine (with_any B n ss (q.extract k e) _ (kept_grown HK.out hx2) HQE.out).mono ?_; rintro e w9 ⟨v9, rfl, r9, x9⟩; obtain ⟨a9, cap9, rfl⟩ := r9.shape; rw [← HLL.out])
          go_roundw
          case rel => exact ⟨e + 1, by omega, by omega, by go_num, (HT2.out.ext x9).congr (fun j _ => HNX.out j), HR2.out.ext x9, hx2.trans x9⟩
          case measure => simp [intOf]; omega
      · have HE := Lib.hid (HT2.out.congr (t' := gFrom ss q k) (fun j _ => by rw [show e = q.size + 1 by omega]; exact gMid_end ss q k (by omega) j))
        go_wp2
        go_roundw
        case rel => exact ⟨k, by omega, by go_num, HE.out, HR2.out, hx2⟩
        case measure => simp [intOf]

end Go.Proofs.YtioinihlahnbfaaDoor
