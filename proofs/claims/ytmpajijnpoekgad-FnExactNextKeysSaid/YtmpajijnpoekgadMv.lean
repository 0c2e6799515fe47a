/- For each digit all those to which a piece goes: the program's table. No conditions. -/
import Derived.Test.YtmpajijnpoekgadCw
namespace Go.Proofs.Ytmpajijnpoekgad
open Go.RowKit

def nil1 : Value := .slice none 0 0
/-- Ten lists in a block. -/
def MvB (w : World) (C : Nat) (vs : List Value) : Prop := vs.length = 10 ∧ w.heap[C]? = some (.cells vs.toArray 47)
theorem MvB.lt {w : World} {C : Nat} {vs : List Value} (h : MvB w C vs) : C < w.heap.size := (Array.getElem?_eq_some_iff.1 h.2).1
theorem MvB.at {w : World} {C : Nat} {vs : List Value} (h : MvB w C vs) (r : Nat) (hr : r < 10) : w.cell? ⟨C, r, none⟩ = some (vs.getD r nil1) := by
  rw [cell_of_row w C _ _ _ _ h.2, List.getElem?_toArray, List.getD_eq_getElem?_getD, List.getElem?_eq_getElem (by rw [h.1]; exact hr)]
  rfl
theorem MvB.fr {w : World} {C : Nat} {vs : List Value} (h : MvB w C vs) (j : Nat) : w.frozen? ⟨C, j, none⟩ = false := frozen_of_row w C j _ _ h.2
theorem MvB.set {w : World} {C : Nat} {vs : List Value} (h : MvB w C vs) (r : Nat) (x : Value) : MvB (w.setCell ⟨C, r, none⟩ x) C (vs.set r x) := by
  refine ⟨by rw [List.length_set]; exact h.1, ?_⟩
  rw [heap_setCell_same w C r _ _ x h.2]
  congr 2
  apply Array.toList_inj.1
  simp
theorem MvB.kept {w w' : World} {C : Nat} {vs : List Value} (h : MvB w C vs) (hk : w'.heap[C]? = w.heap[C]?) : MvB w' C vs := ⟨h.1, hk.trans h.2⟩
theorem RowP.keep {C : Nat} {w w' : World} {v : Value} {ps : List Nat} (h : RowP (C + 1) w v ps) (hk : ∀ b, b < w.heap.size → b ≠ C → w'.heap[b]? = w.heap[b]?) : RowP (C + 1) w' v ps := by
  refine ⟨h.1, ?_⟩
  rcases h.2 with hn | ⟨g, cap, cur, h1, h2, h3, h4⟩
  · exact .inl hn
  · exact .inr ⟨g, cap, cur, h1, h2, (hk g (heapLt h3) (by omega)).trans h3, h4⟩
/-- All lists of a piece. -/
def MvR (B : Nat) (w : World) (vs : List Value) (p : Nat) : Prop := vs.length = 10 ∧ ∀ j, j < 10 → RowP B w (vs.getD j nil1) (nx p j)
theorem MvR.ext {B : Nat} {w w' : World} {vs : List Value} {p : Nat} (h : MvR B w vs p) (hx : Ext w w') : MvR B w' vs p := ⟨h.1, fun j hj => (h.2 j hj).ext hx⟩
def GotMv (p : Nat) (w : World) (e : Ending) (w' : World) : Prop := ∃ vs : List Value, e = .returned (.agg vs.toArray) ∧ MvR w.heap.size w' vs p ∧ Ext w w'
theorem getD_set {vs : List Value} {i : Nat} {v : Value} (hi : i < vs.length) (j : Nat) : (vs.set i v).getD j nil1 = if j = i then v else vs.getD j nil1 := by
  rw [List.getD_eq_getElem?_getD, List.getElem?_set]
  by_cases e : i = j
  · subst e; simp [hi]
  · rw [if_neg e, if_neg (fun h => e h.symm), List.getD_eq_getElem?_getD]
theorem oneIM (x : Int) : ∀ u ∈ [Value.int .i64 x], u.oneCell' = true := by intro u hu; simp at hu; subst hu; rfl
theorem RowP.own_leM {B : Nat} {w : World} {v : Value} {ps : List Nat} (h : RowP B w v ps) (j : Nat) (hj : v.ownBlock = some j) : B ≤ j := (World.ownsRow.lt h j hj).1
theorem RowP.setB {B : Nat} {w : World} {v : Value} {ps : List Nat} (h : RowP B w v ps) {p : Addr} (hp : p.block < B) (u : Value) (q : Addr) (hq : q = p := by rfl) : RowP B (w.setCell q u) v ps := by
  subst hq
  refine ⟨h.1, ?_⟩
  rcases h.2 with hn | ⟨g, cap, cur, h1, h2, h3, h4⟩
  · exact .inl hn
  · exact .inr ⟨g, cap, cur, h1, h2, (heap_setCell_other w q g u (by omega)).trans h3, h4⟩
theorem RowP.oneCell {B : Nat} {w : World} {v : Value} {ps : List Nat} (h : RowP B w v ps) : v.oneCell' = true := by
  obtain ⟨a, cap, rfl⟩ := h.shape
  rfl
theorem nil10 : (List.replicate 10 nil1).toArray = #[.slice none 0 0, .slice none 0 0, .slice none 0 0, .slice none 0 0, .slice none 0 0, .slice none 0 0, .slice none 0 0, .slice none 0 0, .slice none 0 0, .slice none 0 0] := rfl
theorem mv_store (wr : World) (R : Nat) (cs0 vs : List Value) (h0 : cs0.length = 10) (h : wr.heap[R]? = some (.cells cs0.toArray 47)) (hv : vs.length = 10) (hone : ∀ v ∈ vs, v.oneCell' = true) {w : World} (hx : Ext w wr) (hR : w.heap.size ≤ R) : ∃ W4, (storeCells ⟨R, 0, none⟩ vs).run Try.prog wr = .ok () W4 ∧ W4.heap[R]? = some (.cells vs.toArray 47) ∧ Ext w W4 ∧ ∀ k, k ≠ R → W4.heap[k]? = wr.heap[k]? := by
  have hst := run_storeCells_at Try.prog R 0 47 vs 0 cs0.toArray wr h (by rw [List.size_toArray, h0, hv]; decide) hone
  rw [hv, Nat.add_zero, show (cs0.toArray.toList.take 0 ++ vs ++ cs0.toArray.toList.drop (0 + 10)).toArray = vs.toArray by
    rw [List.take_zero, List.nil_append, List.drop_of_length_le (by rw [List.toList_toArray, h0]; decide), List.append_nil]] at hst
  refine ⟨_, hst, setRow_heap _ _ _ _ _ _ h, ⟨hx.os, hx.tape, hx.output, by simpa [World.setRow] using hx.size, fun k hk => (setRow_other wr R k _ (by omega)).trans (hx.block k hk)⟩, fun k hk => setRow_other _ _ k _ hk⟩

set_option maxRecDepth 100000 in
set_option maxHeartbeats 4000000 in
theorem movesOf_any (p : Nat) (w : World) (hp : p < 4) : Calls Try.prog 34 #[.string (pcT p)] w (GotMv p w) := by
  obtain ⟨i0, hi, hz0, hzs, hzb⟩ := info_parts info_intP
  have HI := Lib.hid (show Try.prog.info? 3 = some i0 ∧ i0.zero = some (.int .i64 0) ∧ i0.size = 1 ∧ i0.bytes = 8 from ⟨hi, hz0, hzs, hzb⟩)
  clear hi hz0 hzs hzb
  obtain ⟨W, hW⟩ : ∃ W, W = (w.alloc (.cells #[.slice none 0 0, .slice none 0 0, .slice none 0 0, .slice none 0 0, .slice none 0 0, .slice none 0 0, .slice none 0 0, .slice none 0 0, .slice none 0 0, .slice none 0 0] 47)).alloc (.cells #[.slice none 0 0, .slice none 0 0, .slice none 0 0, .slice none 0 0, .slice none 0 0, .slice none 0 0, .slice none 0 0, .slice none 0 0, .slice none 0 0, .slice none 0 0] 47) := ⟨_, rfl⟩
  have hT0 : MvB W (w.heap.size + 1) (List.replicate 10 nil1) := ⟨rfl, by rw [hW, nil10]; exact heap_alloc2_new w _ _⟩
  have hR0 : W.heap[w.heap.size]? = some (.cells (List.replicate 10 nil1).toArray 47) := by rw [hW, nil10]; exact heap_alloc2_old w _ _
  have X0 : Ext w W := by rw [hW]; exact ((Ext.refl _).alloc _).alloc _
  have T0 := Lib.hid hT0
  have R0 := Lib.hid hR0
  clear hT0 hR0
  go_enter Try.func34, Try.ntmps34
  go_wp2
  rw [← hW]
  clear hW
  obtain ⟨C, hC⟩ : ∃ C, C = w.heap.size + 1 := ⟨_, rfl⟩
  have HCC := Lib.hid hC
  rw [← hC] at T0 ⊢
  clear hC
  go_loopw [6] (fun q wr => ∃ (i : Nat) (vs : List Value), i ≤ 10 ∧ q = .int .i64 i ∧ MvB wr C vs ∧ (∀ j, j < i → RowP (C + 1) wr (vs.getD j nil1) (nx p j)) ∧ (∀ j, i ≤ j → j < 10 → vs.getD j nil1 = nil1) ∧ wr.heap[w.heap.size]? = some (.cells (List.replicate 10 nil1).toArray 47) ∧ Ext w wr) (fun q _ => 10 - (intOf q).toNat)
  case atStart => exact ⟨0, List.replicate 10 nil1, Nat.zero_le _, rfl, T0.out, fun j hj => absurd hj (by omega), fun j _ hj => by rw [List.getD_eq_getElem?_getD, List.getElem?_eq_getElem (by simpa using hj), List.getElem_replicate]; rfl, R0.out, X0⟩
  case round =>
    obtain ⟨i, vs, hi, rfl, hM, hrows, hnil, hRB, hx⟩ := hrel
    have HM := Lib.hid hM
    have HROWS := Lib.hid hrows
    have HNIL := Lib.hid hnil
    have HRB := Lib.hid hRB
    clear hM hrows hnil hRB
    by_cases hlt : i < 10
    · have hii : (i : Int) < 10 := by omega
      obtain ⟨wo, rfl⟩ : ∃ wo, wo = wr := ⟨_, rfl⟩
      go_wp2
      obtain ⟨B0, hB0⟩ : ∃ B, B = wo.heap.size := ⟨_, rfl⟩
      have HB0 := Lib.hid hB0
      have hCB : C < B0 := by rw [hB0]; exact HM.out.lt
      have hwC : w.heap.size < C := by have := HCC.out; omega
      clear hB0
      go_loopw [9] (fun q wy => ∃ (k : Nat) (v : Value), k ≤ 10 ∧ q = .int .i64 k ∧ MvB wy C (vs.set i v) ∧ RowP B0 wy v (nxK p i k) ∧ (∀ b, b < B0 → b ≠ C → wy.heap[b]? = wo.heap[b]?) ∧ B0 ≤ wy.heap.size ∧ Ext w wy) (fun q _ => 10 - (intOf q).toNat)
      case atStart => exact ⟨0, nil1, Nat.zero_le _, rfl, by
        have e : vs.set i nil1 = vs := by
          have h9 := HNIL.out i (Nat.le_refl _) hlt
          rw [List.getD_eq_getElem?_getD, List.getElem?_eq_getElem (by rw [HM.out.1]; exact hlt)] at h9
          have h9 : vs[i]'(by rw [HM.out.1]; exact hlt) = nil1 := h9
          rw [← h9]
          exact List.set_getElem_self _
        rw [e]; exact HM.out, RowP.nil _ _, fun _ _ _ => rfl, Nat.le_of_eq HB0.out, hx⟩
      case round =>
        obtain ⟨k, v, hk, rfl, hM2, hr2, hk2, hsz, hx2⟩ := hrel
        have HM2 := Lib.hid hM2
        have HR2 := Lib.hid hr2
        have HK2 := Lib.hid hk2
        clear hM2 hr2 hk2
        by_cases hlk : k < 10
        · have hki : (k : Int) < 10 := by omega
          have HGO := Lib.hid (fun w => canGo_any p i k w hp hlt hlk)
          cases hg : goB p i k
          · have HN := Lib.hid (nxK_no hg)
            rw [hg] at HGO
            go_wp2_with (go_at_call 70; refine (HGO.out _).mono ?_; rintro e w' ⟨rfl, rfl⟩)
            go_roundw
            case rel => exact ⟨k + 1, v, by omega, by go_num, HM2.out, by rw [HN.out]; exact HR2.out, HK2.out, hsz, hx2⟩
            case measure => simp [intOf] <;> omega
          · have HN := Lib.hid (nxK_yes hg)
            rw [hg] at HGO
            have cV := HM2.out.at i hlt
            rw [getD_set (by rw [HM.out.1]; exact hlt), if_pos rfl] at cV
            have hln := nxK_len p i k
            have hCl := HM2.out.lt
            have Xal : Ext w (wr.alloc (.cells #[.int .i64 (k : Int)] 3)) := hx2.alloc _
            go_wp2_with (first | (go_at_call 70; refine (HGO.out _).mono ?_; rintro e w' ⟨rfl, rfl⟩) | (at_builtin; refine wpList_append_own _ rfl _ _ 32 rfl B0 3 i0 (.int .i64 0) 1 8 Try.underlying32 HI.out.1 HI.out.2.1 HI.out.2.2.1 HI.out.2.2.2 rfl (by decide) v (nxK p i k).length (pcs (nxK p i k)) rfl (World.ownsRow.alloc HR2.out _) ⟨_, 0, none⟩ 1 1 [.int .i64 (k : Int)] rfl rfl (cell_one_new _ _ _) (oneIM _) (by unfold maxLen; omega) (by omega) (by simp; omega) ?_; intro v5 w5 own5 gr5 _; have hBk := HR2.out; have M5 := Lib.hid (show MvB w5 C (vs.set i v) from HM2.out.kept ((gr5.block C (by simp; omega) (fun e => by have := HR2.out.own_leM C e.symm; omega)).trans (heap_alloc_old wr _ hCl))); have R5 := Lib.hid (show RowP B0 w5 v5 (nxK p i (k + 1)) by rw [HN.out]; unfold RowP; rw [List.length_append, pcs_snoc]; exact own5); have K5 := Lib.hid (show ∀ b, b < B0 → b ≠ C → w5.heap[b]? = wo.heap[b]? from fun b hb hbc => ((gr5.block b (by simp; omega) (fun e => by have := HR2.out.own_leM b e.symm; omega)).trans (heap_alloc_old wr _ (by omega))).trans (HK2.out b hb hbc)); have X5 : Ext w w5 := ext_grown Xal gr5 (fun j hj => by have := HR2.out.own_leM j hj; omega); have hs5 : B0 ≤ w5.heap.size := Nat.le_trans hsz (Nat.le_trans (by simp) gr5.size); have c5 := M5.out.at i hlt; have f5 := M5.out.fr i; obtain ⟨ao, cp, hv5⟩ := R5.out.shape; clear own5 gr5; subst hv5))
            go_roundw
            case rel =>
              refine ⟨k + 1, .slice ao (nxK p i (k + 1)).length cp, by omega, by go_num, ?_, ?_, ?_, by simpa using hs5, X5.setCell (p := ⟨C, i, none⟩) (by show w.heap.size ≤ C; omega) _⟩
              · have h9 := M5.out.set i (.slice ao (nxK p i (k + 1)).length cp)
                rw [List.set_set] at h9
                exact h9
              · exact R5.out.setB (p := ⟨C, i, none⟩) hCB _ _
              · intro b hb hbc
                rw [heap_setCell_other w5 _ _ _ hbc]
                exact K5.out b hb hbc
            case measure => simp [intOf] <;> omega
        · obtain rfl : k = 10 := by omega
          go_wp2
          go_roundw
          case rel =>
            refine ⟨i + 1, vs.set i v, by omega, by go_num, HM2.out, ?_, ?_, ?_, hx2⟩
            · intro j hj
              rw [getD_set (by rw [HM.out.1]; exact hlt)]
              by_cases e : j = i
              · rw [if_pos e, e]
                exact HR2.out.down (by omega)
              · rw [if_neg e]
                exact (HROWS.out j (by omega)).keep (fun b hb hbc => HK2.out b (by have := HB0.out; omega) hbc)
            · intro j hj hj2
              rw [getD_set (by rw [HM.out.1]; exact hlt), if_neg (by omega)]
              exact HNIL.out j (by omega) hj2
            · rw [HK2.out _ (by omega) (by omega)]
              exact HRB.out
          case measure => simp [intOf] <;> omega
    · obtain rfl : i = 10 := by omega
      have hone : ∀ v ∈ vs, v.oneCell' = true := by
        intro v hv
        obtain ⟨j, hj, rfl⟩ := List.mem_iff_getElem.1 hv
        have hj10 : j < 10 := by rw [← HM.out.1]; exact hj
        have h9 := (HROWS.out j hj10).oneCell
        rw [List.getD_eq_getElem?_getD, List.getElem?_eq_getElem hj] at h9
        exact h9
      obtain ⟨W4, hst, hg4, X4, hk4⟩ := mv_store wr w.heap.size _ vs (by simp) HRB.out HM.out.1 hone hx (Nat.le_refl _)
      have G4 := Lib.hid hg4
      have hvs := HM.out.1
      have GV := Lib.hid HM.out.2
      have HN := Lib.hid (show (Try.prog.info? 47).map (·.size) = some vs.toArray.size by rw [List.size_toArray, hvs]; kernel_rfl)
      have HF := Lib.hid (show MvR w.heap.size W4 vs p from ⟨hvs, fun j hj => by
        have h9 := HROWS.out j hj
        refine RowP.down (B := C + 1) ⟨h9.1, ?_⟩ (by have := HCC.out; omega)
        rcases h9.2 with hn | ⟨g, cap, cur, h1, h2, h3, h4⟩
        · exact .inl hn
        · exact .inr ⟨g, cap, cur, h1, h2, (hk4 g (by have := HCC.out; omega)).trans h3, h4⟩⟩)
      clear hg4 hk4 hone
      go_wp2_with (first | (refine wpList_load_row rfl _ _ rfl C rfl 47 vs.toArray (0, 0) _ GV.out Try.underlying47 rfl HN.out ?_))
      exact bodyPost_ret (results_cell_row (P := Try.prog) (p := 2) (ty := 47) rfl _ _ w.heap.size 47 vs.toArray (0, 0) _ rfl G4.out Try.underlying47 rfl HN.out) rfl ⟨vs, rfl, HF.out, X4⟩
end Go.Proofs.Ytmpajijnpoekgad
