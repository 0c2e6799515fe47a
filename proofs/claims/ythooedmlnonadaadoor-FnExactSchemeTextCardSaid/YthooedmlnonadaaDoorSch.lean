/- Schemes: how they read, the laws' own copies of them, the model's and the program's tests. No conditions. -/
import Derived.Test.YthooedmlnonadaaDoorToI
import Derived.Deep.MidRow
import Derived.Deep.RegionHeld3
import Derived.ChangeSame
import Derived.DataShut
import Derived.Deep.Slices
namespace Go.Proofs.YthooedmlnonadaaDoor
open Go.RowKit Go.ChangeShapes Go.WideShapes Go.ChangeAt Go.Deep

theorem RowI.ints {B : Nat} {w : World} {v : Value} {zs : List Int} (h : RowI B w v zs) (hl : zs.length ≤ maxLen) : IntsA w v zs := by
  refine ⟨hl, ?_⟩
  obtain ⟨a, cap, rfl⟩ := h.shape
  by_cases h0 : zs = []
  · subst h0
    exact .inl ⟨rfl, a, cap, rfl⟩
  · have hp : 0 < zs.length := List.length_pos_iff.2 h0
    obtain ⟨g, rfl, _, hlt, _⟩ := h.at 0 hp
    refine .inr ⟨g, 0, cap, rfl, hlt, fun j hj => ?_⟩
    obtain ⟨g', e, _, _, hc, _⟩ := h.at j hj
    injection e with e
    injection e with e
    subst e
    rw [Nat.zero_add]
    exact hc
theorem IntsA.get2 {w : World} {a : Option Addr} {cap : Nat} {zs : List Int} (h : IntsA w (.slice a zs.length cap) zs) (j : Nat) (hj : j < zs.length) : ∃ b off, a = some ⟨b, off, none⟩ ∧ b < w.heap.size ∧ w.cell? ⟨b, off + j, none⟩ = some (.int .i64 zs[j]) := by
  rcases h.2 with ⟨rfl, _⟩ | ⟨b, off, cap', e, h2, h3⟩
  · exact absurd hj (Nat.not_lt_zero _)
  · injection e with e1 e2 e3
    exact ⟨b, off, e1, h2, h3 j hj⟩

/-- A copy of a scheme that the call made. -/
def OwnSc (w w' : World) (e : Ending) (m : Int) (zs : List Int) : Prop := ∃ u, e = .returned (.agg #[.int .i64 m, u]) ∧ IntsA w' u zs ∧ RowI w.heap.size w' u zs ∧ Ext w w'

theorem sc_size (m : Int) (u : Value) : (Tryd.prog.info? 34).map (·.size) = some [Value.int .i64 m, u].length := by
  show _ = some 2
  kernel_rfl
theorem scl_size (m : Int) (u : Value) : (Tryd.prog.info? 30).map (·.size) = some [Value.int .i64 m, u].length := by
  show _ = some 2
  kernel_rfl

theorem set_cells2 {w : World} {b j : Nat} {cs : Array Value} {T : TypeId} {u : Value} (h : w.heap[b]? = some (.cells cs T (0, 0))) : (w.setCell ⟨b, j, none⟩ u).heap[b]? = some (.cells (cs.setIfInBounds j u) T (0, 0)) := by
  simp [World.setCell, Array.getElem?_modify, h]
theorem cell_of {w : World} {b j : Nat} {cs : Array Value} {T : TypeId} {v : Value} (h : w.heap[b]? = some (.cells cs T (0, 0))) (hj : cs[j]? = some v) : w.cell? ⟨b, j, none⟩ = some v ∧ w.frozen? ⟨b, j, none⟩ = false := by
  simp [World.cell?, World.frozen?, h, hj]
theorem sc_cells {w w' : World} {m : Int} {u : Value} {T : TypeId} (x : Ext (w.alloc (.cells #[.int .i64 m, u] T)) w') : w'.cell? ⟨w.heap.size, 0, none⟩ = some (.int .i64 m) ∧ w'.cell? ⟨w.heap.size, 1, none⟩ = some u := by
  have h : w'.heap[w.heap.size]? = some (.cells #[.int .i64 m, u] T) := (x.block w.heap.size (by simp)).trans (heap_alloc_new w _)
  exact ⟨(cell_of h (j := 0) rfl).1, (cell_of h (j := 1) rfl).1⟩
theorem row_sameS {w w' : World} {B : Nat} {e : TypeId} {size : Nat} {v : Value} {n : Nat} {xs : List Value} (h : w.ownsRow B e size v n xs) (hs : ∀ k, B ≤ k → w'.heap[k]? = w.heap[k]?) : w'.ownsRow B e size v n xs :=
  ⟨h.1, h.2.imp id fun ⟨g, cap, cur, h1, h2, h3, h4⟩ => ⟨g, cap, cur, h1, h2, (hs g h2).trans h3, h4⟩⟩
theorem row_downS {w : World} {B B' : Nat} {e : TypeId} {size : Nat} {v : Value} {n : Nat} {xs : List Value} (h : w.ownsRow B e size v n xs) (hs : B' ≤ B) : w.ownsRow B' e size v n xs :=
  ⟨h.1, h.2.imp id fun ⟨g, cap, cur, h1, h2, h3, h4⟩ => ⟨g, cap, cur, h1, Nat.le_trans hs h2, h3, h4⟩⟩

set_option maxHeartbeats 1000000 in
theorem toSc_any (m : Int) (v : Value) (zs : List Int) (w : World) (h : IntsA w v zs) (hn : zs.length ≤ 1048576) : Calls Tryd.prog 13 #[.agg #[.int .i64 m, v]] w fun e w' => OwnSc w w' e m zs := by
  have HS := Lib.hid h
  clear h
  go_enter Tryd.func13, Tryd.ntmps13
  go_wp2_with fail
  have X0 := Lib.hid (show Ext w (((w.alloc (.cells #[.int .i64 m, v] 30)).alloc (.cells #[.int .i64 0, .slice none 0 0] 34)).alloc (.cells #[.int .i64 m, .slice none 0 0] 34)) from (((Ext.refl w).alloc _).alloc _).alloc _)
  refine (toI_any v zs _ (HS.out.ext X0.out) hn).mono ?_
  rintro e w1 ⟨u, rfl, hu, x1, g, cap, rfl, hg1, hg2, hr⟩
  have hs0 : (((w.alloc (.cells #[.int .i64 m, v] 30)).alloc (.cells #[.int .i64 0, .slice none 0 0] 34)).alloc (.cells #[.int .i64 m, .slice none 0 0] 34)).heap.size = w.heap.size + 3 := by simp
  have HR := Lib.hid (show w1.ownsRow (w.heap.size + 3) 3 1 (.slice (some ⟨g, 0, none⟩) zs.length cap) zs.length (zs.map (Value.int .i64)) from hs0 ▸ hr)
  have HX1 := Lib.hid (X0.out.trans x1)
  have G1 := Lib.hid (show w1.heap[w.heap.size + 1]? = some (.cells #[.int .i64 0, .slice none 0 0] 34) from (x1.block (w.heap.size + 1) (by simp)).trans (by rw [heap_alloc_old _ _ (by simp)]; exact heap_alloc2_new w _ _))
  have G2 : w1.heap[w.heap.size + 1 + 1]? = some (.cells #[.int .i64 m, .slice none 0 0] 34) := (x1.block (w.heap.size + 1 + 1) (by simp)).trans (by have := heap_alloc_new ((w.alloc (.cells #[.int .i64 m, v] 30)).alloc (.cells #[.int .i64 0, .slice none 0 0] 34)) (.cells #[.int .i64 m, .slice none 0 0] 34); simpa using this)
  clear hu hr hg1 x1 hs0 HS X0
  obtain ⟨hc, hf⟩ := cell_of G2 (j := 1) rfl
  have HG2 := Lib.hid (set_cells2 (j := 1) (u := .slice (some ⟨g, 0, none⟩) zs.length cap) G2)
  have HO := Lib.hid (fun k (hk : k ≠ w.heap.size + 1 + 1) => Below.heap_setCell w1 ⟨w.heap.size + 1 + 1, 1, none⟩ (.slice (some ⟨g, 0, none⟩) zs.length cap) k hk)
  have g1 := G1.out
  obtain ⟨hc0, hf0⟩ := cell_of g1 (j := 0) rfl
  obtain ⟨hc1, hf1⟩ := cell_of g1 (j := 1) rfl
  have HG3 := Lib.hid (set_cells2 (j := 1) (u := .slice (some ⟨g, 0, none⟩) zs.length cap) (set_cells2 (j := 0) (u := .int .i64 m) ((HO.out _ (by omega)).trans g1)))
  have HX3 := Lib.hid (((HX1.out.setCell (p := ⟨w.heap.size + 1 + 1, 1, none⟩) (by show w.heap.size ≤ w.heap.size + 1 + 1; omega) (.slice (some ⟨g, 0, none⟩) zs.length cap)).setCell (p := ⟨w.heap.size + 1, 0, none⟩) (by show w.heap.size ≤ w.heap.size + 1; omega) (.int .i64 m)).setCell (p := ⟨w.heap.size + 1, 1, none⟩) (by show w.heap.size ≤ w.heap.size + 1; omega) (.slice (some ⟨g, 0, none⟩) zs.length cap))
  have HO3 := Lib.hid (fun k (hk : w.heap.size + 3 ≤ k) => (((Below.heap_setCell _ ⟨w.heap.size + 1, 1, none⟩ (.slice (some ⟨g, 0, none⟩) zs.length cap) k (show k ≠ w.heap.size + 1 by omega)).trans (Below.heap_setCell _ ⟨w.heap.size + 1, 0, none⟩ (.int .i64 m) k (show k ≠ w.heap.size + 1 by omega))).trans (HO.out k (by omega))))
  clear G2 g1
  go_wp2_with (refine wpList_load_row rfl _ _ rfl (w.heap.size + 1 + 1) rfl 34 #[.int .i64 m, .slice (some ⟨g, 0, none⟩) zs.length cap] (0, 0) _ HG2.out Tryd.underlying34 rfl (sc_size _ _) ?_)
  have hrow := row_sameS HR.out HO3.out
  exact bodyPost_ret (results_cell_row (P := Tryd.prog) (p := 2) (ty := 34) rfl _ _ (w.heap.size + 1) 34 #[.int .i64 m, .slice (some ⟨g, 0, none⟩) zs.length cap] (0, 0) _ rfl HG3.out Tryd.underlying34 rfl (sc_size _ _)) rfl ⟨_, rfl, RowI.ints (B := w.heap.size + 3) hrow (by unfold maxLen; omega), row_downS hrow (by omega), HX3.out⟩

theorem szI_any (v : Value) (zs : List Int) (w : World) (h : IntsA w v zs) : Calls Tryd.prog 25 #[v, .int .i64 1048576] w fun e w' => e = .returned (.int .i64 (if 1048576 < zs.length then -1 else 1048576 - (zs.length : Int))) ∧ w = w' := by
  have hl := h.1
  unfold maxLen at hl
  obtain ⟨a, cap, hv⟩ := h.at
  rw [hv]
  clear hv h
  by_cases hb : 1048576 < zs.length
  · rw [if_pos hb]
    go_enter Tryd.func25, Tryd.ntmps25
    go_wp2
    go_ret
    exact ⟨rfl, rfl⟩
  · rw [if_neg hb]
    go_enter Tryd.func25, Tryd.ntmps25
    go_wp2
    go_ret
    exact ⟨rfl, rfl⟩

theorem szSc_any (m : Int) (v : Value) (zs : List Int) (w : World) (h : IntsA w v zs) : Calls Tryd.prog 11 #[.agg #[.int .i64 m, v], .int .i64 1048576] w fun e w' => e = .returned (.int .i64 (if 1048576 < zs.length then -1 else 1048576 - (zs.length : Int))) ∧ Ext w w' := by
  have HS := Lib.hid h
  clear h
  by_cases hb : 1048576 < zs.length
  · rw [if_pos hb]
    go_enter Tryd.func11, Tryd.ntmps11
    go_wp2_with (go_at_call 25; refine (szI_any v zs _ (HS.out.ext ((Ext.refl _).alloc _))).mono ?_; rintro e w1 ⟨rfl, rfl⟩; rw [if_pos hb])
    go_ret
    exact ⟨rfl, (Ext.refl _).alloc _⟩
  · rw [if_neg hb]
    go_enter Tryd.func11, Tryd.ntmps11
    go_wp2_with (go_at_call 25; refine (szI_any v zs _ (HS.out.ext ((Ext.refl _).alloc _))).mono ?_; rintro e w1 ⟨rfl, rfl⟩; rw [if_neg hb])
    go_ret
    exact ⟨rfl, (Ext.refl _).alloc _⟩

set_option maxHeartbeats 1000000 in
theorem eqIA_any (v u : Value) (zs : List Int) (w : World) (h : IntsA w v zs) (h2 : IntsA w u zs) (hn : zs.length ≤ 1048576) : Calls Tryd.prog 32 #[v, u] w fun e w' => e = .returned (.bool true) ∧ Ext w w' := by
  have HV := Lib.hid h
  have HU := Lib.hid h2
  obtain ⟨a, cap, hv⟩ := h.at
  obtain ⟨a2, cap2, hu⟩ := h2.at
  rw [hv] at HV ⊢
  rw [hu] at HU ⊢
  clear hv hu h h2 u v
  go_enter Tryd.func32, Tryd.ntmps32
  go_wp2
  go_loopw [5] (fun i wr => ∃ k : Nat, k ≤ zs.length ∧ i = .int .i64 k ∧ Ext w wr) (fun i _ => zs.length - (intOf i).toNat)
  case atStart => exact ⟨0, Nat.zero_le _, rfl, Ext.refl _⟩
  case round =>
    obtain ⟨k, hk, rfl, hx⟩ := hrel
    by_cases hlt : k < zs.length
    · obtain ⟨g, o, ha, _, e1⟩ := (HV.out.ext hx).get2 k hlt
      obtain ⟨g2, o2, ha2, _, e2⟩ := (HU.out.ext hx).get2 k hlt
      rw [ha, ha2]
      have b1 : (k : Int) < (zs.length : Int) := by omega
      clear ha ha2
      go_wp2
      go_quiet (fail)
      go_wp2
      go_roundw
      case rel => exact ⟨k + 1, by omega, by go_num, ext_drewN hx _⟩
      case measure => simp [intOf]; omega
    · go_wp2
      go_ret
      exact ⟨rfl, hx⟩

set_option maxRecDepth 100000 in
set_option maxHeartbeats 1000000 in
theorem eqSc_any (m : Int) (v u : Value) (zs : List Int) (w : World) (h : IntsA w v zs) (h2 : IntsA w u zs) (hn : zs.length ≤ 1048576) : Calls Tryd.prog 15 #[.agg #[.int .i64 m, v], .agg #[.int .i64 m, u]] w fun e w' => e = .returned (.bool true) ∧ Ext w w' := by
  have HV := Lib.hid h
  have HU := Lib.hid h2
  clear h h2
  have X0 := Lib.hid (show Ext w ((w.alloc (.cells #[.int .i64 m, v] 34)).alloc (.cells #[.int .i64 m, u] 34)) from ((Ext.refl w).alloc _).alloc _)
  go_enter Tryd.func15, Tryd.ntmps15
  go_wp2_with (go_at_call 32; refine (eqIA_any v u zs _ (HV.out.ext X0.out) (HU.out.ext X0.out) hn).mono ?_; rintro e w1 ⟨rfl, x1⟩)
  go_ret
  exact ⟨rfl, X0.out.trans x1⟩

theorem cells_sc : Tryd.prog.cellsOf 30 = 2 := by kernel_rfl
theorem cells_is : Tryd.prog.cellsOf 28 = 1 := by kernel_rfl
set_option maxRecDepth 100000 in
theorem sch_of {H : Type} {enc : TypeId × Value → H} {W : World} {base : Nat} {v : Value} {d : DataW H} {p : List MemPlace}
    (hv : Value.okWide Tryd.prog W .any base 30 v) (h : DataW.Trod enc Tryd.prog W 0 (fun _ => true) true 30 v d p) : ∃ m u zs, v = .agg #[.int .i64 m, u] ∧ (-9223372036854775808 ≤ m ∧ m ≤ 9223372036854775807) ∧ IntsA W u zs ∧ ∀ z ∈ zs, -9223372036854775808 ≤ z ∧ z ≤ 9223372036854775807 := by
  obtain ⟨cs, rfl, hcs⟩ := okWide_struct Tryd.underlying30 hv
  obtain ⟨fuel, hf⟩ := h
  obtain ⟨y0, y1, n, _, hlen, t0, t1⟩ := trod_struct2 Tryd.underlying30 hf
  rw [cells_sc] at hcs
  obtain ⟨l, rfl⟩ : ∃ l : List Value, cs = l.toArray := ⟨cs.toList, by simp⟩
  match l, hcs with
  | [c0, c1], _ =>
    have e0 : (Value.agg #[c0, c1]).cells.toList = [c0, c1] := rfl
    rw [e0] at t0 t1
    have t0' : DataW.trod enc Tryd.prog W 0 (fun _ => true) true n 3 [c0] = some y0 := t0
    have t1' : DataW.trod enc Tryd.prog W 0 (fun _ => true) true n 28 [c1] = some y1 := t1
    obtain ⟨i1, hi1, _, w1⟩ := DataW.trod_int Tryd.underlying3 t0'
    injection hi1 with hi1 _
    subst hi1
    have hm := (Lit.wf_int_iff .i64 i1).1 w1
    rcases open_ints Tryd.underlying28 Tryd.underlying3 cells_int t1' with ⟨hc1, _⟩ | ⟨a, len, cap, zs, hc1, _, hl, hm2, hz, _, hcell, hwf⟩
    · injection hc1 with hc1 _
      subst hc1
      exact ⟨i1, _, [], rfl, hm, ⟨by unfold maxLen; simp, .inl ⟨rfl, none, 0, rfl⟩⟩, by simp⟩
    · injection hc1 with hc1 _
      subst hc1
      rw [if_pos rfl] at hz
      have hlen2 : (zs.take len).length = len := by rw [List.length_take]; omega
      refine ⟨i1, _, zs.take len, rfl, hm, ⟨by rw [hlen2]; omega, ?_⟩, fun z hz2 => (Lit.wf_int_iff .i64 z).1 (hwf z (List.mem_of_mem_take hz2))⟩
      by_cases h0 : len = 0
      · refine .inl ⟨List.length_eq_zero_iff.1 (by omega), some a, cap, by rw [h0]⟩
      · obtain ⟨b, off, spot⟩ := a
        have hspot : spot = none := by simpa [Addr.add] using World.cell?_spot (hcell 0 (by omega))
        subst hspot
        refine .inr ⟨b, off, cap, by rw [hlen2], ?_, fun j hj => ?_⟩
        · have := World.block_lt_of_cell? _ _ (hcell 0 (by omega))
          simpa [Addr.add] using this
        · have := hcell j (by omega)
          rw [Go.WideShapes.add_plain] at this
          rw [this, List.getElem_take, List.getD_eq_getElem?_getD, List.getElem?_eq_getElem (by omega)]
          rfl
end Go.Proofs.YthooedmlnonadaaDoor
