/- Puzzles: how they read, the laws' own copies of them. No conditions. -/
import Derived.Test.YtpdnpphjlnlneaaGreatDoorClu
import Derived.Deep.MidRow
import Derived.Deep.RegionHeld3
import Derived.ChangeSame
import Derived.DataShut
import Derived.Deep.Slices
namespace Go.Proofs.YtpdnpphjlnlneaaGreatDoor
open Go.RowKit Go.ChangeShapes Go.WideShapes Go.ChangeAt Go.Deep

/-- A copy of a puzzle that the call made. -/
def OwnPz (w w' : World) (e : Ending) (d : Int) (gs : List Cl) : Prop := ∃ u, e = .returned (.agg #[.int .i64 d, u]) ∧ Cls w' u gs ∧ OwnR w.heap.size w' u gs ∧ Ext w w'

theorem pz_size (d : Int) (u : Value) : (Tryz.prog.info? 37).map (·.size) = some [Value.int .i64 d, u].length := by
  show _ = some 2
  kernel_rfl
theorem pzl_size (d : Int) (u : Value) : (Tryz.prog.info? 31).map (·.size) = some [Value.int .i64 d, u].length := by
  show _ = some 2
  kernel_rfl

theorem set_cells2 {w : World} {b j : Nat} {cs : Array Value} {T : TypeId} {u : Value} (h : w.heap[b]? = some (.cells cs T (0, 0))) : (w.setCell ⟨b, j, none⟩ u).heap[b]? = some (.cells (cs.setIfInBounds j u) T (0, 0)) := by
  simp [World.setCell, Array.getElem?_modify, h]
theorem cell_of {w : World} {b j : Nat} {cs : Array Value} {T : TypeId} {v : Value} (h : w.heap[b]? = some (.cells cs T (0, 0))) (hj : cs[j]? = some v) : w.cell? ⟨b, j, none⟩ = some v ∧ w.frozen? ⟨b, j, none⟩ = false := by
  simp [World.cell?, World.frozen?, h, hj]
theorem pz_cells {w w' : World} {d : Int} {u : Value} {T : TypeId} (x : Ext (w.alloc (.cells #[.int .i64 d, u] T)) w') : w'.cell? ⟨w.heap.size, 0, none⟩ = some (.int .i64 d) ∧ w'.cell? ⟨w.heap.size, 1, none⟩ = some u := by
  have h : w'.heap[w.heap.size]? = some (.cells #[.int .i64 d, u] T) := (x.block w.heap.size (by simp)).trans (heap_alloc_new w _)
  exact ⟨(cell_of h (j := 0) rfl).1, (cell_of h (j := 1) rfl).1⟩
theorem row_sameS {w w' : World} {B : Nat} {e : TypeId} {size : Nat} {v : Value} {n : Nat} {xs : List Value} (h : w.ownsRow B e size v n xs) (hs : ∀ k, B ≤ k → w'.heap[k]? = w.heap[k]?) : w'.ownsRow B e size v n xs :=
  ⟨h.1, h.2.imp id fun ⟨g, cap, cur, h1, h2, h3, h4⟩ => ⟨g, cap, cur, h1, h2, (hs g h2).trans h3, h4⟩⟩
theorem row_downS {w : World} {B B' : Nat} {e : TypeId} {size : Nat} {v : Value} {n : Nat} {xs : List Value} (h : w.ownsRow B e size v n xs) (hs : B' ≤ B) : w.ownsRow B' e size v n xs :=
  ⟨h.1, h.2.imp id fun ⟨g, cap, cur, h1, h2, h3, h4⟩ => ⟨g, cap, cur, h1, Nat.le_trans hs h2, h3, h4⟩⟩

set_option maxHeartbeats 1000000 in
theorem toPz_any (d : Int) (v : Value) (gs : List Cl) (w : World) (h : Cls w v gs) (hn : gs.length ≤ 1048576) : Calls Tryz.prog 19 #[.agg #[.int .i64 d, v]] w fun e w' => OwnPz w w' e d gs := by
  have HS := Lib.hid h
  clear h
  go_enter Tryz.func19, Tryz.ntmps19
  go_wp2_with fail
  have X0 := Lib.hid (show Ext w (((w.alloc (.cells #[.int .i64 d, v] 31)).alloc (.cells #[.int .i64 0, .slice none 0 0] 37)).alloc (.cells #[.int .i64 d, .slice none 0 0] 37)) from (((Ext.refl w).alloc _).alloc _).alloc _)
  refine (toCS_any v gs _ (HS.out.ext X0.out) hn).mono ?_
  rintro e w1 ⟨u, rfl, hu, hr, x1⟩
  have hs0 : (((w.alloc (.cells #[.int .i64 d, v] 31)).alloc (.cells #[.int .i64 0, .slice none 0 0] 37)).alloc (.cells #[.int .i64 d, .slice none 0 0] 37)).heap.size = w.heap.size + 3 := by simp
  have HR := Lib.hid (show OwnR (w.heap.size + 3) w1 u gs from hs0 ▸ hr)
  have HX1 := Lib.hid (X0.out.trans x1)
  have HM := Lib.hid hu.2.1
  have hml := hu.1
  obtain ⟨a, cap, rfl, _⟩ := hu.at
  have G1 := Lib.hid (show w1.heap[w.heap.size + 1]? = some (.cells #[.int .i64 0, .slice none 0 0] 37) from (x1.block (w.heap.size + 1) (by simp)).trans (by rw [heap_alloc_old _ _ (by simp)]; exact heap_alloc2_new w _ _))
  have G2 : w1.heap[w.heap.size + 1 + 1]? = some (.cells #[.int .i64 d, .slice none 0 0] 37) := (x1.block (w.heap.size + 1 + 1) (by simp)).trans (by have := heap_alloc_new ((w.alloc (.cells #[.int .i64 d, v] 31)).alloc (.cells #[.int .i64 0, .slice none 0 0] 37)) (.cells #[.int .i64 d, .slice none 0 0] 37); simpa using this)
  clear hu hr x1 hs0 HS X0
  obtain ⟨hc, hf⟩ := cell_of G2 (j := 1) rfl
  have HG2 := Lib.hid (set_cells2 (j := 1) (u := .slice a gs.length cap) G2)
  have HO := Lib.hid (fun k (hk : k ≠ w.heap.size + 1 + 1) => Below.heap_setCell w1 ⟨w.heap.size + 1 + 1, 1, none⟩ (.slice a gs.length cap) k hk)
  have g1 := G1.out
  obtain ⟨hc0, hf0⟩ := cell_of g1 (j := 0) rfl
  obtain ⟨hc1, hf1⟩ := cell_of g1 (j := 1) rfl
  have HG3 := Lib.hid (set_cells2 (j := 1) (u := .slice a gs.length cap) (set_cells2 (j := 0) (u := .int .i64 d) ((HO.out _ (by omega)).trans g1)))
  have HX3 := Lib.hid (((HX1.out.setCell (p := ⟨w.heap.size + 1 + 1, 1, none⟩) (by show w.heap.size ≤ w.heap.size + 1 + 1; omega) (.slice a gs.length cap)).setCell (p := ⟨w.heap.size + 1, 0, none⟩) (by show w.heap.size ≤ w.heap.size + 1; omega) (.int .i64 d)).setCell (p := ⟨w.heap.size + 1, 1, none⟩) (by show w.heap.size ≤ w.heap.size + 1; omega) (.slice a gs.length cap))
  have HO3 := Lib.hid (fun k (hk : w.heap.size + 3 ≤ k) => (((Below.heap_setCell _ ⟨w.heap.size + 1, 1, none⟩ (.slice a gs.length cap) k (show k ≠ w.heap.size + 1 by omega)).trans (Below.heap_setCell _ ⟨w.heap.size + 1, 0, none⟩ (.int .i64 d) k (show k ≠ w.heap.size + 1 by omega))).trans (HO.out k (by omega))))
  clear G2 g1
  go_wp2_with (refine wpList_load_row rfl _ _ rfl (w.heap.size + 1 + 1) rfl 37 #[.int .i64 d, .slice a gs.length cap] (0, 0) _ HG2.out Tryz.underlying37 rfl (pz_size _ _) ?_)
  have hrow : OwnR (w.heap.size + 3) _ _ gs := row_sameS HR.out HO3.out
  exact bodyPost_ret (results_cell_row (P := Tryz.prog) (p := 2) (ty := 37) rfl _ _ (w.heap.size + 1) 37 #[.int .i64 d, .slice a gs.length cap] (0, 0) _ rfl HG3.out Tryz.underlying37 rfl (pz_size _ _)) rfl ⟨_, rfl, hrow.cls hml HM.out, hrow.down (by omega), HX3.out⟩

theorem szPz_any (d : Int) (v : Value) (gs : List Cl) (w : World) (h : Cls w v gs) : Calls Tryz.prog 17 #[.agg #[.int .i64 d, v], .int .i64 1048576] w fun e w' => e = .returned (.int .i64 (if 1048576 < gs.length then -1 else 1048576 - (gs.length : Int))) ∧ Ext w w' := by
  have HS := Lib.hid h
  clear h
  by_cases hb : 1048576 < gs.length
  · rw [if_pos hb]
    go_enter Tryz.func17, Tryz.ntmps17
    go_wp2_with (go_at_call 54; refine (szC_any v gs _ (HS.out.ext ((Ext.refl _).alloc _))).mono ?_; rintro e w1 ⟨rfl, rfl⟩; rw [if_pos hb])
    go_ret
    exact ⟨rfl, (Ext.refl _).alloc _⟩
  · rw [if_neg hb]
    go_enter Tryz.func17, Tryz.ntmps17
    go_wp2_with (go_at_call 54; refine (szC_any v gs _ (HS.out.ext ((Ext.refl _).alloc _))).mono ?_; rintro e w1 ⟨rfl, rfl⟩; rw [if_neg hb])
    go_ret
    exact ⟨rfl, (Ext.refl _).alloc _⟩

set_option maxRecDepth 100000 in
set_option maxHeartbeats 1000000 in
theorem eqPz_any (d : Int) (v u : Value) (gs : List Cl) (w : World) (h : Cls w v gs) (h2 : Cls w u gs) (hn : gs.length ≤ 1048576) : Calls Tryz.prog 21 #[.agg #[.int .i64 d, v], .agg #[.int .i64 d, u]] w fun e w' => e = .returned (.bool true) ∧ Ext w w' := by
  have HV := Lib.hid h
  have HU := Lib.hid h2
  clear h h2
  have X0 := Lib.hid (show Ext w ((w.alloc (.cells #[.int .i64 d, v] 37)).alloc (.cells #[.int .i64 d, u] 37)) from ((Ext.refl w).alloc _).alloc _)
  go_enter Tryz.func21, Tryz.ntmps21
  go_wp2_with (go_at_call 60; refine (eqCS_any v u gs _ (HV.out.ext X0.out) (HU.out.ext X0.out) hn).mono ?_; rintro e w1 ⟨rfl, x1⟩)
  go_ret
  exact ⟨rfl, X0.out.trans x1⟩

theorem cells_pz : Tryz.prog.cellsOf 31 = 2 := by kernel_rfl
set_option maxRecDepth 100000 in
theorem puz_of {H : Type} {enc : TypeId × Value → H} {W : World} {base : Nat} {v : Value} {d : DataW H} {p : List MemPlace}
    (hv : Value.okWide Tryz.prog W .any base 31 v) (h : DataW.Trod enc Tryz.prog W 0 (fun _ => true) true 31 v d p) : ∃ d u gs, v = .agg #[.int .i64 d, u] ∧ (-9223372036854775808 ≤ d ∧ d ≤ 9223372036854775807) ∧ Cls W u gs := by
  obtain ⟨cs, rfl, hcs⟩ := okWide_struct Tryz.underlying31 hv
  obtain ⟨fuel, hf⟩ := h
  obtain ⟨y0, y1, n, _, hlen, t0, t1⟩ := trod_struct2 Tryz.underlying31 hf
  rw [cells_pz] at hcs
  obtain ⟨l, rfl⟩ : ∃ l : List Value, cs = l.toArray := ⟨cs.toList, by simp⟩
  match l, hcs with
  | [c0, c1], _ =>
    have e0 : (Value.agg #[c0, c1]).cells.toList = [c0, c1] := rfl
    rw [e0] at t0 t1
    have t0' : DataW.trod enc Tryz.prog W 0 (fun _ => true) true n 3 [c0] = some y0 := t0
    have t1' : DataW.trod enc Tryz.prog W 0 (fun _ => true) true n 29 [c1] = some y1 := t1
    obtain ⟨i1, hi1, _, w1⟩ := DataW.trod_int Tryz.underlying3 t0'
    injection hi1 with hi1 _
    subst hi1
    have hm := (Lit.wf_int_iff .i64 i1).1 w1
    obtain ⟨gs, hgs⟩ := cls_row t1'
    exact ⟨i1, c1, gs, rfl, hm, hgs⟩

set_option maxRecDepth 100000 in
theorem cl_of {H : Type} {enc : TypeId × Value → H} {W : World} {base : Nat} {v : Value} {d : DataW H} {p : List MemPlace}
    (hv : Value.okWide Tryz.prog W .any base 23 v) (h : DataW.Trod enc Tryz.prog W 0 (fun _ => true) true 23 v d p) : ∃ g : Cl, v = .agg #[.int .i64 g.k, .int .i64 g.a, .int .i64 g.b] ∧ g.ok := by
  obtain ⟨cs, rfl, hcs⟩ := okWide_struct Tryz.underlying23 hv
  obtain ⟨fuel, hf⟩ := h
  obtain ⟨y0, y1, y2, n, _, hlen, t0, t1, t2⟩ := trod_struct3 Tryz.underlying23 hf
  rw [cells_cl] at hcs
  obtain ⟨l, rfl⟩ : ∃ l : List Value, cs = l.toArray := ⟨cs.toList, by simp⟩
  match l, hcs with
  | [c0, c1, c2], _ =>
    have e0 : (Value.agg #[c0, c1, c2]).cells.toList = [c0, c1, c2] := rfl
    rw [e0] at t0 t1 t2
    obtain ⟨i0, hi0, _, w0⟩ := DataW.trod_int Tryz.underlying3 t0
    obtain ⟨i1, hi1, _, w1⟩ := DataW.trod_int Tryz.underlying3 t1
    obtain ⟨i2, hi2, _, w2⟩ := DataW.trod_int Tryz.underlying3 t2
    injection hi0 with hi0 _
    injection hi1 with hi1 _
    injection hi2 with hi2 _
    subst hi0; subst hi1; subst hi2
    exact ⟨⟨i0, i1, i2⟩, rfl, (Lit.wf_int_iff .i64 i0).1 w0, (Lit.wf_int_iff .i64 i1).1 w1, (Lit.wf_int_iff .i64 i2).1 w2⟩
end Go.Proofs.YtpdnpphjlnlneaaGreatDoor
