/- Lists of clues as arguments: opened, their sizes, copies, comparisons. No conditions. -/
import Derived.Test.YtpdnpphjlnlneaaGreatDoorStrs
import Derived.Test.YtpdnpphjlnlneaaGreatDoorLaw
import Derived.Deep.MidRow
import Derived.Deep.Slices
import Derived.Deep.Strs
import Derived.Deep.RegionHeld3
import Derived.DataShut
import Derived.OpenVars
import Derived.Test.YtpdnpphjlnlneaaGreatDoorToI
namespace Go.Proofs.YtpdnpphjlnlneaaGreatDoor
open Go.RowKit Go.ChangeShapes Go.WideShapes Go.ChangeAt Go.Deep

/-- A clue: its three numbers, whatever they are. -/
structure Cl where
  k : Int
  a : Int
  b : Int
def Cl.cs (g : Cl) : List Value := [.int .i64 g.k, .int .i64 g.a, .int .i64 g.b]
def isI64 (z : Int) : Prop := -9223372036854775808 ≤ z ∧ z ≤ 9223372036854775807
def Cl.ok (g : Cl) : Prop := isI64 g.k ∧ isI64 g.a ∧ isI64 g.b
theorem rangeAt_ext {w w' : World} {b o : Nat} {cs : List Value} (h : w.rangeAt b o cs) (hx : Ext w w') (hb : b < w.heap.size) : w'.rangeAt b o cs := fun j v hv => (hx.cell (p := ⟨b, o + j, none⟩) hb).trans (h j v hv)

/-- v is a list that reads as these guesses. -/
def Cls (w : World) (v : Value) (gs : List Cl) : Prop :=
  gs.length ≤ maxLen ∧ (∀ g ∈ gs, g.ok) ∧
  ((gs = [] ∧ ∃ x cap, v = .slice x 0 cap) ∨ ∃ b off cap, v = .slice (some ⟨b, off, none⟩) gs.length cap ∧ b < w.heap.size ∧ ∀ j (h : j < gs.length), w.rangeAt b (off + j * 3) gs[j].cs)
theorem Cls.ext {w w' : World} {v : Value} {gs : List Cl} (h : Cls w v gs) (hx : Ext w w') : Cls w' v gs := by
  refine ⟨h.1, h.2.1, ?_⟩
  rcases h.2.2 with h | ⟨b, off, cap, h1, h2, h3⟩
  · exact .inl h
  · exact .inr ⟨b, off, cap, h1, Nat.lt_of_lt_of_le h2 hx.size, fun j hj => rangeAt_ext (h3 j hj) hx h2⟩
theorem Cls.at {w : World} {v : Value} {gs : List Cl} (h : Cls w v gs) : ∃ a cap, v = .slice a gs.length cap ∧ (a = none → gs = []) := by
  rcases h.2.2 with ⟨rfl, x, cap, rfl⟩ | ⟨b, off, cap, h1, _⟩
  · exact ⟨x, cap, rfl, fun _ => rfl⟩
  · exact ⟨_, cap, h1, fun e => by cases e⟩

theorem cl_size (g : Cl) : (Tryz.prog.info? 23).map (·.size) = some g.cs.length := by
  show _ = some 3
  kernel_rfl
theorem ci_size (g : Cl) : (Tryz.prog.info? 26).map (·.size) = some g.cs.length := by
  show _ = some 3
  kernel_rfl

set_option maxHeartbeats 1000000 in
theorem toC_any (p h n : Int) (w : World) : Calls Tryz.prog 15 #[.agg #[.int .i64 p, .int .i64 h, .int .i64 n]] w fun e w' => e = .returned (.agg #[.int .i64 p, .int .i64 h, .int .i64 n]) ∧ Ext w w' := by
  go_enter Tryz.func15, Tryz.ntmps15
  go_wp2
  exact bodyPost_ret (results_cell_row (P := Tryz.prog) (p := 2) (ty := 26) rfl _ _ (w.heap.size + 1) 26 #[.int .i64 p, .int .i64 h, .int .i64 n] (0, 0) _ rfl (by rw [heap_alloc_old _ _ (by simp)]; exact heap_alloc2_new w _ _) Tryz.underlying26 rfl (by show _ = some 3; kernel_rfl)) rfl ⟨rfl, (((Ext.refl _).alloc _).alloc _).alloc _⟩

set_option maxHeartbeats 1000000 in
theorem eqC_any (p h n : Int) (w : World) : Calls Tryz.prog 86 #[.agg #[.int .i64 p, .int .i64 h, .int .i64 n], .agg #[.int .i64 p, .int .i64 h, .int .i64 n]] w fun e w' => e = .returned (.bool true) ∧ Ext w w' := by
  go_enter Tryz.func86, Tryz.ntmps86
  go_wp2
  go_ret
  exact ⟨rfl, ((Ext.refl _).alloc _).alloc _⟩

theorem info_cl : (Tryz.prog.info? 26).map (fun i => (i.zero, i.size, i.bytes)) = some (some (.agg #[.int .i64 0, .int .i64 0, .int .i64 0]), 3, 24) := by kernel_rfl

/-- An own list of these clues. -/
def flat : List Cl → List Value
  | [] => []
  | g :: l => g.cs ++ flat l
theorem flat_len (gs : List Cl) : (flat gs).length = gs.length * 3 := by
  induction gs with
  | nil => rfl
  | cons g l ih => simp only [flat, List.length_append, ih, Cl.cs, List.length_cons, List.length_nil]; omega
theorem flat_app (gs hs : List Cl) : flat (gs ++ hs) = flat gs ++ flat hs := by
  induction gs with
  | nil => rfl
  | cons g l ih => simp only [List.cons_append, flat, ih, List.append_assoc]
theorem flat_at (gs : List Cl) (j : Nat) (hj : j < gs.length) (i : Nat) (hi : i < 3) : (flat gs)[j * 3 + i]? = (gs[j].cs)[i]? := by
  induction gs generalizing j with
  | nil => cases hj
  | cons g l ih =>
    cases j with
    | zero =>
      have : (g.cs).length = 3 := rfl
      show (g.cs ++ flat l)[0 * 3 + i]? = _
      rw [List.getElem?_append_left (by omega), Nat.zero_mul, Nat.zero_add]
      rfl
    | succ j =>
      have : (g.cs).length = 3 := rfl
      show (g.cs ++ flat l)[(j + 1) * 3 + i]? = _
      rw [List.getElem?_append_right (by omega), show (j + 1) * 3 + i - (g.cs).length = j * 3 + i by omega, ih j (by simpa using hj)]
      rfl
theorem flat_ext {gs : List Cl} {xs : List Value} (hl : xs.length = gs.length * 3) (h : ∀ j (hj : j < gs.length), xs[j * 3]? = some (.int .i64 gs[j].k) ∧ xs[j * 3 + 1]? = some (.int .i64 gs[j].a) ∧ xs[j * 3 + 1 + 1]? = some (.int .i64 gs[j].b)) : xs = flat gs := by
  refine List.ext_getElem? fun q => ?_
  by_cases hq : q < gs.length * 3
  · have e : q = q / 3 * 3 + q % 3 := by omega
    have hj : q / 3 < gs.length := by omega
    obtain ⟨y0, y1, y2⟩ := h (q / 3) hj
    rw [e, flat_at gs (q / 3) hj (q % 3) (by omega)]
    have h3 : q % 3 = 0 ∨ q % 3 = 1 ∨ q % 3 = 2 := by omega
    rcases h3 with h3 | h3 | h3 <;> rw [h3]
    · exact y0
    · exact y1
    · exact y2
  · rw [List.getElem?_eq_none (by omega), List.getElem?_eq_none (by rw [flat_len]; omega)]
def OwnR (B : Nat) (w : World) (v : Value) (gs : List Cl) : Prop := w.ownsRow B 26 3 v gs.length (flat gs)
theorem OwnR.cls {B : Nat} {w : World} {v : Value} {gs : List Cl} (h : OwnR B w v gs) (hm : gs.length ≤ maxLen) (hok : ∀ g ∈ gs, g.ok) : Cls w v gs := by
  refine ⟨hm, hok, ?_⟩
  rcases h.2 with ⟨rfl, hz⟩ | ⟨g, cap, cur, rfl, hB, hb, hs⟩
  · by_cases h0 : gs.length = 0
    · exact .inl ⟨List.length_eq_zero_iff.1 h0, none, 0, rfl⟩
    · exact absurd hz h0
  · refine .inr ⟨g, 0, cap, rfl, ?_, fun j hj i u hu => ?_⟩
    · rcases Nat.lt_or_ge g w.heap.size with h4 | h4
      · exact h4
      · rw [Array.getElem?_eq_none h4] at hb; cases hb
    · have hi : i < 3 := (List.getElem?_eq_some_iff.1 hu).1
      have hc := World.ownsRow.cellAt h (j * 3 + i) (by omega)
      rw [Nat.zero_add, hc, flat_at gs j hj i hi, hu]
theorem OwnR.ext {B : Nat} {w w' : World} {v : Value} {gs : List Cl} (h : OwnR B w v gs) (hx : Ext w w') : OwnR B w' v gs := row_ext h hx
theorem OwnR.down {B B' : Nat} {w : World} {v : Value} {gs : List Cl} (h : OwnR B w v gs) (hs : B' ≤ B) : OwnR B' w v gs := ⟨h.1, h.2.imp id fun ⟨g, cap, cur, h1, h2, h3, h4⟩ => ⟨g, cap, cur, h1, Nat.le_trans hs h2, h3, h4⟩⟩

/-- A copy that the call made. -/
def OwnC (w w' : World) (e : Ending) (gs : List Cl) : Prop := ∃ v, e = .returned v ∧ Cls w' v gs ∧ OwnR w.heap.size w' v gs ∧ Ext w w'

theorem there3 {w : World} {base g n cap : Nat} {e : TypeId} {xs : List Value} (h : w.ownsRow base e 3 (.slice (some ⟨g, 0, none⟩) n cap) n xs) (k : Nat) (hk : k < n) : w.there g (k * 3) 3 := fun j hj => by
  have hL := h.1
  refine ⟨?_, h.frozenAt _⟩
  rw [h.cellAt (k * 3 + j) (by omega), List.getElem?_eq_getElem (by omega)]
  rfl
theorem setCells3 (w : World) (b o : Nat) (x y z : Value) : w.setCells b o [x, y, z] = ((w.setCell ⟨b, o, none⟩ x).setCell ⟨b, o + 1, none⟩ y).setCell ⟨b, o + 1 + 1, none⟩ z := rfl

set_option maxHeartbeats 1000000 in
theorem toCS_any (v : Value) (gs : List Cl) (w : World) (h : Cls w v gs) (hn : gs.length ≤ 1048576) : Calls Tryz.prog 57 #[v] w fun e w' => OwnC w w' e gs := by
  have HM := Lib.hid h.2.1
  have HS := Lib.hid h
  obtain ⟨i0, hi, hz0, hzs, hzb⟩ := info_parts info_cl
  have HI := Lib.hid (show Tryz.prog.info? 26 = some i0 ∧ i0.zero = some (.agg #[.int .i64 0, .int .i64 0, .int .i64 0]) ∧ i0.size = 3 ∧ i0.bytes = 24 from ⟨hi, hz0, hzs, hzb⟩)
  clear hi hz0 hzs hzb
  obtain ⟨a, cap, hv, hnil⟩ := h.at
  have HN := Lib.hid hnil
  rw [hv] at HS ⊢
  clear hv hnil h v
  go_enter Tryz.func57, Tryz.ntmps57
  go_wp2_with (at_make; refine wpList_make_full _ rfl _ _ 35 rfl w.heap.size 26 i0 (.agg #[.int .i64 0, .int .i64 0, .int .i64 0]) 3 Tryz.underlying35 HI.out.1 HI.out.2.1 HI.out.2.2.1 .i64 .i64 _ _ gs.length rfl rfl rfl rfl (by rw [HI.out.2.2.2]; omega) (by unfold maxLen; omega) (Nat.le_refl _) ?_; intro w1 hown hgr)
  have X1 : Ext w w1 := ext_grown (Ext.refl w) hgr (by intro k hk; cases hk)
  obtain ⟨xs1, hxs1⟩ : ∃ xs, xs = (madeCells (Value.agg #[.int .i64 0, .int .i64 0, .int .i64 0]).cells (gs.length * 3)).toList := ⟨_, rfl⟩
  rw [← hxs1] at hown
  clear hxs1 hgr
  go_loopw [4] (fun i wr => ∃ k : Nat, k ≤ gs.length ∧ i = .int .i64 k ∧ ∃ xs : List Value, wr.ownsRow w.heap.size 26 3 (.slice (some ⟨w.heap.size, 0, none⟩) gs.length gs.length) gs.length xs ∧ (∀ j (hj : j < gs.length), j < k → xs[j * 3]? = some (.int .i64 gs[j].k) ∧ xs[j * 3 + 1]? = some (.int .i64 gs[j].a) ∧ xs[j * 3 + 1 + 1]? = some (.int .i64 gs[j].b)) ∧ Ext w wr) (fun i _ => gs.length - (intOf i).toNat)
  case atStart => exact ⟨0, Nat.zero_le _, rfl, xs1, hown, fun j _ h => absurd h (by omega), X1⟩
  case round =>
    obtain ⟨k, hk, rfl, xs, hown, hxs, hx⟩ := hrel
    have HO := Lib.hid hown
    have HX := Lib.hid hxs
    clear hown hxs
    by_cases hlt : k < gs.length
    · rcases (HS.out.ext hx).2.2 with ⟨h2, _⟩ | ⟨b, off, cap', h1, hb, hc⟩
      · rw [h2] at hlt; exact absurd hlt (by simp)
      · have ha : a = some ⟨b, off, none⟩ := by injection h1
        have HCK := Lib.hid (hc k hlt)
        rw [ha]
        have HG := Lib.hid (show gs[k] = gs[k] from rfl)
        obtain ⟨g, hg⟩ : ∃ g, g = gs[k] := ⟨_, rfl⟩
        rw [← hg] at HCK
        have HGK := Lib.hid hg
        clear hc h1 ha HS HN hg HG
        go_wp2_with (first | (refine wpList_load_mid rfl _ _ rfl b (off + k * 3) rfl g.cs _ HCK.out Tryz.underlying23 rfl (cl_size g) ?_) | (go_at_call 15; refine (toC_any g.k g.a g.b _).mono ?_; rintro e w' ⟨rfl, x1⟩; have H2 := Lib.hid (row_ext HO.out x1)) | (refine wpList_store_mid rfl _ _ _ rfl w.heap.size (k * 3) #[.int .i64 g.k, .int .i64 g.a, .int .i64 g.b] (by first | rfl | (rw [Nat.zero_add])) rfl (there3 H2.out k hlt) (by show _ = some 3; kernel_rfl) (by kernel_rfl) ?_))
        have O3 := (((H2.out.stored (k * 3) (.int .i64 g.k)).1).stored (k * 3 + 1) (.int .i64 g.a)).1.stored (k * 3 + 1 + 1) (.int .i64 g.b)
        go_roundw
        case rel =>
          refine ⟨k + 1, by omega, by go_num, _, O3.1, ?_, (((hx.trans x1).setCell (p := ⟨w.heap.size, k * 3, none⟩) (Nat.le_refl _) _).setCell (p := ⟨w.heap.size, k * 3 + 1, none⟩) (Nat.le_refl _) _).setCell (p := ⟨w.heap.size, k * 3 + 1 + 1, none⟩) (Nat.le_refl _) _⟩
          have hL := H2.out.1
          intro j hj hjk
          by_cases e : j = k
          · subst e
            rw [← HGK.out]
            refine ⟨?_, ?_, ?_⟩
            · rw [List.getElem?_set_ne (by omega), List.getElem?_set_ne (by omega), List.getElem?_set_self (by omega)]
            · rw [List.getElem?_set_ne (by omega), List.getElem?_set_self (by simp; omega)]
            · rw [List.getElem?_set_self (by simp; omega)]
          · obtain ⟨y0, y1, y2⟩ := HX.out j hj (by omega)
            refine ⟨?_, ?_, ?_⟩
            · rw [List.getElem?_set_ne (by omega), List.getElem?_set_ne (by omega), List.getElem?_set_ne (by omega)]; exact y0
            · rw [List.getElem?_set_ne (by omega), List.getElem?_set_ne (by omega), List.getElem?_set_ne (by omega)]; exact y1
            · rw [List.getElem?_set_ne (by omega), List.getElem?_set_ne (by omega), List.getElem?_set_ne (by omega)]; exact y2
        case measure => simp [intOf]; omega
    · go_wp2
      go_ret
      have hk' : k = gs.length := by omega
      have HE := flat_ext (gs := gs) HO.out.1 (fun j hj => HX.out j hj (by omega))
      refine ⟨_, rfl, ⟨by unfold maxLen; omega, HM.out, .inr ⟨w.heap.size, 0, gs.length, rfl, ?_, fun j hj => ?_⟩⟩, (by unfold OwnR; rw [← HE]; exact HO.out), hx⟩
      · rcases HO.out.2 with ⟨h3, _⟩ | ⟨g, c, cur, h3, _, hg, _⟩
        · cases h3
        · cases h3
          rcases Nat.lt_or_ge w.heap.size wr.heap.size with h4 | h4
          · exact h4
          · rw [Array.getElem?_eq_none h4] at hg; cases hg
      · obtain ⟨y0, y1, y2⟩ := HX.out j hj (by omega)
        intro i v hv
        rw [Nat.zero_add, HO.out.cellAt (j * 3 + i) (by
          have : i < 3 := (List.getElem?_eq_some_iff.1 hv).1
          omega)]
        match i, hv with
        | 0, hv => rw [← hv]; exact y0
        | 1, hv => rw [← hv]; exact y1
        | 2, hv => rw [← hv]; exact y2

theorem szC_any (v : Value) (gs : List Cl) (w : World) (h : Cls w v gs) : Calls Tryz.prog 54 #[v, .int .i64 1048576] w fun e w' => e = .returned (.int .i64 (if 1048576 < gs.length then -1 else 1048576 - (gs.length : Int))) ∧ w = w' := by
  have hl := h.1
  unfold maxLen at hl
  obtain ⟨a, cap, hv, _⟩ := h.at
  rw [hv]
  clear hv h
  by_cases hb : 1048576 < gs.length
  · rw [if_pos hb]
    go_enter Tryz.func54, Tryz.ntmps54
    go_wp2
    go_ret
    exact ⟨rfl, rfl⟩
  · rw [if_neg hb]
    go_enter Tryz.func54, Tryz.ntmps54
    go_wp2
    go_ret
    exact ⟨rfl, rfl⟩

set_option maxHeartbeats 1000000 in
theorem eqCS_any (v u : Value) (gs : List Cl) (w : World) (h : Cls w v gs) (h2 : Cls w u gs) (hn : gs.length ≤ 1048576) : Calls Tryz.prog 60 #[v, u] w fun e w' => e = .returned (.bool true) ∧ Ext w w' := by
  have HV := Lib.hid h
  have HU := Lib.hid h2
  obtain ⟨a, cap, hv, _⟩ := h.at
  obtain ⟨a2, cap2, hu, _⟩ := h2.at
  rw [hv] at HV ⊢
  rw [hu] at HU ⊢
  clear hv hu h h2 u v
  go_enter Tryz.func60, Tryz.ntmps60
  go_wp2
  go_loopw [5] (fun i wr => ∃ k : Nat, k ≤ gs.length ∧ i = .int .i64 k ∧ Ext w wr) (fun i _ => gs.length - (intOf i).toNat)
  case atStart => exact ⟨0, Nat.zero_le _, rfl, Ext.refl _⟩
  case round =>
    obtain ⟨k, hk, rfl, hx⟩ := hrel
    by_cases hlt : k < gs.length
    · rcases (HV.out.ext hx).2.2 with ⟨h3, _⟩ | ⟨b, off, cap', h1, hb, hc⟩
      · rw [h3] at hlt; exact absurd hlt (by simp)
      rcases (HU.out.ext hx).2.2 with ⟨h3, _⟩ | ⟨b2, off2, cap3, h4, hb2, hc2⟩
      · rw [h3] at hlt; exact absurd hlt (by simp)
      have ha : a = some ⟨b, off, none⟩ := by injection h1
      have ha2 : a2 = some ⟨b2, off2, none⟩ := by injection h4
      have HCK := Lib.hid (hc k hlt)
      have HCK2 := Lib.hid (hc2 k hlt)
      obtain ⟨g, hg⟩ : ∃ g, g = gs[k] := ⟨_, rfl⟩
      rw [← hg] at HCK HCK2
      rw [ha, ha2]
      have b1 : (k : Int) < (gs.length : Int) := by omega
      clear hc hc2 h1 h4 ha ha2 hg
      have HSN := Lib.hid (fun (w' : World) (x' : Ext wr w') => (show (w'.cell? ⟨b, off + k * 3, none⟩ = some (.int .i64 g.k) ∧ w'.cell? ⟨b, off + k * 3 + 1, none⟩ = some (.int .i64 g.a) ∧ w'.cell? ⟨b, off + k * 3 + 2, none⟩ = some (.int .i64 g.b) ∧ w'.cell? ⟨b2, off2 + k * 3, none⟩ = some (.int .i64 g.k) ∧ w'.cell? ⟨b2, off2 + k * 3 + 1, none⟩ = some (.int .i64 g.a) ∧ w'.cell? ⟨b2, off2 + k * 3 + 2, none⟩ = some (.int .i64 g.b)) ∧ Ext wr w' from
        ⟨⟨rangeAt_ext HCK.out x' hb 0 _ rfl, rangeAt_ext HCK.out x' hb 1 _ rfl, rangeAt_ext HCK.out x' hb 2 _ rfl, rangeAt_ext HCK2.out x' hb2 0 _ rfl, rangeAt_ext HCK2.out x' hb2 1 _ rfl, rangeAt_ext HCK2.out x' hb2 2 _ rfl⟩, x'⟩))
      clear hb hb2
      go_wp2
      go_region_held3 (fun w' => (w'.cell? ⟨b, off + k * 3, none⟩ = some (.int .i64 g.k) ∧ w'.cell? ⟨b, off + k * 3 + 1, none⟩ = some (.int .i64 g.a) ∧ w'.cell? ⟨b, off + k * 3 + 2, none⟩ = some (.int .i64 g.b) ∧ w'.cell? ⟨b2, off2 + k * 3, none⟩ = some (.int .i64 g.k) ∧ w'.cell? ⟨b2, off2 + k * 3 + 1, none⟩ = some (.int .i64 g.a) ∧ w'.cell? ⟨b2, off2 + k * 3 + 2, none⟩ = some (.int .i64 g.b)) ∧ Ext wr w') (first | exact HSN.out _ (Ext.refl _).drew | exact HSN.out _ (Ext.trans (And.right (by assumption)) x1)) (first | (go_at_call 86; refine (eqC_any g.k g.a g.b _).mono ?_; rintro e w' ⟨rfl, x1⟩))
      go_wp2
      go_roundw
      case rel => exact ⟨k + 1, by omega, by go_num, hx.trans ((Ext.refl _).drew.trans x1)⟩
      case measure => simp [intOf]; omega
    · go_wp2
      go_ret
      exact ⟨rfl, hx⟩

instance : Inhabited Cl := ⟨⟨0, 0, 0⟩⟩
theorem cells_cl : Tryz.prog.cellsOf 23 = 3 := by kernel_rfl
set_option maxRecDepth 100000 in
theorem cls_row {H : Type} {enc : TypeId × Value → H} {W : World} {n0 : Nat} {v : Value} {y : DataW H × List MemPlace}
    (hf : DataW.trod enc Tryz.prog W 0 (fun _ => true) true n0 29 [v] = some y) : ∃ gs, Cls W v gs := by
  rcases open_slice Tryz.underlying29 hf with ⟨hcs, _⟩ | ⟨a, len, cap, m, n, D, Pl, hcs, _, hl, hm, hmm, _, hx⟩
  · have e : v = .slice none 0 0 := by simpa using hcs
    exact ⟨[], by unfold maxLen; simp, by simp, .inl ⟨rfl, none, 0, e⟩⟩
  · have e : v = .slice (some a) len cap := by simpa using hcs
    subst e
    rw [if_pos rfl] at hmm
    rw [cells_cl] at hx
    have each : ∀ i, i < m → ∃ g : Cl, g.ok ∧ W.cells? 0 (a.add (i * 3)) 3 = some g.cs := by
      intro i hi
      obtain ⟨cs', h1, h2⟩ := hx i hi
      obtain ⟨y0, y1, y2, n', _, hlen, t0, t1, t2⟩ := trod_struct3 Tryz.underlying23 h2
      rw [cells_cl] at hlen
      match cs', hlen with
      | [c0, c1, c2], _ =>
        obtain ⟨i0, hi0, _, w0⟩ := DataW.trod_int Tryz.underlying3 t0
        obtain ⟨i1, hi1, _, w1⟩ := DataW.trod_int Tryz.underlying3 t1
        obtain ⟨i2, hi2, _, w2⟩ := DataW.trod_int Tryz.underlying3 t2
        injection hi0 with hi0 _
        injection hi1 with hi1 _
        injection hi2 with hi2 _
        subst hi0; subst hi1; subst hi2
        refine ⟨⟨i0, i1, i2⟩, ⟨?_, ?_, ?_⟩, h1⟩
        · exact (Lit.wf_int_iff .i64 i0).1 w0
        · exact (Lit.wf_int_iff .i64 i1).1 w1
        · exact (Lit.wf_int_iff .i64 i2).1 w2
    obtain ⟨q, hq⟩ := choose_lt each
    have hlen : ((List.range len).map q).length = len := by simp
    refine ⟨(List.range len).map q, by rw [hlen]; omega, ?_, ?_⟩
    · intro g hg
      obtain ⟨j, hj, rfl⟩ := List.mem_map.1 hg
      exact (hq j (by have := List.mem_range.1 hj; omega)).1
    · by_cases h0 : len = 0
      · refine .inl ⟨by rw [h0]; rfl, some a, cap, by rw [h0]⟩
      · obtain ⟨b, off, spot⟩ := a
        have hcell := (World.cells?_some (hq 0 (by omega)).2).2.2 0 (by omega)
        have hspot : spot = none := by simpa [Addr.add] using World.cell?_spot (hcell.trans rfl)
        subst hspot
        refine .inr ⟨b, off, cap, by rw [hlen], ?_, fun j hj i v hv => ?_⟩
        · have := World.block_lt_of_cell? _ _ (hcell.trans rfl)
          simpa [Addr.add] using this
        · have hi3 : i < 3 := (List.getElem?_eq_some_iff.1 hv).1
          have h9 := (World.cells?_some (hq j (by omega)).2).2.2 i hi3
          rw [Go.WideShapes.add_plain, Go.WideShapes.add_plain] at h9
          rw [h9, ← hv]
          simp

end Go.Proofs.YtpdnpphjlnlneaaGreatDoor
