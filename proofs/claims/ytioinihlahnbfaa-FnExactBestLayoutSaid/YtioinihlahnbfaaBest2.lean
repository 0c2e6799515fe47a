/- The program's table of least presses. No conditions. -/
import Derived.Test.YtioinihlahnbfaaBest
import Derived.Deep.RegionWith
import Derived.Deep.RegionHeld3
import Derived.Deep.Cut
namespace Go.Proofs.Ytioinihlahnbfaa
open Go.RowKit

def tab2 (t : Nat → Nat → Int) : List Value := (List.range 243).map fun j => .int .i64 (t (j / 27) (j % 27))
theorem tab2_len (t : Nat → Nat → Int) : (tab2 t).length = 243 := by simp [tab2]
theorem tab2_at (t : Nat → Nat → Int) (r c : Nat) (hr : r < 9) (hc : c < 27) : (tab2 t)[27 * r + c]? = some (.int .i64 (t r c)) := by
  unfold tab2
  rw [List.getElem?_map, List.getElem?_range (by omega)]
  show some (Value.int .i64 (t ((27 * r + c) / 27) ((27 * r + c) % 27))) = _
  rw [show (27 * r + c) / 27 = r by omega, show (27 * r + c) % 27 = c by omega]
theorem tab2_set (t : Nat → Nat → Int) (r c : Nat) (hc : c < 27) (x : Int) : (tab2 t).set (27 * r + c) (.int .i64 x) = tab2 (fun a b => if a = r ∧ b = c then x else t a b) := by
  apply List.ext_getElem?
  intro j
  by_cases hj : j < 243
  · have e1 : ∀ t : Nat → Nat → Int, (tab2 t)[j]? = some (.int .i64 (t (j / 27) (j % 27))) := fun t => by unfold tab2; rw [List.getElem?_map, List.getElem?_range hj]; rfl
    rw [e1]
    by_cases e : 27 * r + c = j
    · subst e
      rw [List.getElem?_set_self (by rw [tab2_len]; exact hj), if_pos ⟨by omega, by omega⟩]
    · rw [List.getElem?_set_ne e, e1, if_neg (by omega)]
  · rw [List.getElem?_eq_none (by rw [List.length_set, tab2_len]; omega), List.getElem?_eq_none (by rw [tab2_len]; omega)]
/-- A table of nine rows in a block. -/
def TabL (w : World) (C : Nat) (t : Nat → Nat → Int) : Prop := w.heap[C]? = some (.cells (tab2 t).toArray 49)
theorem TabL.lt {w : World} {C : Nat} {t : Nat → Nat → Int} (h : TabL w C t) : C < w.heap.size := heap_lt h
theorem TabL.ext {w w' : World} {C : Nat} {t : Nat → Nat → Int} (h : TabL w C t) (hx : Ext w w') : TabL w' C t := (hx.block C h.lt).trans h
theorem TabL.at {w : World} {C : Nat} {t : Nat → Nat → Int} (h : TabL w C t) (r c : Nat) (hr : r < 9) (hc : c < 27) : w.cell? ⟨C, 27 * r + c, none⟩ = some (.int .i64 (t r c)) := by
  rw [cell_of_row w C _ _ _ _ h, List.getElem?_toArray, tab2_at t r c hr hc]
theorem TabL.fr {w : World} {C : Nat} {t : Nat → Nat → Int} (h : TabL w C t) (j : Nat) : w.frozen? ⟨C, j, none⟩ = false := frozen_of_row w C j _ _ h
theorem TabL.set {w : World} {C : Nat} {t : Nat → Nat → Int} (h : TabL w C t) (r c : Nat) (hc : c < 27) (x : Int) : TabL (w.setCell ⟨C, 27 * r + c, none⟩ (.int .i64 x)) C (fun a b => if a = r ∧ b = c then x else t a b) := by
  have h1 := heap_setCell_same w C (27 * r + c) _ _ (.int .i64 x) h
  unfold TabL
  rw [h1]
  congr 2
  rw [← tab2_set t r c hc]
  apply Array.toList_inj.1
  simp
theorem TabL.congr {w : World} {C : Nat} {t t' : Nat → Nat → Int} (h : TabL w C t) (he : ∀ r c, r < 9 → c < 27 → t r c = t' r c) : TabL w C t' := by
  have : tab2 t = tab2 t' := by
    unfold tab2
    apply List.map_congr_left
    intro j hj
    have := List.mem_range.1 hj
    rw [he (j / 27) (j % 27) (by omega) (by omega)]
  unfold TabL
  rw [← this]
  exact h
theorem TabL.row {w : World} {C : Nat} {t : Nat → Nat → Int} (h : TabL w C t) (r : Nat) (hr : r < 9) : w.rangeAt C (27 * r) (row27 (t r)) := by
  intro j v hj
  have hjl : j < 27 := by
    have := (List.getElem?_eq_some_iff.1 hj).1
    rw [row27_len] at this
    exact this
  rw [h.at r j hr hjl]
  unfold row27 at hj
  rw [List.getElem?_map, List.getElem?_range hjl] at hj
  exact hj
theorem TabL.other {w : World} {C : Nat} {t : Nat → Nat → Int} (h : TabL w C t) {p : Addr} (hp : ¬ p.block = C) (v : Value) : TabL (w.setCell p v) C t := by
  unfold TabL
  rw [heap_setCell_other w _ _ _ (fun e => hp e.symm)]
  exact h
/-- The table while it is filled. -/
def tM (c : Nat → Nat) (L k r e : Nat) : Int := if r < L ∨ r = L ∧ e < k then (eZ (dp c r e) : Int) else 0
theorem tM_zero (c : Nat → Nat) (r e : Nat) : (0 : Int) = tM c 0 0 r e := by unfold tM; rw [if_neg (by omega)]
theorem tM_set (c : Nat → Nat) (L k : Nat) (r e : Nat) : (if r = L ∧ e = k then (eZ (dp c L k) : Int) else tM c L k r e) = tM c L (k + 1) r e := by
  unfold tM
  by_cases h : r = L ∧ e = k
  · rw [if_pos h, if_pos (by omega), h.1, h.2]
  · rw [if_neg h]
    by_cases h2 : r < L ∨ r = L ∧ e < k
    · rw [if_pos h2, if_pos (by omega)]
    · rw [if_neg h2, if_neg (by omega)]
theorem tM_first (c : Nat → Nat) (r e : Nat) (he : e < 27) : tM c 0 26 r e = tM c 1 0 r e := by
  unfold tM
  by_cases hr : r = 0
  · subst hr
    rw [if_pos (show 0 < 1 ∨ 0 = 1 ∧ e < 0 by omega)]
    by_cases h2 : e < 26
    · rw [if_pos (by omega)]
    · rw [if_neg (by omega), dp, if_neg h2]; rfl
  · rw [if_neg (by omega), if_neg (by omega)]
theorem tM_next (c : Nat → Nat) (L r e : Nat) (he : e < 27) : tM c L 27 r e = tM c (L + 1) 0 r e := by
  unfold tM
  by_cases h : r < L ∨ r = L ∧ e < 27
  · rw [if_pos h, if_pos (by omega)]
  · rw [if_neg h, if_neg (by omega)]
theorem zeroL : Try.zeroCells49 = (tab2 fun _ _ => 0).toArray := by kernel_rfl
theorem eZ_first (c : Nat → Nat) (k : Nat) (h : k < 26) : (1099511627776 : Int) = (eZ (dp c 0 k) : Int) := by
  rw [dp, if_pos h]; rfl

theorem ext_setRow {w w1 : World} (h : Ext w w1) (g : Nat) (cs : Array Value) (hg : w.heap.size ≤ g) : Ext w (w1.setRow g cs) :=
  ⟨h.os, h.tape, h.output, by simpa [World.setRow] using h.size, fun k hk => (setRow_other w1 g k cs (by omega)).trans (h.block k hk)⟩
/-- Twenty zeros. -/
theorem tab2_store (wr : World) (R : Nat) (t0 t : Nat → Nat → Int) (h : TabL wr R t0) {w : World} (hx : Ext w wr) (hR : w.heap.size ≤ R) : ∃ W4, (storeCells ⟨R, 0, none⟩ (tab2 t)).run Try.prog wr = .ok () W4 ∧ W4.heap[R]? = some (.cells (tab2 t).toArray 49) ∧ Ext w W4 := by
  have hone : ∀ v ∈ tab2 t, v.oneCell' = true := by
    intro v hv
    obtain ⟨i, _, rfl⟩ := List.mem_map.1 hv
    rfl
  have hst := run_storeCells_at Try.prog R 0 49 (tab2 t) 0 (tab2 t0).toArray wr h (by rw [List.size_toArray, tab2_len, tab2_len]; decide) hone
  rw [tab2_len, Nat.add_zero, show ((tab2 t0).toArray.toList.take 0 ++ tab2 t ++ (tab2 t0).toArray.toList.drop (0 + 243)).toArray = (tab2 t).toArray by
    rw [List.take_zero, List.nil_append, List.drop_of_length_le (by rw [List.toList_toArray, tab2_len]; decide), List.append_nil]] at hst
  exact ⟨_, hst, setRow_heap _ _ _ _ _ _ h, ext_setRow hx _ _ hR⟩

set_option maxRecDepth 100000 in
set_option maxHeartbeats 1000000 in
theorem costs_any (v : Value) (zs : List Int) (n : Nat) (w : World) (h : IntsA w v zs) (hg : gB zs = true) (hn : n ≤ 8) : Calls Try.prog 35 #[v, .int .i64 n] w fun e w' => e = .returned (.agg (tab2 (tM (cf zs) (n + 1) 0)).toArray) ∧ Ext w w' := by
  have HS := Lib.hid h
  have HG := Lib.hid hg
  have h26 := gB_len hg
  obtain ⟨a, cap, hv⟩ := h.at
  rw [hv, h26] at HS ⊢
  clear hv h v hg
  obtain ⟨c, hcc⟩ : ∃ c, c = cf zs := ⟨_, rfl⟩
  have HCC := Lib.hid hcc
  rw [← hcc]
  clear hcc
  obtain ⟨W, hW⟩ : ∃ W, W = (w.alloc (.cells Try.zeroCells49 49)).alloc (.cells Try.zeroCells49 49) := ⟨_, rfl⟩
  have hT0 : TabL W (w.heap.size + 1) (fun _ _ => 0) := by rw [hW]; unfold TabL; rw [← zeroL]; exact heap_alloc2_new w _ _
  have hR0 : TabL W w.heap.size (fun _ _ => 0) := by rw [hW]; unfold TabL; rw [← zeroL]; exact heap_alloc2_old w _ _
  have X0 : Ext w W := by rw [hW]; exact ((Ext.refl _).alloc _).alloc _
  have T0 := Lib.hid hT0
  have R0 := Lib.hid hR0
  clear hT0 hR0
  go_enter Try.func35, Try.ntmps35
  go_wp2
  rw [← hW]
  clear hW
  go_loopw [9] (fun q wr => ∃ k : Nat, k ≤ 26 ∧ q = .int .i64 k ∧ TabL wr (w.heap.size + 1) (tM c 0 k) ∧ TabL wr w.heap.size (fun _ _ => 0) ∧ Ext w wr) (fun q _ => 26 - (intOf q).toNat)
  case atStart => exact ⟨0, Nat.zero_le _, rfl, T0.out.congr (fun r e _ _ => tM_zero c r e), R0.out, X0⟩
  case round =>
    obtain ⟨k, hk, rfl, hT, hR, hx⟩ := hrel
    have HT := Lib.hid hT
    have HR := Lib.hid hR
    clear hT hR
    by_cases hlt : k < 26
    · have c0 := HT.out.at 0 k (by omega) (by omega)
      have f0 := HT.out.fr k
      rw [Nat.mul_zero, Nat.zero_add] at c0
      have HN := Lib.hid (show TabL (wr.setCell ⟨w.heap.size + 1, k, none⟩ (.int .i64 1099511627776)) (w.heap.size + 1) (tM c 0 (k + 1)) from by
        have := (HT.out.set 0 k (by omega) 1099511627776).congr (t' := tM c 0 (k + 1)) (fun r e _ _ => by rw [← tM_set c 0 k r e, ← eZ_first c k hlt])
        rw [Nat.mul_zero, Nat.zero_add] at this
        exact this)
      have hki : (k : Int) < 26 := by omega
      have hki2 : (k : Int) < 27 := by omega
      have hk27 : k < 27 := by omega
      go_wp2
      go_roundw
      case rel => exact ⟨k + 1, by omega, by go_num, HN.out, HR.out.other (by simp) _, hx.setCell (Nat.le_succ _) _⟩
      case measure => simp [intOf]; omega
    · have hk26 : k = 26 := by omega
      have HT1 := Lib.hid (HT.out.congr (t' := tM c 1 0) (fun r e _ he => by rw [hk26]; exact tM_first c r e he))
      have hkk : ¬ (k : Int) < 26 := by omega
      clear hk26 hk hlt
      generalize k = k0 at hkk ⊢
      go_wp2
      go_loopw [7] (fun q wy => ∃ L : Nat, 1 ≤ L ∧ L ≤ n + 1 ∧ q = .int .i64 L ∧ TabL wy (w.heap.size + 1) (tM c L 0) ∧ TabL wy w.heap.size (fun _ _ => 0) ∧ Ext w wy) (fun q _ => n + 2 - (intOf q).toNat)
      case atStart => exact ⟨1, Nat.le_refl _, by omega, rfl, HT1.out, HR.out, hx⟩
      case round =>
        obtain ⟨L, hL1, hL, rfl, hT2, hR2, hx2⟩ := hrel
        have HT2 := Lib.hid hT2
        have HR2 := Lib.hid hR2
        clear hT2 hR2
        by_cases hle : L ≤ n
        · have hLi : (L : Int) ≤ (n : Int) := by omega
          go_wp2
          go_loopw [21] (fun q wz => ∃ k : Nat, k ≤ 27 ∧ q = .int .i64 k ∧ TabL wz (w.heap.size + 1) (tM c L k) ∧ TabL wz w.heap.size (fun _ _ => 0) ∧ Ext w wz) (fun q _ => 27 - (intOf q).toNat)
          case atStart => exact ⟨0, Nat.zero_le _, rfl, HT2.out, HR2.out, hx2⟩
          case round =>
            obtain ⟨k, hk, rfl, hT3, hR3, hx3⟩ := hrel
            have HT3 := Lib.hid hT3
            have HR3 := Lib.hid hR3
            clear hT3 hR3
            by_cases hk27 : k < 27
            · obtain ⟨M, hLM⟩ : ∃ M, L = M + 1 := ⟨L - 1, by omega⟩
              have HLM := Lib.hid hLM
              have HROW := Lib.hid (show ∀ w', Ext wr w' → w'.rangeAt (w.heap.size + 1) (M * 27) (row27 fun e => (eZ (dp c M e) : Int)) from fun w' hx' => by
                have hr := (HT3.out.ext hx').row M (by omega)
                have e : row27 (tM c L k M) = row27 (fun e => (eZ (dp c M e) : Int)) := by
                  unfold row27
                  refine List.map_congr_left fun j _ => ?_
                  unfold tM
                  rw [if_pos (by omega)]
                rw [e, Nat.mul_comm] at hr
                exact hr)
              have hu27 := Try.underlying47
              have hi27 : (Try.prog.info? 47).map (·.size) = some (row27 fun e => (eZ (dp c M e) : Int)).length := by rw [row27_len]; kernel_rfl
              have Wm : IntKind.i64.wrap ((L : Int) - 1) = (M : Int) := by simp only [IntKind.wrap_i64]; omega
              have Wm2 : wrap64 ((L : Int) - 1) = (M : Int) := by unfold wrap64; omega
              have hM9 : M < 9 := by omega
              have hM1 : L < 9 := by omega
              have hMi : (M : Int) < 9 := by omega
              have hM1i : (L : Int) < 9 := by omega
              have hki : (k : Int) < 27 := by omega
              have hlt2 := HT3.out.lt
              have HCE := Lib.hid (show wr.cell? ⟨w.heap.size + 1, L * 27 + k, none⟩ = some (.int .i64 (tM c L k L k)) by rw [Nat.mul_comm]; exact HT3.out.at L k hM1 hk27)
              have HFR := Lib.hid (HT3.out.fr (L * 27 + k))
              clear hLM
              have HU := Lib.hid hu27
              have HI27 := Lib.hid hi27
              clear hu27 hi27
              go_wp2
              refine wp_region_any (by kernel_rfl) ?_
              change wpAny _ _ _ _ _ _ _ (World.drew _)
              refine wpAny_take (i := 0) (oi := { dst := some 24, op := Op.move (Operand.tmp 7), type := 3, pos := "l1_press.go:391", after := #[], guard := none }) (v := .int .i64 L) rfl (by kernel_rfl) (by kernel_rfl) (by kernel_rfl) (fun _ _ _ h => h) (Or.inl ⟨by rfl, ?hy0⟩) ?rest0
              case hy0 => first | (intro w; go_simp; done) | (intro w; go_simp; with_reducible rfl)
              refine wpAny_take (i := 1) (oi := { dst := some 25, op := Op.move (Operand.tmp 8), type := 3, pos := "l1_press.go:391", after := #[], guard := none }) (v := .int .i64 k) rfl (by kernel_rfl) (by kernel_rfl) (by kernel_rfl) (fun _ _ _ h => h) (Or.inl ⟨by rfl, ?hy1⟩) ?rest1
              case hy1 => first | (intro w; go_simp; done) | (intro w; go_simp; with_reducible rfl)
              refine wpAny_take (i := 2) (oi := { dst := some 26, op := Op.move (Operand.tmp 0), type := 31, pos := "l1_press.go:391", after := #[], guard := none }) (v := .slice a 26 cap) rfl (by kernel_rfl) (by kernel_rfl) (by kernel_rfl) (fun _ _ _ h => h) (Or.inl ⟨by rfl, ?hy2⟩) ?rest2
              case hy2 => first | (intro w; go_simp; done) | (intro w; go_simp; with_reducible rfl)
              refine wpAny_take (i := 3) (oi := { dst := some 27, op := Op.move (Operand.tmp 8), type := 3, pos := "l1_press.go:391", after := #[], guard := none }) (v := .int .i64 k) rfl (by kernel_rfl) (by kernel_rfl) (by kernel_rfl) (fun _ _ _ h => h) (Or.inl ⟨by rfl, ?hy3⟩) ?rest3
              case hy3 => first | (intro w; go_simp; done) | (intro w; go_simp; with_reducible rfl)
              refine wpAny_take (i := 4) (oi := { dst := some 28, op := Op.move (Operand.tmp 7), type := 3, pos := "l1_press.go:391", after := #[], guard := none }) (v := .int .i64 L) rfl (by kernel_rfl) (by kernel_rfl) (by kernel_rfl) (fun _ _ _ h => h) (Or.inl ⟨by rfl, ?hy4⟩) ?rest4
              case hy4 => first | (intro w; go_simp; done) | (intro w; go_simp; with_reducible rfl)
              refine wpAny_take (i := 5) (oi := { dst := some 29, op := Op.binOp BinOp.sub 3 (Operand.tmp 28) (Operand.const (Value.int IntKind.i64 1)) 3, type := 3, pos := "l1_press.go:391", after := #[{ on := 4, ground := Ground.data }], guard := none }) (v := .int .i64 M) rfl (by kernel_rfl) (by kernel_rfl) (by kernel_rfl) (fun _ _ _ h => h) (Or.inl ⟨by rfl, ?hy5⟩) ?rest5
              case hy5 => first | (intro w; go_simp; done) | (intro w; go_simp; with_reducible rfl)
              refine wpAny_take (i := 6) (oi := { dst := some 30, op := Op.indexAddr 49 (Operand.tmp 5) (Operand.tmp 29), type := 0, pos := "l1_press.go:391", after := #[{ on := 5, ground := Ground.data }], guard := none }) (v := .pointer (some ⟨w.heap.size + 1, M * 27, none⟩)) rfl (by kernel_rfl) (by kernel_rfl) (by kernel_rfl) (fun _ _ _ h => h) (Or.inl ⟨by rfl, ?hy6⟩) ?rest6
              case hy6 => first | (intro w; go_simp; done) | (intro w; go_simp; with_reducible rfl)
              refine wpAny_take (i := 9) (oi := { dst := some 33, op := Op.indexAddr 49 (Operand.tmp 5) (Operand.tmp 24), type := 0, pos := "l1_press.go:391", after := #[{ on := 0, ground := Ground.data }], guard := none }) (v := .pointer (some ⟨w.heap.size + 1, L * 27, none⟩)) rfl (by kernel_rfl) (by kernel_rfl) (by kernel_rfl) (fun _ _ _ h => h) (Or.inl ⟨by rfl, ?hy9⟩) ?rest9
              case hy9 => first | (intro w; go_simp; done) | (intro w; go_simp; with_reducible rfl)
              simp only [Act.put, List.setIfInBounds_toArray, List.set_cons_zero, List.set_cons_succ]
              refine wpAny_ready (rs := [7]) (by kernel_rfl) (by simp) ?_
              refine AllReady.cons (o := { dst := some 31, op := Op.load 47 (Operand.tmp 30), type := 47, pos := "l1_press.go:391", after := #[{ on := 6, ground := Ground.data }], guard := none }) rfl (fun K hK => ?_) AllReady.nil
              rw [if_pos (by simp [Region.wanted])]
              refine wp_load_mid 47 (Operand.tmp 30) rfl (w.heap.size + 1) (M * 27) (by go_simp) (row27 fun e => (eZ (dp c M e) : Int)) (.array 27 3) (HROW.out _ (Ext.refl _).drew) HU.out rfl HI27.out ?_
              refine hK _ _ ?_
              clear hK K
              refine wpAny_ready (rs := [8]) (by kernel_rfl) (by simp) ?_
              refine AllReady.cons rfl (fun K hK => ?_) AllReady.nil
              go_simp
              go_wp2_with (go_at_call 45; rw [HCC.out]; refine (leastFrom_any _ zs k M _ (HS.out.ext (hx3.trans (Ext.refl _).drew)) HG.out (by omega)).mono ?_; rintro e w9 ⟨rfl, x9⟩; rw [← HCC.out]; have d1 := (((Ext.refl wr).drew.trans x9).cell (p := ⟨w.heap.size + 1, L * 27 + k, none⟩) hlt2).trans HCE.out; have d3 := (((Ext.refl wr).drew.trans x9).frozen (p := ⟨w.heap.size + 1, L * 27 + k, none⟩) hlt2).trans HFR.out)
              refine wpAny_ready (rs := [10]) (by kernel_rfl) (by simp) ?_
              refine AllReady.cons rfl (fun K hK => ?_) AllReady.nil
              go_simp
              refine hK _ _ ?_
              clear hK K
              refine wpAny_ready (rs := [11]) (by kernel_rfl) (by simp) ?_
              refine AllReady.cons rfl (fun K hK => ?_) AllReady.nil
              go_simp
              refine hK _ _ ?_
              clear hK K
              refine wpAny_done (by kernel_rfl) ?_ _
              go_wp2
              go_roundw
              case rel =>
                have XX : Ext wr w9 := (Ext.refl wr).drew.trans x9
                refine ⟨k + 1, by omega, by go_num, ?_, (HR3.out.ext XX).other (by simp) _, (hx3.trans XX).setCell (p := ⟨w.heap.size + 1, L * 27 + k, none⟩) (Nat.le_succ _) _⟩
                have h9 := ((HT3.out.ext XX).set L k hk27 (eZ (dp c L k) : Int)).congr (t' := tM c L (k + 1)) (fun r e _ _ => tM_set c L k r e)
                rw [Nat.mul_comm, HLM.out] at h9
                rw [HLM.out]
                exact h9
              case measure => simp [intOf]; omega
            · obtain rfl : k = 27 := by omega
              have HT4 := Lib.hid (HT3.out.congr (t' := tM c (L + 1) 0) (fun r e _ he => tM_next c L r e he))
              go_wp2
              go_roundw
              case rel => exact ⟨L + 1, by omega, by omega, by go_num, HT4.out, HR3.out, hx3⟩
              case measure => simp [intOf]; omega
        · obtain rfl : L = n + 1 := by omega
          have hLn : ¬ (((n + 1 : Nat) : Int)) ≤ (n : Int) := by omega
          have HN := Lib.hid (show (Try.prog.info? 49).map (·.size) = some (tab2 (tM c (n + 1) 0)).toArray.size by rw [List.size_toArray, tab2_len]; kernel_rfl)
          have h243 : (tab2 (tM c (n + 1) 0)).length = 243 := tab2_len _
          obtain ⟨W4, hst, hg4, X4⟩ := tab2_store wr w.heap.size (fun _ _ => 0) (tM c (n + 1) 0) HR2.out hx2 (Nat.le_refl _)
          have G4 := Lib.hid hg4
          clear hg4
          go_wp2_with (first | (refine wpList_load_row rfl _ _ rfl (w.heap.size + 1) rfl 49 (tab2 (tM c (n + 1) 0)).toArray (0, 0) _ HT2.out Try.underlying49 rfl HN.out ?_))
          exact bodyPost_ret (results_cell_row (P := Try.prog) (p := 4) (ty := 49) rfl _ _ w.heap.size 49 (tab2 (tM c (n + 1) 0)).toArray (0, 0) _ rfl G4.out Try.underlying49 rfl HN.out) rfl ⟨rfl, X4⟩

end Go.Proofs.Ytioinihlahnbfaa
