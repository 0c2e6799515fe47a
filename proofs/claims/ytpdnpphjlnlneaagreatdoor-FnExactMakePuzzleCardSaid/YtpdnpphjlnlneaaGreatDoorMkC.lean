/- The laws' marks on a list of clues of the call's own, and on a puzzle. No conditions. -/
import Derived.Test.YtpdnpphjlnlneaaGreatDoorPuz
namespace Go.Proofs.YtpdnpphjlnlneaaGreatDoor
open Go.RowKit Go.ChangeShapes Go.WideShapes Go.ChangeAt Go.Deep

def mkC (j : Nat) : Cl := ⟨1 + 3 * (j : Int), 1 + 3 * (j : Int) + 1, 1 + 3 * (j : Int) + 1 + 1⟩
def mkN (n : Nat) : List Cl := (List.range n).map mkC
theorem mkN_len (n : Nat) : (mkN n).length = n := by unfold mkN; rw [List.length_map, List.length_range]
theorem mkN_at (n j : Nat) (h : j < (mkN n).length) : (mkN n)[j] = mkC j := by
  have h2 : j < ((List.range n).map mkC).length := h
  show ((List.range n).map mkC)[j]'h2 = _
  rw [List.getElem_map, List.getElem_range]
theorem OwnR.own {B : Nat} {w : World} {v : Value} {gs : List Cl} (h : OwnR B w v gs) : v.ownBlock = none ∨ ∃ g, v.ownBlock = some g ∧ B ≤ g ∧ g < w.heap.size := by
  rcases h.2 with ⟨rfl, _⟩ | ⟨g, cap, cur, rfl, hB, hb, _⟩
  · exact .inl rfl
  · refine .inr ⟨g, rfl, hB, ?_⟩
    rcases Nat.lt_or_ge g w.heap.size with h4 | h4
    · exact h4
    · rw [Array.getElem?_eq_none h4] at hb; cases hb
theorem OwnR.own_le {B : Nat} {w : World} {v : Value} {gs : List Cl} (h : OwnR B w v gs) (j : Nat) (hj : v.ownBlock = some j) : B ≤ j := by
  rcases h.own with e | ⟨g, e, hB, _⟩
  · rw [e] at hj; cases hj
  · rw [e] at hj; cases hj; exact hB
theorem OwnR.shape {B : Nat} {w : World} {v : Value} {gs : List Cl} (h : OwnR B w v gs) : ∃ a cap, v = .slice a gs.length cap := by
  rcases h.2 with ⟨rfl, h0⟩ | ⟨g, cap, cur, rfl, _⟩
  · exact ⟨none, 0, by rw [h0]⟩
  · exact ⟨_, cap, rfl⟩
theorem OwnR.kept {B : Nat} {w w' : World} {v : Value} {gs : List Cl} {row : Option Nat} (h : OwnR B w v gs) (hg : w.grownBy w' row) (hne : v.ownBlock = none ∨ v.ownBlock ≠ row) : OwnR B w' v gs := by
  refine ⟨h.1, ?_⟩
  rcases h.2 with h0 | ⟨g, cap, cur, rfl, hB, hb, hs⟩
  · exact .inl h0
  · refine .inr ⟨g, cap, cur, rfl, hB, ?_, hs⟩
    have hlt : g < w.heap.size := by
      rcases Nat.lt_or_ge g w.heap.size with h4 | h4
      · exact h4
      · rw [Array.getElem?_eq_none h4] at hb; cases hb
    rw [hg.block g hlt (fun e => by
      rcases hne with h5 | h5
      · cases h5
      · exact h5 e)]
    exact hb

theorem grown_set {w wr : World} {g o : Nat} {v : Value} {r : Option Nat} (h : w.grownBy wr r) (hr : r = some g) : w.grownBy (wr.setCell ⟨g, o, none⟩ v) r := by
  refine ⟨h.os, h.tape, h.output, by simpa using h.size, fun i hi hne => ?_⟩
  rw [Below.heap_setCell _ _ _ _ (by intro e; exact hne (by rw [e]; exact hr.symm))]
  exact h.block i hi hne
set_option maxRecDepth 100000 in
set_option maxHeartbeats 4000000 in
theorem markC_any (v : Value) (gs : List Cl) (B : Nat) (w : World) (h : OwnR B w v gs) (hn : gs.length ≤ 1048576) : Calls Tryz.prog 64 #[v, .int .i64 1] w fun e w' => e = .returned (.int .i64 (1 + 3 * (gs.length : Int))) ∧ OwnR B w' v (mkN gs.length) ∧ w.grownBy w' v.ownBlock := by
  have HV := Lib.hid h
  obtain ⟨a, cap, hv⟩ := h.shape
  rw [hv] at HV ⊢
  clear hv h v
  have HFL := Lib.hid (flat_len gs)
  obtain ⟨xs0, hxs0⟩ : ∃ xs, xs = flat gs := ⟨_, rfl⟩
  have HV2 := Lib.hid (show w.ownsRow B 26 3 (.slice a gs.length cap) gs.length xs0 by rw [hxs0]; exact HV.out)
  obtain ⟨L, hL⟩ : ∃ L, L = gs.length := ⟨_, rfl⟩
  rw [← hL] at hn HV2 ⊢
  clear hL hxs0 HV HFL
  have HG0 := Lib.hid (show w.grownBy w (Value.ownBlock (.slice a L cap)) from ⟨rfl, rfl, rfl, Nat.le_refl _, fun _ _ _ => rfl⟩)
  go_enter Tryz.func64, Tryz.ntmps64
  go_wp2
  go_loopw [1, 5] (fun q i wr => ∃ k : Nat, k ≤ L ∧ i = .int .i64 k ∧ q = .int .i64 (1 + 3 * (k : Int)) ∧ ∃ xs : List Value, wr.ownsRow B 26 3 (.slice a L cap) L xs ∧ (∀ j, j < k → xs[j * 3]? = some (.int .i64 (mkC j).k) ∧ xs[j * 3 + 1]? = some (.int .i64 (mkC j).a) ∧ xs[j * 3 + 2]? = some (.int .i64 (mkC j).b)) ∧ w.grownBy wr (Value.ownBlock (.slice a L cap))) (fun _ i _ => L - (intOf i).toNat)
  case atStart => exact ⟨0, Nat.zero_le _, rfl, rfl, xs0, HV2.out, fun j h => absurd h (by omega), HG0.out⟩
  case round =>
    obtain ⟨k, hk, rfl, rfl, xs, hown, hxs, hgr⟩ := hrel
    have HO := Lib.hid hown
    have HX := Lib.hid hxs
    have HG := Lib.hid hgr
    clear hown hxs hgr
    by_cases hlt : k < L
    · rcases HO.out.2 with ⟨_, hn0⟩ | ⟨g, cap', cur, e, hb, hg, _⟩
      · omega
      injection e with e1 e2 e3
      have hO2 : wr.ownsRow B 26 3 (.slice (some ⟨g, 0, none⟩) L cap) L xs := e1 ▸ HO.out
      have HO2 := Lib.hid hO2
      have hL3 := hO2.1
      obtain ⟨y0, hy0⟩ : ∃ y, xs[k * 3]? = some y := ⟨_, List.getElem?_eq_getElem (show k * 3 < xs.length by omega)⟩
      have hc0 := (hO2.cellAt (k * 3) (by omega)).trans hy0
      obtain ⟨y1, hy1⟩ : ∃ y, xs[k * 3 + 1]? = some y := ⟨_, List.getElem?_eq_getElem (show k * 3 + 1 < xs.length by omega)⟩
      have hc1 := (hO2.cellAt (k * 3 + 1) (by omega)).trans hy1
      obtain ⟨y2, hy2⟩ : ∃ y, xs[k * 3 + 2]? = some y := ⟨_, List.getElem?_eq_getElem (show k * 3 + 2 < xs.length by omega)⟩
      have hc2 := (hO2.cellAt (k * 3 + 2) (by omega)).trans hy2
      have hf0 := hO2.frozenAt (k * 3)
      have hf1 := hO2.frozenAt (k * 3 + 1)
      have hf2 := hO2.frozenAt (k * 3 + 2)
      rw [e1]
      clear hO2 hb hg hL3 hy0 hy1 hy2
      go_wp2
      go_roundw
      case rel =>
        have O3 := ((((HO2.out.stored (k * 3) (.int .i64 (1 + 3 * (k : Int)))).1).stored (k * 3 + 1) (.int .i64 (1 + 3 * (k : Int) + 1))).1.stored (k * 3 + 2) (.int .i64 (1 + 3 * (k : Int) + 1 + 1))).1
        have hL3 := HO2.out.1
        refine ⟨k + 1, by omega, by go_num, congrArg (Value.int .i64) (by omega), _, O3, ?_, ?_⟩
        · intro j hjk
          by_cases e : j = k
          · subst e
            refine ⟨?_, ?_, ?_⟩
            · rw [List.getElem?_set_ne (by omega), List.getElem?_set_ne (by omega), List.getElem?_set_self (by omega)]; rfl
            · rw [List.getElem?_set_ne (by omega), List.getElem?_set_self (by simp; omega)]; rfl
            · rw [List.getElem?_set_self (by simp; omega)]; rfl
          · obtain ⟨z0, z1, z2⟩ := HX.out j (by omega)
            refine ⟨?_, ?_, ?_⟩
            · rw [List.getElem?_set_ne (by omega), List.getElem?_set_ne (by omega), List.getElem?_set_ne (by omega)]; exact z0
            · rw [List.getElem?_set_ne (by omega), List.getElem?_set_ne (by omega), List.getElem?_set_ne (by omega)]; exact z1
            · rw [List.getElem?_set_ne (by omega), List.getElem?_set_ne (by omega), List.getElem?_set_ne (by omega)]; exact z2
        · have h1 := HG.out
          rw [e1] at h1
          exact grown_set (grown_set (grown_set h1 rfl) rfl) rfl
      case measure => simp [intOf]; omega
    · have hkl : k = L := by omega
      subst hkl
      have HM := Lib.hid (mkN_len k)
      have HE := Lib.hid (flat_ext (gs := mkN k) (by rw [mkN_len]; exact HO.out.1) (fun j hj => by
        rw [mkN_at]
        exact HX.out j (by rw [mkN_len] at hj; exact hj)))
      go_wp2
      go_ret
      refine ⟨ret_iD rfl, ?_, HG.out⟩
      unfold OwnR
      rw [HM.out, ← HE.out]
      exact HO.out
theorem OwnR.get {B : Nat} {w : World} {a : Option Addr} {cap : Nat} {gs : List Cl} (h : OwnR B w (.slice a gs.length cap) gs) (j : Nat) (hj : j < gs.length) : ∃ g, a = some ⟨g, 0, none⟩ ∧ w.cell? ⟨g, j * 3, none⟩ = some (.int .i64 gs[j].k) ∧ w.cell? ⟨g, j * 3 + 1, none⟩ = some (.int .i64 gs[j].a) ∧ w.cell? ⟨g, j * 3 + 2, none⟩ = some (.int .i64 gs[j].b) := by
  rcases h.2 with ⟨_, h0⟩ | ⟨g, cap', cur, e, hB, hb, hs⟩
  · omega
  injection e with e1 e2 e3
  have h2 : w.ownsRow B 26 3 (.slice (some ⟨g, 0, none⟩) gs.length cap) gs.length (flat gs) := e1 ▸ h
  refine ⟨g, e1, ?_, ?_, ?_⟩
  · rw [h2.cellAt (j * 3) (by omega)]; exact flat_at gs j hj 0 (by omega)
  · rw [h2.cellAt (j * 3 + 1) (by omega)]; exact flat_at gs j hj 1 (by omega)
  · rw [h2.cellAt (j * 3 + 2) (by omega)]; exact flat_at gs j hj 2 (by omega)

set_option maxRecDepth 100000 in
set_option maxHeartbeats 4000000 in
theorem heldC_any (v : Value) (n B : Nat) (w : World) (h : OwnR B w v (mkN n)) (hn : n ≤ 1048576) : Calls Tryz.prog 72 #[v, .int .i64 1] w fun e w' => e = .returned (.int .i64 (1 + 3 * (n : Int))) ∧ Ext w w' := by
  have HV := Lib.hid h
  have HL := Lib.hid (mkN_len n)
  obtain ⟨a, cap, hv⟩ := h.shape
  rw [hv] at HV ⊢
  clear hv h v
  have hlen : (mkN n).length ≤ 1048576 := by rw [HL.out]; exact hn
  obtain ⟨L, hL⟩ : ∃ L, L = (mkN n).length := ⟨_, rfl⟩
  have HLL := Lib.hid hL
  rw [← hL] at hlen ⊢
  clear hL
  go_enter Tryz.func72, Tryz.ntmps72
  go_wp2
  go_loopw [1, 5] (fun q i wr => ∃ k : Nat, k ≤ L ∧ i = .int .i64 k ∧ q = .int .i64 (1 + 3 * (k : Int)) ∧ Ext w wr) (fun _ i _ => L - (intOf i).toNat)
  case atStart => exact ⟨0, Nat.zero_le _, rfl, rfl, Ext.refl _⟩
  case round =>
    obtain ⟨k, hk, rfl, rfl, hx⟩ := hrel
    by_cases hlt : k < L
    · obtain ⟨g, ha, c0, c1, c2⟩ := OwnR.get (HV.out.ext hx) k (by rw [← HLL.out]; exact hlt)
      rw [mkN_at] at c0 c1 c2
      rw [ha]
      have d0 : wr.cell? ⟨g, k * 3, none⟩ = some (.int .i64 (1 + 3 * (k : Int))) := c0
      have d1 : wr.cell? ⟨g, k * 3 + 1, none⟩ = some (.int .i64 (1 + 3 * (k : Int) + 1)) := c1
      have d2 : wr.cell? ⟨g, k * 3 + 2, none⟩ = some (.int .i64 (1 + 3 * (k : Int) + 1 + 1)) := c2
      clear ha c0 c1 c2
      go_wp2
      go_roundw
      case rel => exact ⟨k + 1, by omega, by go_num, congrArg (Value.int .i64) (by omega), hx⟩
      case measure => simp [intOf]; omega
    · have hkn : k = n := by have := HLL.out; have := HL.out; omega
      have HK := Lib.hid hkn
      clear hkn
      go_wp2
      go_ret
      exact ⟨by rw [HK.out]; rfl, hx⟩

theorem markPz_any (d : Int) (u : Value) (gs : List Cl) (B : Nat) (w : World) (h : OwnR B w u gs) (hn : gs.length ≤ 1048576) : Calls Tryz.prog 27 #[.agg #[.int .i64 d, u], .int .i64 1] w fun e w' => e = .returned (.int .i64 (1 + 3 * (gs.length : Int))) ∧ OwnR B w' u (mkN gs.length) ∧ (w.alloc (.cells #[.int .i64 d, u] 37)).grownBy w' u.ownBlock := by
  have H := Lib.hid (h.ext ((Ext.refl w).alloc (.cells #[.int .i64 d, u] 37)))
  clear h
  go_enter Tryz.func27, Tryz.ntmps27
  go_wp2_with (go_at_call 64; refine (markC_any u gs B _ H.out hn).mono ?_; rintro e w1 ⟨rfl, r1, g1⟩)
  go_ret
  exact ⟨rfl, r1, g1⟩
theorem heldPz_any (d : Int) (u : Value) (n B : Nat) (w : World) (h : OwnR B w u (mkN n)) (hn : n ≤ 1048576) : Calls Tryz.prog 45 #[.agg #[.int .i64 d, u], .int .i64 1] w fun e w' => e = .returned (.int .i64 (1 + 3 * (n : Int))) ∧ Ext w w' := by
  have X0 := Lib.hid (show Ext w (w.alloc (.cells #[.int .i64 d, u] 37)) from (Ext.refl w).alloc _)
  have H := Lib.hid (h.ext X0.out)
  clear h
  go_enter Tryz.func45, Tryz.ntmps45
  go_wp2_with (go_at_call 72; refine (heldC_any u n B _ H.out hn).mono ?_; rintro e w1 ⟨rfl, x1⟩)
  go_ret
  exact ⟨rfl, X0.out.trans x1⟩
end Go.Proofs.YtpdnpphjlnlneaaGreatDoor
