/- The law's own copies of a list of numbers; a list of numbers that came in. No conditions. -/
import Derived.Test.YthooedmlnonadaaDoorSeq
import Derived.Test.YthooedmlnonadaaDoorInts
import Derived.Test.YthooedmlnonadaaDoorLaw
import Derived.ChangeSlices
namespace Go.Proofs.YthooedmlnonadaaDoor
open Go.ChangeShapes Go.WideShapes Go.ChangeAt Go.RowKit

/-- v is a list of numbers. -/
def IntsA (w : World) (v : Value) (zs : List Int) : Prop :=
  zs.length ≤ maxLen ∧ ((zs = [] ∧ ∃ x cap, v = .slice x 0 cap) ∨ ∃ b off cap, v = .slice (some ⟨b, off, none⟩) zs.length cap ∧ b < w.heap.size ∧ ∀ j (h : j < zs.length), w.cell? ⟨b, off + j, none⟩ = some (.int .i64 zs[j]))
theorem IntsA.ext {w w' : World} {v : Value} {zs : List Int} (h : IntsA w v zs) (hx : Ext w w') : IntsA w' v zs := by
  refine ⟨h.1, h.2.imp id fun ⟨b, off, cap, h1, h2, h3⟩ => ⟨b, off, cap, h1, Nat.lt_of_lt_of_le h2 hx.size, fun j hj => (hx.cell (p := ⟨b, off + j, none⟩) h2).trans (h3 j hj)⟩⟩
theorem IntsA.at {w : World} {v : Value} {zs : List Int} (h : IntsA w v zs) : ∃ a cap, v = .slice a zs.length cap := by
  rcases h.2 with ⟨rfl, x, cap, rfl⟩ | ⟨b, off, cap, rfl, _⟩
  · exact ⟨x, cap, rfl⟩
  · exact ⟨_, _, rfl⟩

/-- A copy that the call made: a list of its own with these numbers. -/
def OwnI (w w' : World) (e : Ending) (zs : List Int) : Prop := ∃ v, e = .returned v ∧ IntsA w' v zs ∧ Ext w w' ∧ ∃ g cap, v = .slice (some ⟨g, 0, none⟩) zs.length cap ∧ w.heap.size ≤ g ∧ g < w'.heap.size ∧ RowI w.heap.size w' v zs

set_option maxHeartbeats 1000000 in
theorem toI_any (v : Value) (zs : List Int) (w : World) (h : IntsA w v zs) (hn : zs.length ≤ 1048576) : Calls Tryd.prog 28 #[v] w fun e w' => OwnI w w' e zs := by
  have HS := Lib.hid h
  obtain ⟨i0, hi, hz0, hzs, hzb⟩ := info_parts info_intP
  have HI := Lib.hid (show Tryd.prog.info? 3 = some i0 ∧ i0.zero = some (.int .i64 0) ∧ i0.size = 1 ∧ i0.bytes = 8 from ⟨hi, hz0, hzs, hzb⟩)
  clear hi hz0 hzs hzb
  obtain ⟨a, cap, hv⟩ := h.at
  rw [hv] at HS ⊢
  clear hv h v
  go_enter Tryd.func28, Tryd.ntmps28
  go_wp2_with (at_make; refine wpList_make_full _ rfl _ _ 28 rfl w.heap.size 3 i0 (.int .i64 0) 1 Tryd.underlying28 HI.out.1 HI.out.2.1 HI.out.2.2.1 .i64 .i64 _ _ zs.length rfl rfl rfl rfl (by rw [HI.out.2.2.2]; omega) (by unfold maxLen; omega) (Nat.le_refl _) ?_; intro w1 hown hgr)
  have X1 : Ext w w1 := ext_grown (Ext.refl w) hgr (by intro k hk; cases hk)
  obtain ⟨xs1, hxs1⟩ : ∃ xs, xs = (madeCells (Value.int .i64 0).cells (zs.length * 1)).toList := ⟨_, rfl⟩
  rw [← hxs1] at hown
  clear hxs1 hgr
  go_loopw [4] (fun i wr => ∃ k : Nat, k ≤ zs.length ∧ i = .int .i64 k ∧ ∃ xs : List Value, wr.ownsRow w.heap.size 3 1 (.slice (some ⟨w.heap.size, 0, none⟩) zs.length zs.length) zs.length xs ∧ (∀ j (hj : j < zs.length), j < k → xs[j]? = some (.int .i64 zs[j])) ∧ Ext w wr) (fun i _ => zs.length - (intOf i).toNat)
  case atStart => exact ⟨0, Nat.zero_le _, rfl, xs1, hown, fun j _ h => absurd h (by omega), X1⟩
  case round =>
    obtain ⟨k, hk, rfl, xs, hown, hxs, hx⟩ := hrel
    have HO := Lib.hid hown
    have HX := Lib.hid hxs
    clear hown hxs
    by_cases hlt : k < zs.length
    · have hlen : xs.length = zs.length := by have := HO.out.1; omega
      obtain ⟨u, hu⟩ : ∃ u, xs[k]? = some u := ⟨xs[k]'(by omega), List.getElem?_eq_getElem _⟩
      have hc3 := (HO.out.cellAt k (by omega)).trans hu
      have hf3 := HO.out.frozenAt k
      clear hu hlen
      rcases (HS.out.ext hx).2 with ⟨h2, _⟩ | ⟨b, off, cap', h1, hb, hc⟩
      · rw [h2] at hlt; exact absurd hlt (by simp)
      · have ha : a = some ⟨b, off, none⟩ := by injection h1
        have hcell := hc k hlt
        rw [ha]
        clear hc h1 ha HS
        go_wp2
        go_roundw
        case rel =>
          refine ⟨k + 1, by omega, by go_num, xs.set k (.int .i64 zs[k]), (HO.out.stored k _).1, ?_, hx.setCell (Nat.le_refl _) _⟩
          intro j hj hjk
          by_cases e : j = k
          · subst e
            rw [List.getElem?_set_self (by have := HO.out.1; omega)]
          · rw [List.getElem?_set_ne (by omega)]
            exact HX.out j hj (by omega)
        case measure => simp [intOf]; omega
    · go_wp2
      go_ret
      have hk' : k = zs.length := by omega
      have e : xs = zs.map (Value.int .i64) := by
        apply List.ext_getElem?
        intro j
        by_cases hj : j < zs.length
        · rw [HX.out j hj (by omega)]; simp [hj]
        · rw [List.getElem?_eq_none (by have := HO.out.1; omega), List.getElem?_eq_none (by simp; omega)]
      have hgl : w.heap.size < wr.heap.size := by
        rcases HO.out.2 with ⟨h3, _⟩ | ⟨g, c, cur, h3, _, hg, _⟩
        · cases h3
        · cases h3
          exact heapLt hg
      refine ⟨_, rfl, ⟨by unfold maxLen; omega, .inr ⟨w.heap.size, 0, zs.length, rfl, hgl, fun j hj => ?_⟩⟩, hx, w.heap.size, zs.length, rfl, Nat.le_refl _, hgl, by unfold RowI; rw [← e]; exact HO.out⟩
      rw [Nat.zero_add]
      exact (HO.out.cellAt j (by omega)).trans (HX.out j hj (by omega))

theorem RowI.kept {B : Nat} {w w' : World} {v : Value} {ts : List Int} {row : Option Nat} (h : RowI B w v ts) (hg : w.grownBy w' row) (hne : v.ownBlock = none ∨ v.ownBlock ≠ row) : RowI B w' v ts := World.ownsRow.kept h hg hne
theorem RowI.apart {B : Nat} {w : World} {v : Value} {ts : List Int} (h : RowI B w v ts) (g : Nat) (hd : g < B ∨ w.heap.size ≤ g) : v.ownBlock = none ∨ v.ownBlock ≠ some g := by
  rcases h.own with h0 | ⟨g', h0, h1, h2⟩
  · exact .inl h0
  · refine .inr ?_
    rw [h0]
    intro e
    injection e with e
    omega
theorem RowI.apart2 {B B2 : Nat} {w w2 : World} {v u : Value} {ts ys : List Int} (h : RowI B w v ts) (h2 : RowI B2 w2 u ys) (hd : w.heap.size ≤ B2) : v.ownBlock = none ∨ v.ownBlock ≠ u.ownBlock := by
  rcases h2.own with h0 | ⟨g', h0, h1, _⟩
  · rw [h0]
    cases hv : v.ownBlock
    · exact .inl rfl
    · exact .inr (by intro e; cases e)
  · rw [h0]
    exact h.apart g' (.inr (Nat.le_trans hd h1))

theorem RowI.own_le {B : Nat} {w : World} {v : Value} {ts : List Int} (h : RowI B w v ts) (j : Nat) (hj : v.ownBlock = some j) : B ≤ j := by
  rcases h.own with h0 | ⟨g', h0, h1, h2⟩
  · rw [h0] at hj; cases hj
  · rw [h0] at hj; injection hj with hj; omega

theorem cells_int : Tryd.prog.cellsOf 3 = 1 := by kernel_rfl
set_option maxRecDepth 100000 in
theorem ints_of {H : Type} {enc : TypeId × Value → H} {W : World} {base : Nat} {v : Value} {d : DataW H} {p : List MemPlace}
    (hv : Value.okWide Tryd.prog W .any base 28 v) (h : DataW.Trod enc Tryd.prog W 0 (fun _ => true) true 28 v d p) : ∃ zs, IntsA W v zs := by
  obtain ⟨a0, len, cap, rfl⟩ := okWide_slice Tryd.underlying28 hv
  obtain ⟨fuel, hf⟩ := h
  rcases open_ints Tryd.underlying28 Tryd.underlying3 cells_int hf with ⟨hcs, _⟩ | ⟨a, len', cap', zs, hcs, _, hl, hm, hz, _, hcell, _⟩
  · have e : Value.slice a0 len cap = .slice none 0 0 := by simpa [Value.cells] using hcs
    exact ⟨[], by unfold maxLen; simp, .inl ⟨rfl, none, 0, e⟩⟩
  · have e : Value.slice a0 len cap = .slice (some a) len' cap' := by simpa [Value.cells] using hcs
    injection e with e1 e2 e3
    subst e1; subst e2; subst e3
    rw [if_pos rfl] at hz
    have hlen : (zs.take len).length = len := by rw [List.length_take]; omega
    refine ⟨zs.take len, by rw [hlen]; omega, ?_⟩
    by_cases h0 : len = 0
    · refine .inl ⟨List.length_eq_zero_iff.1 (by omega), some a, cap, by rw [h0]⟩
    · obtain ⟨b, off, spot⟩ := a
      have hspot : spot = none := by simpa [Addr.add] using World.cell?_spot (hcell 0 (by omega))
      subst hspot
      refine .inr ⟨b, off, cap, by rw [hlen], ?_, fun j hj => ?_⟩
      · have := World.block_lt_of_cell? _ _ (hcell 0 (by omega))
        simpa [Addr.add] using this
      · have := hcell j (by omega)
        rw [Go.WideShapes.add_plain] at this
        rw [this, List.getElem_take, List.getD_eq_getElem?_getD, List.getElem?_eq_getElem (by omega)]
        rfl

end Go.Proofs.YthooedmlnonadaaDoor
