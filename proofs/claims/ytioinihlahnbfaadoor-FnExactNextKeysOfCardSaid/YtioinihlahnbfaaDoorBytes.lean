/- Bytes put in order: by sinking one after the other, as the library does with few of them. No program in particular, at first. -/
import Derived.Test.YtioinihlahnbfaaDoorOwnS
import Derived.Deep.QuietTactic
import Derived.BigQuiet
import Derived.Deep.RegionWith
namespace Go.Proofs.YtioinihlahnbfaaDoor
open Go.RowKit

/-! ### Plainly -/
def sw (l : List Int) (j : Nat) : List Int := (l.set (j + 1) (l.getD j 0)).set j (l.getD (j + 1) 0)
def sink (l : List Int) : Nat → List Int
  | 0 => l
  | j + 1 => if l.getD (j + 1) 0 < l.getD j 0 then sink (sw l j) j else l
def srtUp (l : List Int) : Nat → List Int
  | 0 => l
  | i + 1 => sink (srtUp l i) i
theorem sw_len (l : List Int) (j : Nat) : (sw l j).length = l.length := by simp [sw]
theorem sink_len : ∀ (j : Nat) (l : List Int), (sink l j).length = l.length
  | 0, _ => rfl
  | j + 1, l => by
    rw [sink]
    split
    · rw [sink_len j, sw_len]
    · rfl
theorem srtUp_len (l : List Int) : ∀ i, (srtUp l i).length = l.length
  | 0 => rfl
  | i + 1 => by rw [srtUp, sink_len, srtUp_len l i]
theorem sw_at (l : List Int) (j a : Nat) (hj : j + 1 < l.length) : (sw l j).getD a 0 = if a = j then l.getD (j + 1) 0 else if a = j + 1 then l.getD j 0 else l.getD a 0 := by
  unfold sw
  rw [List.getD_eq_getElem?_getD]
  by_cases e : a = j
  · subst e
    rw [if_pos rfl, List.getElem?_set_self (by rw [List.length_set]; omega)]
    rfl
  · rw [if_neg e, List.getElem?_set_ne (fun h => e h.symm)]
    by_cases e2 : a = j + 1
    · subst e2
      rw [if_pos rfl, List.getElem?_set_self hj]
      rfl
    · rw [if_neg e2, List.getElem?_set_ne (fun h => e2 h.symm), ← List.getD_eq_getElem?_getD]
theorem getI {l : List Int} {j : Nat} (h : j < l.length) : l.getD j 0 = l[j] := by rw [List.getD_eq_getElem?_getD, List.getElem?_eq_getElem h]; rfl
theorem mem_at (l : List Int) (x : Int) : x ∈ l ↔ ∃ a, a < l.length ∧ l.getD a 0 = x := by
  constructor
  · intro h
    obtain ⟨a, ha, e⟩ := List.mem_iff_getElem.1 h
    exact ⟨a, ha, by rw [getI ha]; exact e⟩
  · rintro ⟨a, ha, e⟩
    rw [getI ha] at e
    exact e ▸ List.getElem_mem ha
theorem sw_mem (l : List Int) (j : Nat) (hj : j + 1 < l.length) (x : Int) : x ∈ sw l j ↔ x ∈ l := by
  rw [mem_at, mem_at, sw_len]
  constructor
  · rintro ⟨a, ha, e⟩
    rw [sw_at l j a hj] at e
    by_cases e1 : a = j
    · rw [if_pos e1] at e; exact ⟨j + 1, hj, e⟩
    · rw [if_neg e1] at e
      by_cases e2 : a = j + 1
      · rw [if_pos e2] at e; exact ⟨j, by omega, e⟩
      · rw [if_neg e2] at e; exact ⟨a, ha, e⟩
  · rintro ⟨a, ha, e⟩
    by_cases e1 : a = j
    · exact ⟨j + 1, hj, by rw [sw_at l j (j + 1) hj, if_neg (by omega), if_pos rfl, ← e1]; exact e⟩
    · by_cases e2 : a = j + 1
      · exact ⟨j, by omega, by rw [sw_at l j j hj, if_pos rfl, ← e2]; exact e⟩
      · exact ⟨a, ha, by rw [sw_at l j a hj, if_neg e1, if_neg e2]; exact e⟩
theorem sink_mem : ∀ (j : Nat) (l : List Int), j < l.length → ∀ x, x ∈ sink l j ↔ x ∈ l
  | 0, _, _, _ => Iff.rfl
  | j + 1, l, h, x => by
    rw [sink]
    split
    · rw [sink_mem j (sw l j) (by rw [sw_len]; omega) x, sw_mem l j h]
    · exact Iff.rfl
/-- All but one place in order, and that one ahead of what is behind it. -/
theorem sink_ord : ∀ (j m : Nat) (l : List Int), j < m → m ≤ l.length → (∀ a b, a < b → b < m → ¬ a = j → ¬ b = j → l.getD a 0 ≤ l.getD b 0) → (∀ b, j < b → b < m → l.getD j 0 ≤ l.getD b 0) → ∀ a b, a < b → b < m → (sink l j).getD a 0 ≤ (sink l j).getD b 0
  | 0, m, l, _, _, h1, h2, a, b, hab, hb => by
    show l.getD a 0 ≤ l.getD b 0
    by_cases e : a = 0
    · rw [e]; exact h2 b (by omega) hb
    · exact h1 a b hab hb e (by omega)
  | j + 1, m, l, hj, hm, h1, h2, a, b, hab, hb => by
    rw [sink]
    have hjl : j + 1 < l.length := by omega
    split
    · rename_i hlt
      refine sink_ord j m (sw l j) (by omega) (by rw [sw_len]; exact hm) (fun a b hab hb ha1 hb1 => ?_) (fun b hjb hb => ?_) a b hab hb
      · rw [sw_at l j a hjl, sw_at l j b hjl, if_neg ha1, if_neg hb1]
        by_cases e1 : a = j + 1
        · rw [if_pos e1, if_neg (by omega)]
          exact h1 j b (by omega) hb (by omega) (by omega)
        · rw [if_neg e1]
          by_cases e2 : b = j + 1
          · rw [if_pos e2]; exact h1 a j (by omega) (by omega) (by omega) (by omega)
          · rw [if_neg e2]; exact h1 a b hab hb e1 e2
      · rw [sw_at l j j hjl, sw_at l j b hjl, if_pos rfl, if_neg (by omega)]
        by_cases e2 : b = j + 1
        · rw [if_pos e2]; omega
        · rw [if_neg e2]; exact h2 b (by omega) hb
    · rename_i hlt
      by_cases e1 : a = j + 1
      · rw [e1]; exact h2 b (by omega) hb
      · by_cases e2 : b = j + 1
        · rw [e2]
          by_cases e3 : a = j
          · rw [e3]; omega
          · have := h1 a j (by omega) (by omega) e1 (by omega)
            omega
        · exact h1 a b hab hb e1 e2
theorem sink_far : ∀ (j : Nat) (l : List Int) (b : Nat), j < b → j < l.length → (sink l j).getD b 0 = l.getD b 0
  | 0, _, _, _, _ => rfl
  | j + 1, l, b, h, hl => by
    rw [sink]
    split
    · rw [sink_far j (sw l j) b (by omega) (by rw [sw_len]; omega), sw_at l j b hl, if_neg (by omega), if_neg (by omega)]
    · rfl
theorem srtUp_ord (l : List Int) : ∀ i, i ≤ l.length → ∀ a b, a < b → b < i → (srtUp l i).getD a 0 ≤ (srtUp l i).getD b 0
  | 0, _, a, b, _, hb => absurd hb (by omega)
  | i + 1, hi, a, b, hab, hb => by
    have ih := srtUp_ord l i (by omega)
    rw [srtUp]
    refine sink_ord i (i + 1) (srtUp l i) (by omega) (by rw [srtUp_len]; exact hi) (fun a b hab hb ha1 hb1 => ih a b hab (by omega)) (fun b h1 h2 => absurd h1 (by omega)) a b hab hb
theorem srtUp_mem (l : List Int) : ∀ i, i ≤ l.length → ∀ x, x ∈ srtUp l i ↔ x ∈ l
  | 0, _, _ => Iff.rfl
  | i + 1, hi, x => by rw [srtUp, sink_mem i _ (by rw [srtUp_len]; omega), srtUp_mem l i (by omega)]

/-! ### The library's -/
def encY (x : Int) : Value := .int .u8 x
def RowY (B : Nat) (w : World) (v : Value) (n : Nat) (zs : List Int) : Prop := w.ownsRow B 5 1 v n (zs.map encY)
theorem RowY.ext {B : Nat} {w w' : World} {v : Value} {n : Nat} {zs : List Int} (h : RowY B w v n zs) (hx : Ext w w') : RowY B w' v n zs := row_ext h hx
theorem RowY.at {B : Nat} {w : World} {g n cap : Nat} {zs : List Int} (h : RowY B w (.slice (some ⟨g, 0, none⟩) n cap) n zs) (hl : zs.length = n) (j : Nat) (hj : j < n) : w.cell? ⟨g, j, none⟩ = some (.int .u8 (zs.getD j 0)) := by
  rw [World.ownsRow.cellAt h j (by omega), List.getElem?_map, List.getElem?_eq_getElem (by omega), getI (by omega)]
  rfl
theorem isNaN_any (x : Int) (w : World) : Calls Tryd.prog 106 #[.int .u8 x] w fun e w' => e = .returned (.bool false) ∧ w = w' := by
  go_enter Tryd.func106, Tryd.ntmps106
  go_wp2
  go_ret
  exact ⟨by simp, rfl⟩
theorem less_any (x y : Int) (w : World) : Calls Tryd.prog 82 #[.int .u8 x, .int .u8 y] w fun e w' => e = .returned (.bool (decide (x < y))) ∧ w = w' := by
  go_enter Tryd.func82, Tryd.ntmps82
  go_wp2_with (go_at_call 106; refine (isNaN_any _ _).mono ?_; rintro e w' ⟨rfl, rfl⟩)
  go_ret
  exact ⟨rfl, rfl⟩
theorem sink_yes {l : List Int} {j : Nat} (h : l.getD (j + 1) 0 < l.getD j 0) : sink l (j + 1) = sink (sw l j) j := by rw [sink, if_pos h]
theorem sink_no {l : List Int} {j : Nat} (h : ¬ l.getD (j + 1) 0 < l.getD j 0) : sink l (j + 1) = l := by rw [sink, if_neg h]

theorem swap_row {B : Nat} {u wr wz : World} {g n cap j : Nat} {x y : Int} {l l' : List Int} (h : RowY B wr (.slice (some ⟨g, 0, none⟩) n cap) n l) (hz : Ext wr wz) (hx : Ext u wr) (hug : u.heap.size ≤ g) (hl : l' = (l.set (j + 1) y).set j x) :
    RowY B ((wz.setCell ⟨g, j + 1, none⟩ (.int .u8 y)).setCell ⟨g, j, none⟩ (.int .u8 x)) (.slice (some ⟨g, 0, none⟩) n cap) n l' ∧ Ext u ((wz.setCell ⟨g, j + 1, none⟩ (.int .u8 y)).setCell ⟨g, j, none⟩ (.int .u8 x)) := by
  have h1 := (World.ownsRow.stored (row_ext h hz) (j + 1) (.int .u8 y)).1
  have h2 := (World.ownsRow.stored h1 j (.int .u8 x)).1
  refine ⟨?_, ((hx.trans hz).setCell (p := ⟨g, j + 1, none⟩) hug _).setCell (p := ⟨g, j, none⟩) hug _⟩
  unfold RowY
  rw [hl, List.map_set, List.map_set]
  exact h2

/-- The bytes in order in their own block, all else as it was against an elder world. -/
def Srt (B : Nat) (u : World) (v : Value) (n : Nat) (zs : List Int) (e : Ending) (w' : World) : Prop := e = .returned (.tuple #[]) ∧ RowY B w' v n (srtUp zs n) ∧ Ext u w'

set_option maxHeartbeats 4000000 in
theorem insert_any (B : Nat) (u : World) (a : Option Addr) (n cap : Nat) (zs : List Int) (w : World) (hl : zs.length = n) (hn : n ≤ 12) (h : RowY B w (.slice a n cap) n zs) (hu : Ext u w) (hB : u.heap.size ≤ B) : Calls Tryd.prog 76 #[.slice a n cap, .int .i64 0, .int .i64 n] w (Srt B u (.slice a n cap) n zs) := by
  have HL := Lib.hid (srtUp_len zs)
  have HZ := Lib.hid hl
  have HR := Lib.hid h
  clear h hl
  go_enter Tryd.func76, Tryd.ntmps76
  go_wp2
  go_loopw [6] (fun i wr => ∃ k : Nat, 1 ≤ k ∧ (k ≤ n ∨ n = 0 ∧ k = 1) ∧ i = .int .i64 k ∧ RowY B wr (.slice a n cap) n (srtUp zs k) ∧ Ext u wr) (fun i _ => n - (intOf i).toNat)
  case atStart => exact ⟨1, Nat.le_refl _, by omega, rfl, HR.out, hu⟩
  case round =>
    obtain ⟨k, hk1, hk, rfl, hR, hx⟩ := hrel
    have HR2 := Lib.hid hR
    clear hR
    by_cases hlt : k < n
    · have hlti : (k : Int) < (n : Int) := by omega
      rcases HR2.out.2 with ⟨_, hn0⟩ | ⟨g, _, _, e, hb, _, _⟩
      · omega
      have ha : a = some ⟨g, 0, none⟩ := by injection e
      subst ha
      have hug : u.heap.size ≤ g := Nat.le_trans hB hb
      clear e hb
      go_wp2
      go_loopw [7] (fun q wx => ∃ (j : Nat) (l : List Int), j ≤ k ∧ q = .int .i64 j ∧ l.length = n ∧ sink l j = srtUp zs (k + 1) ∧ RowY B wx (.slice (some ⟨g, 0, none⟩) n cap) n l ∧ Ext u wx) (fun q _ => (intOf q).toNat)
      case atStart => exact ⟨k, srtUp zs k, Nat.le_refl _, rfl, by rw [HL.out, HZ.out], rfl, HR2.out, hx⟩
      case round =>
        obtain ⟨j, l, hj, rfl, hll, hsk, hR3, hx3⟩ := hrel
        have HR3 := Lib.hid hR3
        have HSK := Lib.hid hsk
        have HLL := Lib.hid hll
        clear hR3 hsk hll
        by_cases h0 : j = 0
        · subst h0
          have HE := Lib.hid (show l = srtUp zs (k + 1) from HSK.out)
          go_wp2
          go_quiet (fail)
          go_wp2
          exact ⟨⟨k + 1, by omega, by omega, by go_num, by rw [← HE.out]; exact HR3.out.ext (ext_drewN (Ext.refl _) _), ext_drewN hx3 _⟩, by simp [intOf]; omega⟩
        · obtain ⟨j, rfl⟩ : ∃ j', j = j' + 1 := ⟨j - 1, by omega⟩
          have hj1 : j + 1 < n := by omega
          obtain ⟨x, hxx⟩ : ∃ x, x = l.getD (j + 1) 0 := ⟨_, rfl⟩
          obtain ⟨y, hyy⟩ : ∃ y, y = l.getD j 0 := ⟨_, rfl⟩
          have c1 := HR3.out.at HLL.out (j + 1) hj1
          have c2 := HR3.out.at HLL.out j (by omega)
          rw [← hxx] at c1
          rw [← hyy] at c2
          have f1 := World.ownsRow.frozenAt HR3.out (j + 1)
          have f2 := World.ownsRow.frozenAt HR3.out j
          have W1 : IntKind.i64.wrap (((j + 1 : Nat) : Int) - 1) = ((j : Nat) : Int) := by simp only [IntKind.wrap_i64]; omega
          have b1 : ((j + 1 : Nat) : Int) < (n : Int) := by omega
          have b2 : ((j : Nat) : Int) < (n : Int) := by omega
          have b3 : (0 : Int) < ((j + 1 : Nat) : Int) := by omega
          have hjn : j < n := by omega
          by_cases hc : x < y
          · have HN := Lib.hid (show sink (sw l j) j = srtUp zs (k + 1) by rw [← HSK.out, sink_yes (by rw [← hxx, ← hyy]; exact hc)])
            have HSW := Lib.hid (show sw l j = (l.set (j + 1) y).set j x by unfold sw; rw [← hxx, ← hyy])
            have HST := Lib.hid (fun (wz : World) (hz : Ext wr wz) => (swap_row (j := j) (x := x) (y := y) HR3.out hz hx3 hug HSW.out : RowY B ((wz.setCell ⟨g, j + 1, none⟩ (.int .u8 y)).setCell ⟨g, j, none⟩ (.int .u8 x)) (.slice (some ⟨g, 0, none⟩) n cap) n (sw l j) ∧ Ext u ((wz.setCell ⟨g, j + 1, none⟩ (.int .u8 y)).setCell ⟨g, j, none⟩ (.int .u8 x))))
            have hcd : decide (x < y) = true := decide_eq_true hc
            clear hc hxx hyy
            go_wp2
            go_quiet (first | (exact Calls.quiet_of_same ((less_any _ _ _).mono fun e w' h => ⟨h.1, h.2.symm⟩)))
            go_wp2
            go_region
            go_wp2
            go_roundw
            case rel => exact ⟨j, sw l j, by omega, by go_num, by rw [sw_len, HLL.out], HN.out, (HST.out _ (ext_drewN (Ext.refl _) _)).1, (HST.out _ (ext_drewN (Ext.refl _) _)).2⟩
            case measure => simp [intOf]
          · have HE := Lib.hid (show l = srtUp zs (k + 1) by rw [← HSK.out, sink_no (by rw [← hxx, ← hyy]; exact hc)])
            have hcd : decide (x < y) = false := decide_eq_false hc
            clear hc hxx hyy
            go_wp2
            go_quiet (first | (exact Calls.quiet_of_same ((less_any _ _ _).mono fun e w' h => ⟨h.1, h.2.symm⟩)))
            go_wp2
            exact ⟨⟨k + 1, by omega, by omega, by go_num, by rw [← HE.out]; exact HR3.out.ext (ext_drewN (Ext.refl _) _), ext_drewN hx3 _⟩, by simp [intOf]; omega⟩
    · have hkn : ¬ (k : Int) < (n : Int) := by omega
      have HE := Lib.hid (show srtUp zs k = srtUp zs n by
        rcases hk with h1 | ⟨h1, h2⟩
        · rw [show k = n by omega]
        · subst h1; subst h2; rfl)
      go_wp2
      go_end0
      exact ⟨rfl, by rw [← HE.out]; exact HR2.out, hx⟩

end Go.Proofs.YtioinihlahnbfaaDoor
