/- How many splits keys have, from each place on: the program's table. No conditions but the table's content. -/
import Derived.Test.YtioinihlahnbfaaDoorKept
import Derived.Deep.RegionHeld3
import Derived.Deep.RegionWith
import Derived.Deep.Cut
namespace Go.Proofs.YtioinihlahnbfaaDoor
open Go.RowKit

/-! ### Tables -/
def tabL (t : Nat → Int) : List Value := (List.range 21).map fun j => .int .i64 (t j)
theorem tabL_len (t : Nat → Int) : (tabL t).length = 21 := by simp [tabL]
theorem tabL_at (t : Nat → Int) (j : Nat) (h : j < 21) : (tabL t)[j]? = some (.int .i64 (t j)) := by
  unfold tabL
  rw [List.getElem?_map, List.getElem?_range h]
  rfl
theorem tabL_set (t : Nat → Int) (i : Nat) (x : Int) : (tabL t).set i (.int .i64 x) = tabL (fun j => if j = i then x else t j) := by
  apply List.ext_getElem?
  intro j
  by_cases hj : j < 21
  · by_cases e : j = i
    · subst e
      rw [List.getElem?_set_self (by rw [tabL_len]; exact hj), tabL_at _ _ hj]
      simp
    · rw [List.getElem?_set_ne (fun h => e h.symm), tabL_at _ _ hj, tabL_at _ _ hj, if_neg e]
  · rw [List.getElem?_eq_none (by rw [List.length_set, tabL_len]; omega), List.getElem?_eq_none (by rw [tabL_len]; omega)]
/-- A table of twenty-one numbers in a block. -/
def TabI (w : World) (C : Nat) (t : Nat → Int) : Prop := w.heap[C]? = some (.cells (tabL t).toArray 55)
theorem TabI.lt {w : World} {C : Nat} {t : Nat → Int} (h : TabI w C t) : C < w.heap.size := heap_lt h
theorem TabI.ext {w w' : World} {C : Nat} {t : Nat → Int} (h : TabI w C t) (hx : Ext w w') : TabI w' C t := (hx.block C h.lt).trans h
theorem TabI.at {w : World} {C : Nat} {t : Nat → Int} (h : TabI w C t) (j : Nat) (hj : j < 21) : w.cell? ⟨C, j, none⟩ = some (.int .i64 (t j)) := by
  rw [cell_of_row w C j _ _ _ h, List.getElem?_toArray, tabL_at t j hj]
theorem TabI.fr {w : World} {C : Nat} {t : Nat → Int} (h : TabI w C t) (j : Nat) : w.frozen? ⟨C, j, none⟩ = false := frozen_of_row w C j _ _ h
theorem TabI.set {w : World} {C : Nat} {t : Nat → Int} (h : TabI w C t) (i : Nat) (x : Int) : TabI (w.setCell ⟨C, i, none⟩ (.int .i64 x)) C (fun j => if j = i then x else t j) := by
  have h1 := heap_setCell_same w C i _ _ (.int .i64 x) h
  unfold TabI
  rw [h1]
  congr 2
  rw [← tabL_set]
  apply Array.toList_inj.1
  simp
theorem TabI.congr {w : World} {C : Nat} {t t' : Nat → Int} (h : TabI w C t) (he : ∀ j, j < 21 → t j = t' j) : TabI w C t' := by
  have : tabL t = tabL t' := by
    unfold tabL
    apply List.map_congr_left
    intro j hj
    rw [he j (List.mem_range.1 hj)]
  unfold TabI
  rw [← this]
  exact h

/-! ### The numbers -/
def w64 (x : Int) : Int := IntKind.i64.wrap x
theorem w64_add (a b : Int) : w64 (w64 a + w64 b) = w64 (a + b) := by
  unfold w64
  simp only [IntKind.wrap_i64]
  omega
/-- How many words have just the keys from i to j. -/
def mm (ss : List ByteArray) (q : ByteArray) (i j : Nat) : Int := ((fors ss (q.extract i j)).length : Int)
def psum (f : Nat → Int) : Nat → Int
  | 0 => 0
  | k + 1 => psum f k + f k
theorem psum_congr {f g : Nat → Int} : ∀ (k : Nat), (∀ l, l < k → f l = g l) → psum f k = psum g k
  | 0, _ => rfl
  | k + 1, h => by rw [psum, psum, psum_congr k (fun l hl => h l (by omega)), h k (by omega)]
/-- The counts of the last so many keys and fewer. -/
def tabs (ss : List ByteArray) (q : ByteArray) : Nat → List Int
  | 0 => [1]
  | r + 1 => w64 (psum (fun l => mm ss q (q.size - (r + 1)) (q.size - (r + 1) + l + 1) * (tabs ss q r).getD l 0) (r + 1)) :: tabs ss q r
theorem tabs_getD (ss : List ByteArray) (q : ByteArray) : ∀ (r l : Nat), l ≤ r → (tabs ss q r).getD l 0 = (tabs ss q (r - l)).getD 0 0
  | r, 0, _ => rfl
  | 0, l + 1, h => absurd h (by omega)
  | r + 1, l + 1, h => by
    have := tabs_getD ss q r l (by omega)
    rw [show r + 1 - (l + 1) = r - l by omega, ← this]
    rfl
/-- How many splits the keys from a place on have, as the machine counts. -/
def tq (ss : List ByteArray) (q : ByteArray) (j : Nat) : Int := (tabs ss q (q.size - j)).getD 0 0
theorem tq_end (ss : List ByteArray) (q : ByteArray) : tq ss q q.size = 1 := by unfold tq; rw [Nat.sub_self]; rfl
theorem tq_step (ss : List ByteArray) (q : ByteArray) (i : Nat) (h : i < q.size) : tq ss q i = w64 (psum (fun l => mm ss q i (i + l + 1) * tq ss q (i + l + 1)) (q.size - i)) := by
  obtain ⟨r, hr⟩ : ∃ r, q.size - i = r + 1 := ⟨q.size - i - 1, by omega⟩
  unfold tq
  rw [hr]
  show w64 _ = _
  congr 1
  have hi : q.size - (r + 1) = i := by omega
  rw [hi]
  refine psum_congr _ fun l hl => ?_
  rw [tabs_getD ss q r l (by omega), show r - l = q.size - (i + l + 1) by omega]

/-- The table when the keys from i on are counted. -/
def tFrom (ss : List ByteArray) (q : ByteArray) (i : Nat) (j : Nat) : Int := if i ≤ j ∧ j ≤ q.size then tq ss q j else 0

/-- The table while the keys from k on are counted, up to e. -/
def tMid (ss : List ByteArray) (q : ByteArray) (k e : Nat) (j : Nat) : Int := if j = k then w64 (psum (fun l => mm ss q k (k + l + 1) * tq ss q (k + l + 1)) (e - (k + 1))) else if k < j ∧ j ≤ q.size then tq ss q j else 0
theorem w64_zero : w64 0 = 0 := by decide
theorem tMid_start (ss : List ByteArray) (q : ByteArray) (k : Nat) (j : Nat) : tFrom ss q (k + 1) j = tMid ss q k (k + 1) j := by
  unfold tFrom tMid
  by_cases e : j = k
  · subst e
    rw [if_neg (by omega), if_pos rfl, Nat.sub_self]
    exact w64_zero.symm
  · rw [if_neg e]
    by_cases h : k + 1 ≤ j ∧ j ≤ q.size
    · rw [if_pos h, if_pos (by omega)]
    · rw [if_neg h, if_neg (by omega)]
theorem tMid_end (ss : List ByteArray) (q : ByteArray) (k : Nat) (hk : k < q.size) (j : Nat) : tMid ss q k (q.size + 1) j = tFrom ss q k j := by
  unfold tFrom tMid
  by_cases e : j = k
  · subst e
    rw [if_pos rfl, if_pos (by omega), tq_step ss q j hk, show q.size + 1 - (j + 1) = q.size - j by omega]
  · rw [if_neg e]
    by_cases h : k < j ∧ j ≤ q.size
    · rw [if_pos h, if_pos (by omega)]
    · rw [if_neg h, if_neg (by omega)]
theorem tMid_next (ss : List ByteArray) (q : ByteArray) (k e : Nat) (hke : k + 1 ≤ e) (j : Nat) : (if j = k then w64 (tMid ss q k e k + w64 (mm ss q k e * tq ss q e)) else tMid ss q k e j) = tMid ss q k (e + 1) j := by
  unfold tMid
  by_cases h : j = k
  · rw [if_pos h, if_pos h, if_pos rfl, w64_add]
    rw [show e + 1 - (k + 1) = e - (k + 1) + 1 by omega, psum, show k + (e - (k + 1)) + 1 = e by omega]
  · rw [if_neg h, if_neg h, if_neg h]
theorem tMid_past (ss : List ByteArray) (q : ByteArray) (k e : Nat) (h1 : k < e) (h2 : e ≤ q.size) : tMid ss q k e e = tq ss q e := by
  unfold tMid
  rw [if_neg (by omega), if_pos ⟨h1, h2⟩]
theorem okQ_part {q : ByteArray} (h : okQ q) (i j : Nat) (hij : i ≤ j) (hj : j ≤ q.size) : okQ (q.extract i j) := by
  have hl : (q.extract i j).size = j - i := by rw [ByteArray.size_extract]; omega
  refine ⟨by rw [hl]; have := h.1; omega, fun l hl2 h0 => ?_⟩
  rw [hl] at hl2
  refine h.2 (i + l) (by omega) ?_
  have e1 : (q.extract i j).data.toList.getD l 0 = q.data.toList.getD (i + l) 0 := by
    rw [ByteArray.data_extract, Array.toList_extract, List.getD_eq_getElem?_getD, List.getD_eq_getElem?_getD, List.extract_eq_take_drop, List.getElem?_take, if_pos hl2, List.getElem?_drop]
  rw [← e1]
  exact h0
theorem tab_store (wr : World) (R : Nat) (t0 t : Nat → Int) (h : TabI wr R t0) {w : World} (hx : Ext w wr) (hR : w.heap.size ≤ R) : ∃ W4, (storeCells ⟨R, 0, none⟩ (tabL t)).run Tryd.prog wr = .ok () W4 ∧ W4.heap[R]? = some (.cells (tabL t).toArray 55) ∧ Ext w W4 := by
  have hone : ∀ v ∈ tabL t, v.oneCell' = true := by
    intro v hv
    obtain ⟨i, _, rfl⟩ := List.mem_map.1 hv
    rfl
  have hst := run_storeCells_at Tryd.prog R 0 55 (tabL t) 0 (tabL t0).toArray wr h (by rw [List.size_toArray, tabL_len, tabL_len]; decide) hone
  rw [tabL_len, Nat.add_zero, show ((tabL t0).toArray.toList.take 0 ++ tabL t ++ (tabL t0).toArray.toList.drop (0 + 21)).toArray = (tabL t).toArray by
    rw [List.take_zero, List.nil_append, List.drop_of_length_le (by rw [List.toList_toArray, tabL_len]; decide), List.append_nil]] at hst
  exact ⟨_, hst, setRow_heap _ _ _ _ _ _ h, ext_setRow hx _ _ hR⟩
def zero21 : Array Value := #[.int .i64 0, .int .i64 0, .int .i64 0, .int .i64 0, .int .i64 0, .int .i64 0, .int .i64 0, .int .i64 0, .int .i64 0, .int .i64 0, .int .i64 0, .int .i64 0, .int .i64 0, .int .i64 0, .int .i64 0, .int .i64 0, .int .i64 0, .int .i64 0, .int .i64 0, .int .i64 0, .int .i64 0]
theorem zero21_eq : zero21 = (tabL fun _ => 0).toArray := rfl

end Go.Proofs.YtioinihlahnbfaaDoor
