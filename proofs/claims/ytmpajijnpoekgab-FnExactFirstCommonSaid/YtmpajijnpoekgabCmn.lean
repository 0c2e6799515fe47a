/- The first longest common text of what is left of two texts: the program's side. No conditions. -/
import Derived.Test.YtmpajijnpoekgabCom
import Derived.Deep.RegionWith
import Derived.Deep.RegionHeld3
namespace Go.Proofs.Ytmpajijnpoekgab
open Go.RowKit

def cm (a b : ByteArray) (i j : Nat) : List UInt8 := com (a.data.toList.drop i) (b.data.toList.drop j)
def bT (l : List UInt8) : ByteArray := ⟨l.toArray⟩
theorem bT_size (l : List UInt8) : (bT l).size = l.length := by show l.toArray.size = _; simp
theorem cm_endA (a b : ByteArray) (i j : Nat) (h : a.size ≤ i) : cm a b i j = [] := by
  unfold cm
  rw [List.drop_of_length_le (by simpa using h), com_nil]
theorem cm_endB (a b : ByteArray) (i j : Nat) (h : b.size ≤ j) : cm a b i j = [] := by
  unfold cm
  rw [List.drop_of_length_le (l := b.data.toList) (by simpa using h), com_nil2]
theorem cm_same {a b : ByteArray} {i j : Nat} (h : i < a.size) (k : j < b.size) (e : sg a i = sg b j) : cm a b i j = sg a i :: cm a b (i + 1) (j + 1) := by
  unfold cm
  rw [dropAt a i h, dropAt b j k, e, com_same]
theorem cm_other {a b : ByteArray} {i j : Nat} (h : i < a.size) (k : j < b.size) (e : sg a i ≠ sg b j) : cm a b i j = bet (cm a b (i + 1) j) (cm a b i (j + 1)) := by
  unfold cm
  rw [dropAt a i h, dropAt b j k, com_other e]
theorem cm_len (a b : ByteArray) (i j : Nat) : (cm a b i j).length ≤ a.size := by
  unfold cm
  have h := (com_fst' (a.data.toList.drop i) (b.data.toList.drop j)).1.length_le
  rw [List.length_drop] at h
  have : a.data.toList.length = a.size := by simp
  omega
theorem bet_lenle {u v : List UInt8} {n : Nat} (h : u.length ≤ n) (h2 : v.length ≤ n) : (bet u v).length ≤ n := by rcases bet_or u v with e | e <;> rw [e] <;> assumption

theorem bT_list (l : List UInt8) : (bT l).toList = l := by rw [Lib.toList_data]; exact List.toList_toArray
theorem bet_u {u v : List UInt8} (h : v.length < u.length ∨ (u.length = v.length ∧ Op.bytesLess u v = true)) : bet u v = u := if_pos h
theorem bet_v {u v : List UInt8} (h : ¬ (v.length < u.length ∨ (u.length = v.length ∧ Op.bytesLess u v = true))) : bet u v = v := if_neg h
theorem ret_sT {a b : ByteArray} (h : a = b) : Ending.returned (.string a) = .returned (.string b) := by rw [h]
theorem firstLonger_any (u v : List UInt8) (w : World) (_hu : u.length ≤ 20) (_hv : v.length ≤ 20) : Calls Try.prog 78 #[.string (bT u), .string (bT v)] w fun e w' => e = .returned (.string (bT (bet u v))) ∧ w = w' := by
  have s1 := bT_size u
  have s2 := bT_size v
  have hbb : Op.bytesLess (bT u).toList (bT v).toList = Op.bytesLess u v := by rw [bT_list, bT_list]
  by_cases h : v.length < u.length
  · have HR := Lib.hid (show bT u = bT (bet u v) by rw [bet_u (.inl h)])
    go_enter Try.func78, Try.ntmps78
    go_wp2
    all_goals first | (exfalso; omega) | (go_ret; exact ⟨ret_sT HR.out, rfl⟩)
  · by_cases he : u.length = v.length
    · cases hl : Op.bytesLess u v
      · have HR := Lib.hid (show bT v = bT (bet u v) by rw [bet_v (by rw [hl]; simp; omega)])
        rw [hl] at hbb
        go_enter Try.func78, Try.ntmps78
        go_wp2
        all_goals first | (exfalso; omega) | (go_ret; exact ⟨ret_sT HR.out, rfl⟩)
      · have HR := Lib.hid (show bT u = bT (bet u v) by rw [bet_u (.inr ⟨he, hl⟩)])
        rw [hl] at hbb
        go_enter Try.func78, Try.ntmps78
        go_wp2
        all_goals first | (exfalso; omega) | (go_ret; exact ⟨ret_sT HR.out, rfl⟩)
    · have HR := Lib.hid (show bT v = bT (bet u v) by rw [bet_v (by omega)])
      go_enter Try.func78, Try.ntmps78
      go_wp2
      all_goals first | (exfalso; omega) | (go_ret; exact ⟨ret_sT HR.out, rfl⟩)

/-- Twenty-one texts in a block. -/
def rowS (t : Nat → ByteArray) : List Value := (List.range 21).map fun j => .string (t j)
theorem rowS_at (t : Nat → ByteArray) (j : Nat) (h : j < 21) : (rowS t)[j]? = some (.string (t j)) := by
  unfold rowS
  rw [List.getElem?_map, List.getElem?_range h]
  rfl
theorem rowS_len (t : Nat → ByteArray) : (rowS t).length = 21 := by simp [rowS]
theorem rowS_set (t : Nat → ByteArray) (i : Nat) (x : ByteArray) : (rowS t).set i (.string x) = rowS (fun j => if j = i then x else t j) := by
  apply List.ext_getElem?
  intro j
  by_cases hj : j < 21
  · rw [List.getElem?_set, rowS_at _ j hj, rowS_at _ j hj]
    by_cases e : i = j
    · subst e; simp [rowS_len, hj]
    · rw [if_neg e, if_neg (fun h => e h.symm)]
  · rw [List.getElem?_eq_none (by rw [List.length_set, rowS_len]; omega), List.getElem?_eq_none (by rw [rowS_len]; omega)]
def TabS (w : World) (C : Nat) (t : Nat → ByteArray) : Prop := w.heap[C]? = some (.cells (rowS t).toArray 82)
theorem TabS.lt {w : World} {C : Nat} {t : Nat → ByteArray} (h : TabS w C t) : C < w.heap.size := (Array.getElem?_eq_some_iff.1 h).1
theorem TabS.ext {w w' : World} {C : Nat} {t : Nat → ByteArray} (h : TabS w C t) (hx : Ext w w') : TabS w' C t := (hx.block C h.lt).trans h
theorem TabS.at {w : World} {C : Nat} {t : Nat → ByteArray} (h : TabS w C t) (r : Nat) (hr : r < 21) : w.cell? ⟨C, r, none⟩ = some (.string (t r)) := by
  rw [cell_of_row w C _ _ _ _ h, List.getElem?_toArray, rowS_at t r hr]
theorem TabS.fr {w : World} {C : Nat} {t : Nat → ByteArray} (h : TabS w C t) (j : Nat) : w.frozen? ⟨C, j, none⟩ = false := frozen_of_row w C j _ _ h
theorem TabS.set {w : World} {C : Nat} {t : Nat → ByteArray} (h : TabS w C t) (r : Nat) (x : ByteArray) : TabS (w.setCell ⟨C, r, none⟩ (.string x)) C (fun a => if a = r then x else t a) := by
  have h1 := heap_setCell_same w C r _ _ (.string x) h
  unfold TabS
  rw [h1]
  congr 2
  rw [← rowS_set t r x]
  apply Array.toList_inj.1
  simp
theorem TabS.congr {w : World} {C : Nat} {t t' : Nat → ByteArray} (h : TabS w C t) (he : ∀ r, r < 21 → t r = t' r) : TabS w C t' := by
  have : rowS t = rowS t' := by
    unfold rowS
    exact List.map_congr_left fun j hj => by rw [he j (List.mem_range.1 hj)]
  unfold TabS
  rw [← this]
  exact h
end Go.Proofs.Ytmpajijnpoekgab
