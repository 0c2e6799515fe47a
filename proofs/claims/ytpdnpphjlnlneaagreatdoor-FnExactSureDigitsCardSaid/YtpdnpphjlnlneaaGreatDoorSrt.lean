/- Lists of numbers sorted by the library. No conditions. -/
import Derived.Test.YtpdnpphjlnlneaaGreatDoorInts
import Derived.Test.YtpdnpphjlnlneaaGreatDoorShelf
import Derived.Test.YtpdnpphjlnlneaaGreatDoorSeq
namespace Go.Proofs.YtpdnpphjlnlneaaGreatDoor
open Go.RowKit Go.Shelf Go.Lib Go.Sort

/-! ### Sorted -/
def srtI (l : List Int) : List Int := l.mergeSort fun x y => decide (x ≤ y)
theorem srtI_len (l : List Int) : (srtI l).length = l.length := List.length_mergeSort _
theorem srtI_perm (l : List Int) : (srtI l).Perm l := List.mergeSort_perm l _
theorem srtI_le (l : List Int) : (srtI l).Pairwise fun x y => x ≤ y := by
  have h := List.pairwise_mergeSort (le := fun x y : Int => decide (x ≤ y)) (fun a b c h1 h2 => by
    rw [decide_eq_true_eq] at h1 h2 ⊢; omega) (fun a b => by
    rw [Bool.or_eq_true, decide_eq_true_eq, decide_eq_true_eq]; omega) l
  exact h.imp fun h => of_decide_eq_true h

theorem sortI_any (B g n cap : Nat) (l : List Int) (w : World) (hl : l.length = n) (hn : n ≤ 1048576) (h : RowI B w (.slice (some ⟨g, 0, none⟩) n cap) l) :
    Calls Tryz.prog 107 #[.slice (some ⟨g, 0, none⟩) n cap] w fun e w' => e = .returned (.tuple #[]) ∧ RowI B w' (.slice (some ⟨g, 0, none⟩) n cap) (srtI l) ∧ w.grownBy w' (some g) := by
  subst hl
  rcases h.2 with ⟨h0, _⟩ | ⟨g', cap', cur, hv, hB, hb, h1, h2, h3, h4⟩
  · cases h0
  injection hv with e1 e2 e3
  injection e1 with e1
  injection e1 with e1
  subst e1; subst e3
  rw [Nat.mul_one] at h4
  have hH : Holds (Value.int .i64) w g 0 l.toArray := by
    intro j hj
    have hj' : j < l.length := by simpa using hj
    refine ⟨?_, by simp [World.frozen?, hb]⟩
    have h5 : (cur.toList.take l.length)[j]? = (l.map (Value.int .i64))[j]? := by rw [h4]
    rw [List.getElem?_take_of_lt hj', List.getElem?_map, List.getElem?_eq_getElem hj', Array.getElem?_toList] at h5
    simp only [World.cell?, hb, Nat.zero_add, h5]
    simp [hj']
  refine (Go.Proofs.Tryz.slices_Sort_int g 0 cap l w hH (heapLt hb) (by omega)).mono ?_
  rintro e w' ⟨rfl, n', os, rfl⟩
  have hk : (srtI l).length = l.length := srtI_len l
  show _ ∧ RowI B (grow (putRow (Value.int .i64) (Sort.ahead w n') g 0 (srtI l).toArray) os) _ _ ∧ _
  obtain ⟨z, hz⟩ : ∃ z, z = srtI l := ⟨_, rfl⟩
  rw [← hz] at hk ⊢
  have hg : g < w.heap.size := heapLt hb
  have hh : (grow (putRow (Value.int .i64) (Sort.ahead w n') g 0 z.toArray) os).heap[g]? = some (.cells (putCells (Value.int .i64) 0 z.toArray cur) 3 (0, 0)) := by
    rw [heap_grow_old _ _ (by simpa using hg)]
    simp [putRow, mapBlock, Sort.ahead, Array.getElem?_modify, hb, onCells]
  refine ⟨rfl, ⟨by rw [List.length_map, Nat.mul_one], .inr ⟨g, cap, _, by rw [hk], hB, hh, by rw [hk]; exact h1, h2, by simp [putCells, h3], ?_⟩⟩, ⟨rfl, rfl, rfl, by simp, fun k hk2 hne => ?_⟩⟩
  · rw [Nat.mul_one]
    apply List.ext_getElem?
    intro j
    by_cases hj : j < z.length
    · rw [List.getElem?_take_of_lt hj, Array.getElem?_toList]
      simp [putCells, hj, show j < cur.size by omega]
    · rw [List.getElem?_take_eq_none (by omega), List.getElem?_eq_none (by simp; omega)]
  · rw [heap_grow_old _ _ (by simpa using hk2)]
    have : g ≠ k := fun e => hne (by rw [e])
    simp [putRow, mapBlock, Sort.ahead, Array.getElem?_modify, this]

end Go.Proofs.YtpdnpphjlnlneaaGreatDoor
