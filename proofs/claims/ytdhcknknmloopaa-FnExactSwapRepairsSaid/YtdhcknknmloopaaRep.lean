/- Numbers that come of a number when two neighbours are exchanged: plainly. No conditions. -/
import Derived.Test.YtdhcknknmloopaaCkP
import Derived.Test.YtdhcknknmloopaaNumT
import Derived.Test.YtdhcknknmloopaaSwaps
import Derived.Test.YtdhcknknmloopaaRgt
namespace Go.Proofs.Ytdhcknknmloopaa
open Go.RowKit

theorem nb_all : ∀ n : Nat, n < 256 → isSgN n = true → nb (if n = 88 then 10 else n - 48) = UInt8.ofNat n := of_decide_eq_true (by kernel_rfl)
theorem nb_sv {b : UInt8} (h : isSg b = true) : nb (svB b) = b := by
  have := nb_all b.toNat (UInt8.toNat_lt b) h
  unfold svB
  rw [this]
  simp
theorem nT_vls {s : ByteArray} (h : allSg s) : nT (vls s) = s := by
  unfold nT vls
  rw [List.map_map]
  have : s.data.toList.map (nb ∘ svB) = s.data.toList := by
    apply List.ext_getElem?
    intro i
    by_cases hi : i < s.data.toList.length
    · rw [List.getElem?_map, List.getElem?_eq_getElem hi]
      have h2 : i < s.size := by have := hi; simp at this; exact this
      have := nb_sv (h i h2)
      simp only [Option.map_some, Function.comp]
      exact congrArg some this
    · rw [List.getElem?_eq_none (by rw [List.length_map]; omega), List.getElem?_eq_none (by omega)]
  rw [this, tB_all]
theorem l_split {α : Type} {l : List α} {j : Nat} (h : j + 1 < l.length) : l = l.take j ++ l[j] :: l[j + 1] :: l.drop (j + 2) := by
  have h1 := List.drop_eq_getElem_cons (l := l) (i := j) (by omega)
  have h2 := List.drop_eq_getElem_cons (l := l) (i := j + 1) h
  rw [← h2, ← h1, List.take_append_drop]
theorem sg_l {s : ByteArray} {j : Nat} (h : j < s.data.toList.length) : sg s j = s.data.toList[j] := by
  have h2 : j < s.size := by have := h; simp at this; exact this
  rw [← sg_at s j h2]
  rfl
theorem swp_list {s : ByteArray} {j : Nat} (h : j + 1 < s.size) : (swp s j).data.toList = s.data.toList.take j ++ sg s (j + 1) :: sg s j :: s.data.toList.drop (j + 2) := by
  unfold swp
  rw [ext1B s (j + 1) (by omega), ext1B s j (by omega)]
  have e1 : (s.extract 0 j).data.toList = s.data.toList.take j := by rw [ByteArray.data_extract]; simp
  have e2 : (s.extract (j + 1 + 1) s.size).data.toList = s.data.toList.drop (j + 2) := by
    rw [ByteArray.data_extract, Array.toList_extract, List.extract_eq_take_drop]
    apply List.take_of_length_le
    rw [List.length_drop]
    show s.data.size - (j + 2) ≤ s.data.size - (j + 1 + 1)
    omega
  simp only [ByteArray.data_append, Array.toList_append, e1, e2]
  simp
theorem s_list {s : ByteArray} {j : Nat} (h : j + 1 < s.size) : s.data.toList = s.data.toList.take j ++ sg s j :: sg s (j + 1) :: s.data.toList.drop (j + 2) := by
  have hl : j + 1 < s.data.toList.length := by simpa using h
  have := l_split hl
  rw [sg_l (by omega), sg_l hl]
  exact this
theorem vls_swp {s : ByteArray} {j : Nat} (h : j + 1 < s.size) : vls (swp s j) = ((vls s).set j (svB (sg s (j + 1)))).set (j + 1) (svB (sg s j)) := by
  unfold vls
  rw [swp_list h]
  have hs := s_list h
  have hA : (s.data.toList.take j).length = j := by rw [List.length_take]; simp; omega
  generalize s.data.toList.take j = A at hA hs ⊢
  generalize s.data.toList.drop (j + 2) = C at hs ⊢
  rw [hs]
  generalize sg s j = x
  generalize sg s (j + 1) = y
  subst hA
  simp
theorem num_swp {m : Int} {zs : List Int} {s : ByteArray} {j : Nat} (h : isNum m zs s = true) (hj : j + 1 < zs.length) : isNum m zs (swp s j) = true := by
  obtain ⟨h1, h2, h3, h4⟩ := isNum_parts h
  have hs := s_list (s := s) (j := j) (by omega)
  have hw := swp_list (s := s) (j := j) (by omega)
  have hA : (s.data.toList.take j).length = j := by rw [List.length_take]; simp; omega
  generalize s.data.toList.take j = A at hA hs hw
  generalize s.data.toList.drop (j + 2) = C at hs hw
  generalize sg s j = x at hs hw
  generalize sg s (j + 1) = y at hs hw
  refine isNum_y h1 (by rw [swp_size (by omega)]; exact h2) ?_ ?_
  · unfold allDg at h3 ⊢
    rw [ByteArray.data_extract] at h3 ⊢
    rw [Array.toList_extract, List.extract_eq_take_drop, List.drop_zero, Nat.sub_zero] at h3 ⊢
    rw [hs] at h3
    rw [hw]
    rw [List.all_eq_true] at h3 ⊢
    obtain ⟨k, hk⟩ : ∃ k, zs.length = A.length + (k + 2) := ⟨zs.length - (j + 2), by omega⟩
    rw [hk, List.take_length_add_append] at h3 ⊢
    intro c hc
    apply h3
    simp at hc ⊢
    rcases hc with hc | hc | hc | hc
    · exact .inl hc
    · exact .inr (.inr (.inl hc))
    · exact .inr (.inl hc)
    · exact .inr (.inr (.inr hc))
  · rw [hs] at h4
    rw [hw]
    obtain ⟨k, hk⟩ : ∃ k, zs.length = A.length + (k + 2) := ⟨zs.length - (j + 2), by omega⟩
    rw [hk] at h4 ⊢
    rw [List.getD_eq_getElem?_getD, List.getElem?_append_right (by omega)] at h4 ⊢
    rw [show A.length + (k + 2) - A.length = k + 2 by omega] at h4 ⊢
    simpa using h4

def rb (m : Int) (zs : List Int) (t : ByteArray) : Bool := decide (sumN zs t % m = 0)
/-- The right ones of the first so many neighbours. -/
def rps (m : Int) (zs : List Int) (s : ByteArray) : Nat → List ByteArray
  | 0 => []
  | j + 1 => if sg s j = sg s (j + 1) then rps m zs s j else if rb m zs (swp s j) = true then rps m zs s j ++ [swp s j] else rps m zs s j
theorem rps_len (m : Int) (zs : List Int) (s : ByteArray) : ∀ j, (rps m zs s j).length ≤ j
  | 0 => Nat.le_refl _
  | j + 1 => by
    have := rps_len m zs s j
    rw [rps]
    split
    · omega
    · split
      · rw [List.length_append, List.length_singleton]; omega
      · omega
theorem rps_eq {m : Int} {zs : List Int} {s : ByteArray} {j : Nat} (h : sg s j = sg s (j + 1)) : rps m zs s (j + 1) = rps m zs s j := by rw [rps, if_pos h]
theorem rps_no {m : Int} {zs : List Int} {s : ByteArray} {j : Nat} (h : ¬ sg s j = sg s (j + 1)) (h2 : rb m zs (swp s j) = false) : rps m zs s (j + 1) = rps m zs s j := by rw [rps, if_neg h, if_neg (by rw [h2]; decide)]
theorem rps_yes {m : Int} {zs : List Int} {s : ByteArray} {j : Nat} (h : ¬ sg s j = sg s (j + 1)) (h2 : rb m zs (swp s j) = true) : rps m zs s (j + 1) = rps m zs s j ++ [swp s j] := by rw [rps, if_neg h, if_pos h2]
theorem rps_size {m : Int} {zs : List Int} {s : ByteArray} : ∀ j, j < s.size → ∀ t ∈ rps m zs s j, t.size = s.size
  | 0, _, t, h => by cases h
  | j + 1, hj, t, h => by
    rw [rps] at h
    split at h
    · exact rps_size j (by omega) t h
    · split at h
      · rcases List.mem_append.1 h with h | h
        · exact rps_size j (by omega) t h
        · rw [List.mem_singleton] at h
          rw [h, swp_size hj]
      · exact rps_size j (by omega) t h
def srV (m : Int) (zs : List Int) (s : ByteArray) : List ByteArray := if isNum m zs s = true then putAll (rps m zs s (zs.length - 1)) else []
theorem srV_no {m : Int} {zs : List Int} {s : ByteArray} (h : isNum m zs s = false) : srV m zs s = [] := by unfold srV; rw [h]; rfl
theorem srV_yes {m : Int} {zs : List Int} {s : ByteArray} (h : isNum m zs s = true) : srV m zs s = putAll (rps m zs s (zs.length - 1)) := by unfold srV; rw [if_pos h]
end Go.Proofs.Ytdhcknknmloopaa
