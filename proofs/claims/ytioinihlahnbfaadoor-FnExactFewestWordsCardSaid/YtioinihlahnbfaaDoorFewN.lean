/- The fewest words of a split, from each place on: by places, as the program takes the least, and by words, as the model does. No program in particular. -/
import Derived.Test.YtioinihlahnbfaaDoorReach
namespace Go.Proofs.YtioinihlahnbfaaDoor
open Go.RowKit

def pmin (f : Nat → Nat) : Nat → Nat
  | 0 => 21
  | k + 1 => min (pmin f k) (f k)
theorem pmin_congr {f g : Nat → Nat} : ∀ (k : Nat), (∀ l, l < k → f l = g l) → pmin f k = pmin g k
  | 0, _ => rfl
  | k + 1, h => by rw [pmin, pmin, pmin_congr k (fun l hl => h l (by omega)), h k (by omega)]
theorem le_pmin (f : Nat → Nat) (x : Nat) : ∀ k, x ≤ pmin f k ↔ x ≤ 21 ∧ ∀ l, l < k → x ≤ f l
  | 0 => ⟨fun h => ⟨h, fun l hl => absurd hl (by omega)⟩, fun h => h.1⟩
  | k + 1 => by
    rw [pmin, Nat.le_min, le_pmin f x k]
    constructor
    · rintro ⟨⟨h1, h2⟩, h3⟩
      refine ⟨h1, fun l hl => ?_⟩
      by_cases e : l = k
      · subst e; exact h3
      · exact h2 l (by omega)
    · rintro ⟨h1, h2⟩
      exact ⟨⟨h1, fun l hl => h2 l (by omega)⟩, h2 k (by omega)⟩
/-- What one part adds: the words behind it and one more, or too many where no word has just its keys. -/
def fstep (ss : List ByteArray) (q : ByteArray) (i j t : Nat) : Nat := if 0 < (fors ss (q.extract i j)).length then t + 1 else 21
def fews (ss : List ByteArray) (q : ByteArray) : Nat → List Nat
  | 0 => [0]
  | r + 1 => pmin (fun l => fstep ss q (q.size - (r + 1)) (q.size - (r + 1) + l + 1) ((fews ss q r).getD l 0)) (r + 1) :: fews ss q r
theorem fews_getD (ss : List ByteArray) (q : ByteArray) : ∀ (r l : Nat), l ≤ r → (fews ss q r).getD l 0 = (fews ss q (r - l)).getD 0 0
  | r, 0, _ => rfl
  | 0, l + 1, h => absurd h (by omega)
  | r + 1, l + 1, h => by
    have := fews_getD ss q r l (by omega)
    rw [show r + 1 - (l + 1) = r - l by omega, ← this]
    rfl
/-- The fewest words of a split of the keys from a place on, 21 where there is none. -/
def fq (ss : List ByteArray) (q : ByteArray) (j : Nat) : Nat := (fews ss q (q.size - j)).getD 0 0
theorem fq_end (ss : List ByteArray) (q : ByteArray) : fq ss q q.size = 0 := by unfold fq; rw [Nat.sub_self]; rfl
theorem fq_step (ss : List ByteArray) (q : ByteArray) (i : Nat) (h : i < q.size) : fq ss q i = pmin (fun l => fstep ss q i (i + l + 1) (fq ss q (i + l + 1))) (q.size - i) := by
  obtain ⟨r, hr⟩ : ∃ r, q.size - i = r + 1 := ⟨q.size - i - 1, by omega⟩
  have e : fq ss q i = pmin (fun l => fstep ss q (q.size - (r + 1)) (q.size - (r + 1) + l + 1) ((fews ss q r).getD l 0)) (r + 1) := by
    unfold fq
    rw [hr]
    rfl
  rw [e, hr]
  have hi : q.size - (r + 1) = i := by omega
  rw [hi]
  refine pmin_congr _ fun l hl => ?_
  unfold fq
  rw [fews_getD ss q r l (by omega), show r - l = q.size - (i + l + 1) by omega]
theorem fq_le (ss : List ByteArray) (q : ByteArray) (i : Nat) (h : i ≤ q.size) : fq ss q i ≤ 21 := by
  by_cases e : i = q.size
  · rw [e, fq_end]; omega
  · rw [fq_step ss q i (by omega)]
    exact ((le_pmin _ _ _).1 (Nat.le_refl _)).1
/-- By words. -/
theorem le_fq {ss : List ByteArray} (hw : ∀ s ∈ ss, 1 ≤ s.size) (q : ByteArray) (i : Nat) (h : i < q.size) (x : Nat) : x ≤ fq ss q i ↔ x ≤ 21 ∧ ∀ s ∈ ss, fits q i s → x ≤ fq ss q (i + s.size) + 1 := by
  rw [fq_step ss q i h, le_pmin]
  constructor
  · rintro ⟨h1, h2⟩
    refine ⟨h1, fun s hs hf => ?_⟩
    have hs1 := hw s hs
    have h3 := h2 (s.size - 1) (by have := hf.1; omega)
    have e : i + (s.size - 1) + 1 = i + s.size := by omega
    rw [e] at h3
    unfold fstep at h3
    rw [if_pos (List.length_pos_of_mem (show s ∈ fors ss (q.extract i (i + s.size)) from List.mem_filter.2 ⟨hs, decide_eq_true hf.2⟩))] at h3
    exact h3
  · rintro ⟨h1, h2⟩
    refine ⟨h1, fun l hl => ?_⟩
    unfold fstep
    by_cases hp : 0 < (fors ss (q.extract i (i + l + 1))).length
    · rw [if_pos hp]
      obtain ⟨s, hs⟩ := List.exists_mem_of_length_pos hp
      obtain ⟨hm, hk⟩ := List.mem_filter.1 hs
      have hk := of_decide_eq_true hk
      have hz := congrArg ByteArray.size hk
      rw [keysB_size, ByteArray.size_extract] at hz
      have e : i + s.size = i + l + 1 := by omega
      have := h2 s hm ⟨by omega, by rw [e]; exact hk⟩
      rw [e] at this
      exact this
    · rw [if_neg hp]; exact h1
theorem fq_tq {ss : List ByteArray} (hd : dicB ss = true) (q : ByteArray) (hq : q.size ≤ 20) : ∀ (r i : Nat), i + r = q.size → (tq ss q i = 0 → fq ss q i = 21) ∧ (¬ tq ss q i = 0 → fq ss q i ≤ r)
  | r, i, hir => by
    have hw : ∀ s ∈ ss, 1 ≤ s.size := fun s hs => (isW_size (wdW_isW (dicB_mem hd s hs))).1
    by_cases e : i = q.size
    · subst e
      refine ⟨fun h => ?_, fun _ => by rw [fq_end]; omega⟩
      rw [tq_end] at h
      cases h
    · have hlt : i < q.size := by omega
      have hp := tq_pos hd q hq i hlt
      have hn := tq_nn hd q hq i (by omega)
      constructor
      · intro h0
        have hle := fq_le ss q i (by omega)
        refine Nat.le_antisymm hle ((le_fq hw q i hlt 21).2 ⟨Nat.le_refl _, fun s hs hf => ?_⟩)
        have hs1 := hw s hs
        have hs2 := hf.1
        have hn2 := tq_nn hd q hq (i + s.size) hf.1
        by_cases hz : tq ss q (i + s.size) = 0
        · have := (fq_tq hd q hq (r - s.size) (i + s.size) (by omega)).1 hz
          omega
        · have := hp.2 ⟨s, hs, hf, by omega⟩
          omega
      · intro h0
        obtain ⟨s, hs, hf, h2⟩ := hp.1 (by omega)
        have hs1 := hw s hs
        have hs2 := hf.1
        have h3 := (fq_tq hd q hq (r - s.size) (i + s.size) (by omega)).2 (by omega)
        have h4 := ((le_fq hw q i hlt (fq ss q i)).1 (Nat.le_refl _)).2 s hs hf
        omega
termination_by r => r
theorem fq_small {ss : List ByteArray} (hd : dicB ss = true) (q : ByteArray) (hq : q.size ≤ 20) (i : Nat) (hi : i ≤ q.size) (h : ¬ tq ss q i = 0) : fq ss q i ≤ q.size - i := (fq_tq hd q hq (q.size - i) i (by omega)).2 h
theorem fq_none {ss : List ByteArray} (hd : dicB ss = true) (q : ByteArray) (hq : q.size ≤ 20) (i : Nat) (hi : i ≤ q.size) (h : tq ss q i = 0) : fq ss q i = 21 := (fq_tq hd q hq (q.size - i) i (by omega)).1 h

/-! ### The model's way: by words, of those behind which there is a split -/
def wm (ss : List ByteArray) (q : ByteArray) (i : Nat) : List ByteArray → Nat
  | [] => 21
  | s :: l => min (if i + s.size ≤ q.size ∧ keysB s = q.extract i (i + s.size) ∧ ¬ tq ss q (i + s.size) = 0 then fq ss q (i + s.size) + 1 else 21) (wm ss q i l)
theorem le_wm (ss : List ByteArray) (q : ByteArray) (i x : Nat) : ∀ l, x ≤ wm ss q i l ↔ x ≤ 21 ∧ ∀ s ∈ l, fits q i s → ¬ tq ss q (i + s.size) = 0 → x ≤ fq ss q (i + s.size) + 1
  | [] => ⟨fun h => ⟨h, fun s hs => by cases hs⟩, fun h => h.1⟩
  | s :: l => by
    rw [wm, Nat.le_min, le_wm ss q i x l]
    constructor
    · rintro ⟨h1, h2, h3⟩
      refine ⟨h2, fun t ht hf hz => ?_⟩
      rcases List.mem_cons.1 ht with rfl | ht
      · rw [if_pos ⟨hf.1, hf.2, hz⟩] at h1; exact h1
      · exact h3 t ht hf hz
    · rintro ⟨h1, h2⟩
      refine ⟨?_, h1, fun t ht => h2 t (List.mem_cons_of_mem _ ht)⟩
      split
      · rename_i h; exact h2 s (by simp) ⟨h.1, h.2.1⟩ h.2.2
      · exact h1
theorem eq_of_le {a b : Nat} (h : ∀ x, x ≤ a ↔ x ≤ b) : a = b := Nat.le_antisymm ((h a).1 (Nat.le_refl _)) ((h b).2 (Nat.le_refl _))
theorem wm_le (ss : List ByteArray) (q : ByteArray) (i : Nat) (l : List ByteArray) : wm ss q i l ≤ 21 := ((le_wm ss q i _ l).1 (Nat.le_refl _)).1
theorem wm_all {ss : List ByteArray} (hd : dicB ss = true) (q : ByteArray) (hq : q.size ≤ 20) (i : Nat) (hi : i < q.size) : wm ss q i ss = fq ss q i := by
  have hw : ∀ s ∈ ss, 1 ≤ s.size := fun s hs => (isW_size (wdW_isW (dicB_mem hd s hs))).1
  refine eq_of_le fun x => ?_
  rw [le_wm, le_fq hw q i hi]
  refine and_congr_right fun h1 => ⟨fun h s hs hf => ?_, fun h s hs hf _ => h s hs hf⟩
  by_cases hz : tq ss q (i + s.size) = 0
  · rw [fq_none hd q hq _ hf.1 hz]
    omega
  · exact h s hs hf hz
theorem wm_yes {ss : List ByteArray} {q : ByteArray} {i : Nat} {l : List ByteArray} {s : ByteArray} (h : fits q i s) (hz : ¬ tq ss q (i + s.size) = 0) : wm ss q i (l ++ [s]) = min (wm ss q i l) (fq ss q (i + s.size) + 1) := by
  refine eq_of_le fun x => ?_
  rw [le_wm, Nat.le_min, le_wm]
  constructor
  · rintro ⟨h1, h2⟩
    exact ⟨⟨h1, fun t ht => h2 t (by simp [ht])⟩, h2 s (by simp) h hz⟩
  · rintro ⟨⟨h1, h2⟩, h3⟩
    refine ⟨h1, fun t ht hf hz2 => ?_⟩
    rcases List.mem_append.1 ht with ht | ht
    · exact h2 t ht hf hz2
    · rw [List.mem_singleton] at ht; subst ht; exact h3
theorem wm_no {ss : List ByteArray} {q : ByteArray} {i : Nat} {l : List ByteArray} {s : ByteArray} (h : ¬ (fits q i s ∧ ¬ tq ss q (i + s.size) = 0)) : wm ss q i (l ++ [s]) = wm ss q i l := by
  refine eq_of_le fun x => ?_
  rw [le_wm, le_wm]
  refine and_congr Iff.rfl ⟨fun h2 t ht => h2 t (by simp [ht]), fun h2 t ht hf hz2 => ?_⟩
  rcases List.mem_append.1 ht with ht | ht
  · exact h2 t ht hf hz2
  · rw [List.mem_singleton] at ht; subst ht; exact absurd ⟨hf, hz2⟩ h
/-- The model writes -1 where there is none. -/
def encF (x : Nat) : Int := if x < 21 then (x : Int) else -1
theorem encF_lt {x : Nat} (h : x < 21) : encF x = x := if_pos h
theorem encF_no {x : Nat} (h : ¬ x < 21) : encF x = -1 := if_neg h

/-! ### The ways of so few words -/
def goF (ss : List ByteArray) (q : ByteArray) (i : Nat) (s : ByteArray) : Bool := decide (fits q i s ∧ fq ss q (i + s.size) + 1 = fq ss q i)
theorem goF_no1 {ss : List ByteArray} {q : ByteArray} {i : Nat} {s : ByteArray} (h : ¬ fits q i s) : goF ss q i s = false := decide_eq_false fun hc => h hc.1
theorem goF_no2 {ss : List ByteArray} {q : ByteArray} {i : Nat} {s : ByteArray} (h : ¬ fq ss q (i + s.size) + 1 = fq ss q i) : goF ss q i s = false := decide_eq_false fun hc => h hc.2
theorem goF_yes {ss : List ByteArray} {q : ByteArray} {i : Nat} {s : ByteArray} (h : fits q i s) (h2 : fq ss q (i + s.size) + 1 = fq ss q i) : goF ss q i s = true := decide_eq_true ⟨h, h2⟩
theorem goF_some {ss : List ByteArray} (hd : dicB ss = true) (q : ByteArray) (i : Nat) (hi : i < q.size) (hn : fq ss q i ≤ 20) : ¬ ss.find? (goF ss q i) = none := by
  intro h0
  have hw : ∀ s ∈ ss, 1 ≤ s.size := fun s hs => (isW_size (wdW_isW (dicB_mem hd s hs))).1
  have h1 : ¬ fq ss q i + 1 ≤ fq ss q i := by omega
  apply h1
  rw [le_fq hw q i hi]
  refine ⟨by omega, fun s hs hf => ?_⟩
  have h2 := ((le_fq hw q i hi (fq ss q i)).1 (Nat.le_refl _)).2 s hs hf
  have h3 : ¬ fq ss q (i + s.size) + 1 = fq ss q i := fun e => (List.find?_eq_none.1 h0 s hs) (goF_yes hf e)
  omega

end Go.Proofs.YtioinihlahnbfaaDoor
