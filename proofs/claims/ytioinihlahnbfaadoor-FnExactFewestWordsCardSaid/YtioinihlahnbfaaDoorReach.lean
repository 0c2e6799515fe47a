/- The places that splits reach: forward by the model's marks, and by the counts of the keys up to there. No program in particular. -/
import Derived.Test.YtioinihlahnbfaaDoorBound
namespace Go.Proofs.YtioinihlahnbfaaDoor
open Go.RowKit

/-- A word stands at a place. -/
def fits (q : ByteArray) (i : Nat) (s : ByteArray) : Prop := i + s.size ≤ q.size ∧ keysB s = q.extract i (i + s.size)
instance (q : ByteArray) (i : Nat) (s : ByteArray) : Decidable (fits q i s) := by unfold fits; infer_instance
inductive Rch (ss : List ByteArray) (q : ByteArray) : Nat → Prop
  | zero : Rch ss q 0
  | step (i : Nat) (s : ByteArray) : Rch ss q i → s ∈ ss → fits q i s → Rch ss q (i + s.size)

theorem tsum_nn (q : ByteArray) (T : Nat → Int) (i : Nat) (h : ∀ j, i ≤ j → j ≤ q.size → 0 ≤ T j) : ∀ ss : List ByteArray, 0 ≤ tsum q T i ss
  | [] => Int.le_refl _
  | s :: ss => by
    have := tsum_nn q T i h ss
    have : 0 ≤ term q T i s := by
      unfold term
      split
      · exact h _ (by omega) (by omega)
      · exact Int.le_refl _
    rw [tsum]; omega
theorem tsum_pos (q : ByteArray) (T : Nat → Int) (i : Nat) (h : ∀ j, i ≤ j → j ≤ q.size → 0 ≤ T j) : ∀ ss : List ByteArray, (0 < tsum q T i ss ↔ ∃ s ∈ ss, fits q i s ∧ 0 < T (i + s.size))
  | [] => by simp [tsum]
  | s :: ss => by
    have ih := tsum_pos q T i h ss
    have nn := tsum_nn q T i h ss
    rw [tsum]
    by_cases hf : fits q i s
    · have e : term q T i s = T (i + s.size) := by exact if_pos hf
      have n2 := h (i + s.size) (by omega) hf.1
      rw [e]
      constructor
      · intro hp
        by_cases h0 : 0 < T (i + s.size)
        · exact ⟨s, by simp, hf, h0⟩
        · obtain ⟨t, ht, h2⟩ := ih.1 (by omega)
          exact ⟨t, List.mem_cons_of_mem _ ht, h2⟩
      · rintro ⟨t, ht, h2, h3⟩
        rcases List.mem_cons.1 ht with rfl | ht
        · omega
        · have := ih.2 ⟨t, ht, h2, h3⟩; omega
    · have e : term q T i s = 0 := by exact if_neg hf
      rw [e, Int.zero_add, ih]
      constructor
      · rintro ⟨t, ht, h2⟩; exact ⟨t, List.mem_cons_of_mem _ ht, h2⟩
      · rintro ⟨t, ht, h2⟩
        rcases List.mem_cons.1 ht with rfl | ht
        · exact absurd h2.1 hf
        · exact ⟨t, ht, h2⟩
theorem tq_nn {ss : List ByteArray} (h : dicB ss = true) (q : ByteArray) (hq : q.size ≤ 20) (j : Nat) (hj : j ≤ q.size) : 0 ≤ tq ss q j := (tq_small h q hq (q.size - j) j (by omega)).1
theorem tq_pos {ss : List ByteArray} (h : dicB ss = true) (q : ByteArray) (hq : q.size ≤ 20) (i : Nat) (hi : i < q.size) : 0 < tq ss q i ↔ ∃ s ∈ ss, fits q i s ∧ 0 < tq ss q (i + s.size) := by
  rw [tq_sum h q hq i hi]
  exact tsum_pos q _ i (fun j _ hj => tq_nn h q hq j hj) ss
/-- All the keys have a split just if their end is reached. -/
theorem tq_reach {ss : List ByteArray} (h : dicB ss = true) (q : ByteArray) (hq : q.size ≤ 20) : 0 < tq ss q 0 ↔ Rch ss q q.size := by
  have hw : ∀ s ∈ ss, 1 ≤ s.size := fun s hs => (isW_size (wdW_isW (dicB_mem h s hs))).1
  constructor
  · have key : ∀ (r i : Nat), i + r = q.size → 0 < tq ss q i → Rch ss q i → Rch ss q q.size := by
      intro r
      induction r using Nat.strongRecOn with
      | ind r ih =>
        intro i hi hp hr
        by_cases h0 : i = q.size
        · rw [← h0]; exact hr
        · obtain ⟨s, hs, hf, h2⟩ := (tq_pos h q hq i (by omega)).1 hp
          have := hw s hs
          have := hf.1
          exact ih (q.size - (i + s.size)) (by omega) (i + s.size) (by omega) h2 (.step i s hr hs hf)
    intro hp
    exact key q.size 0 (by omega) hp .zero
  · intro hr
    have key : ∀ j, Rch ss q j → 0 < tq ss q j → 0 < tq ss q 0 := by
      intro j hj
      induction hj with
      | zero => exact id
      | step i s _ hs hf ih =>
        intro hp
        have := hw s hs
        have := hf.1
        exact ih ((tq_pos h q hq i (by omega)).2 ⟨s, hs, hf, hp⟩)
    exact key _ hr (by rw [tq_end]; decide)
theorem ex_ex (q : ByteArray) (L i j : Nat) (hj : j ≤ L) : (q.extract 0 L).extract i j = q.extract i j := by
  apply ByteArray.ext
  rw [ByteArray.data_extract, ByteArray.data_extract, ByteArray.data_extract, Array.extract_extract]
  congr 1 <;> omega
theorem rch_cut (ss : List ByteArray) (q : ByteArray) (L : Nat) (hL : L ≤ q.size) : Rch ss (q.extract 0 L) L ↔ Rch ss q L := by
  have hs : (q.extract 0 L).size = L := by rw [ByteArray.size_extract]; omega
  constructor
  · have key : ∀ j, Rch ss (q.extract 0 L) j → Rch ss q j := by
      intro j hj
      induction hj with
      | zero => exact .zero
      | step i s _ hm hf ih =>
        refine .step i s ih hm ⟨?_, ?_⟩
        · have := hf.1; omega
        · have h1 := hf.1
          rw [hf.2, ex_ex q L _ _ (by omega)]
    exact key L
  · have key : ∀ j, Rch ss q j → j ≤ L → Rch ss (q.extract 0 L) j := by
      intro j hj
      induction hj with
      | zero => intro _; exact .zero
      | step i s _ hm hf ih =>
        intro hle
        refine .step i s (ih (by omega)) hm ⟨?_, ?_⟩
        · omega
        · rw [hf.2, ex_ex q L _ _ (by omega)]
    exact fun h => key L h (Nat.le_refl _)
theorem cut_reach {ss : List ByteArray} (h : dicB ss = true) (q : ByteArray) (hq : q.size ≤ 20) (L : Nat) (hL : L ≤ q.size) : tq ss (q.extract 0 L) 0 = 0 ↔ ¬ Rch ss q L := by
  have hs : (q.extract 0 L).size = L := by rw [ByteArray.size_extract]; omega
  have h1 := tq_reach h (q.extract 0 L) (by omega)
  rw [hs, rch_cut ss q L hL] at h1
  have := tq_nn h (q.extract 0 L) (by omega) 0 (by omega)
  rw [← h1]
  omega

/-! ### The model's marks -/
def mark1 (q : ByteArray) (i : Nat) (t : Nat → Bool) (s : ByteArray) (j : Nat) : Bool := if j = i + s.size ∧ t i = true ∧ fits q i s then true else t j
def markW (q : ByteArray) (i : Nat) (t : Nat → Bool) (l : List ByteArray) : Nat → Bool := l.foldl (mark1 q i) t
def markAll (ss : List ByteArray) (q : ByteArray) : Nat → Nat → Bool
  | 0 => fun j => decide (j = 0)
  | i + 1 => markW q i (markAll ss q i) ss
theorem markW_snoc (q : ByteArray) (i : Nat) (t : Nat → Bool) (l : List ByteArray) (s : ByteArray) : markW q i t (l ++ [s]) = mark1 q i (markW q i t l) s := by unfold markW; rw [List.foldl_append]; rfl
theorem mark1_up {q : ByteArray} {i : Nat} {t : Nat → Bool} {s : ByteArray} {j : Nat} (h : t j = true) : mark1 q i t s j = true := by unfold mark1; split <;> first | rfl | exact h
theorem markW_up (q : ByteArray) (i : Nat) : ∀ (l : List ByteArray) (t : Nat → Bool) (j : Nat), t j = true → markW q i t l j = true
  | [], _, _, h => h
  | s :: l, t, j, h => markW_up q i l (mark1 q i t s) j (mark1_up h)
theorem markW_hit (q : ByteArray) (i : Nat) (s : ByteArray) (hf : fits q i s) : ∀ (l : List ByteArray) (t : Nat → Bool), t i = true → s ∈ l → markW q i t l (i + s.size) = true
  | a :: l, t, h, hm => by
    rcases List.mem_cons.1 hm with rfl | hm
    · exact markW_up q i l _ _ (by unfold mark1; rw [if_pos ⟨rfl, h, hf⟩])
    · exact markW_hit q i s hf l (mark1 q i t a) (mark1_up h) hm
theorem markAll_up (ss : List ByteArray) (q : ByteArray) (j a : Nat) : ∀ d, markAll ss q a j = true → markAll ss q (a + d) j = true
  | 0, h => h
  | d + 1, h => markW_up q (a + d) ss _ j (markAll_up ss q j a d h)
theorem markAll_rch (ss : List ByteArray) (q : ByteArray) : ∀ k j, markAll ss q k j = true → Rch ss q j
  | 0, j, h => by
    have : j = 0 := by simpa [markAll] using h
    rw [this]; exact .zero
  | k + 1, j, h => by
    have ih := markAll_rch ss q k
    have key : ∀ (l : List ByteArray) (t : Nat → Bool), (∀ s ∈ l, s ∈ ss) → (∀ j, t j = true → Rch ss q j) → ∀ j, markW q k t l j = true → Rch ss q j := by
      intro l
      induction l with
      | nil => intro t _ ht j hj; exact ht j hj
      | cons s l ihl =>
        intro t hl ht j hj
        refine ihl (mark1 q k t s) (fun u hu => hl u (List.mem_cons_of_mem _ hu)) (fun j hj => ?_) j hj
        unfold mark1 at hj
        split at hj
        · rename_i hc
          rw [hc.1]
          exact .step k s (ht k hc.2.1) (hl s (by simp)) hc.2.2
        · exact ht j hj
    exact key ss _ (fun _ h => h) ih j h
theorem markAll_has (ss : List ByteArray) (q : ByteArray) (hw : ∀ s ∈ ss, 1 ≤ s.size) : ∀ j, Rch ss q j → markAll ss q j j = true := by
  intro j hj
  induction hj with
  | zero => simp [markAll]
  | step i s _ hm hf ih =>
    have h1 : markAll ss q (i + 1) (i + s.size) = true := markW_hit q i s hf ss _ ih hm
    have := hw s hm
    have h2 := markAll_up ss q (i + s.size) (i + 1) (s.size - 1) h1
    rwa [show i + 1 + (s.size - 1) = i + s.size by omega] at h2
theorem mark_reach (ss : List ByteArray) (q : ByteArray) (hw : ∀ s ∈ ss, 1 ≤ s.size) (j : Nat) (hj : j ≤ q.size) : markAll ss q q.size j = true ↔ Rch ss q j := by
  refine ⟨markAll_rch ss q _ j, fun h => ?_⟩
  have := markAll_up ss q j j (q.size - j) (markAll_has ss q hw j h)
  rwa [show j + (q.size - j) = q.size by omega] at this
theorem cut_mark {ss : List ByteArray} (h : dicB ss = true) (q : ByteArray) (hq : q.size ≤ 20) (L : Nat) (hL : L ≤ q.size) : tq ss (q.extract 0 L) 0 = 0 ↔ markAll ss q q.size L = false := by
  have hw : ∀ s ∈ ss, 1 ≤ s.size := fun s hs => (isW_size (wdW_isW (dicB_mem h s hs))).1
  rw [cut_reach h q hq L hL, ← mark_reach ss q hw L hL]
  simp

/-- The last mark among the first so many places behind the first. -/
def lastT (t : Nat → Bool) : Nat → Nat
  | 0 => 0
  | k + 1 => if t (k + 1) then k + 1 else lastT t k
theorem lastT_yes {t : Nat → Bool} {k : Nat} (h : t k = true) : lastT t k = k := by
  cases k with
  | zero => rfl
  | succ k => rw [lastT, if_pos h]
theorem lastT_no {t : Nat → Bool} {k : Nat} (h : t (k + 1) = false) : lastT t (k + 1) = lastT t k := by rw [lastT, h]; rfl
theorem lastT_le (t : Nat → Bool) : ∀ k, lastT t k ≤ k
  | 0 => Nat.le_refl _
  | k + 1 => by rw [lastT]; have := lastT_le t k; split <;> omega
def longV (ss : List ByteArray) (q : ByteArray) : Nat := lastT (markAll ss q q.size) q.size

end Go.Proofs.YtioinihlahnbfaaDoor
