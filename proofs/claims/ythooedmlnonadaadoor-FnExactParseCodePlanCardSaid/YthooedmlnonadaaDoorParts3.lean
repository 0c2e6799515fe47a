/- A text's parts between commas, and how many of them make a plan. No program in particular. -/
import Derived.Test.YthooedmlnonadaaDoorPla
import Derived.Lib.Split
import Derived.Lib.IndexBytes
import Derived.Lib.CutLaws
namespace Go.Proofs.YthooedmlnonadaaDoor
open Go.RowKit

def comma : ByteArray := ⟨#[44]⟩
theorem comma_size : comma.size = 1 := rfl
/-- All parts. -/
def sp2 (s : ByteArray) : List ByteArray := Lib.splitB comma 0 s.size s
theorem split_pos (sep : ByteArray) (sv : Nat) : ∀ (k : Nat) (s : ByteArray), 1 ≤ (Lib.splitB sep sv k s).length
  | 0, s => Nat.le_refl _
  | k + 1, s => by rw [Lib.splitB]; split <;> simp
theorem split_mono (sep : ByteArray) (sv : Nat) : ∀ (k k' : Nat) (s : ByteArray), k ≤ k' → (Lib.splitB sep sv k s).length ≤ (Lib.splitB sep sv k' s).length
  | 0, k', s, _ => split_pos sep sv k' s
  | k + 1, 0, s, h => absurd h (by omega)
  | k + 1, k' + 1, s, h => by
    rw [Lib.splitB, Lib.splitB]
    split
    · exact Nat.le_refl _
    · rw [List.length_cons, List.length_cons]
      exact Nat.succ_le_succ (split_mono sep sv k k' _ (by omega))
theorem split_stable (sep : ByteArray) (sv : Nat) : ∀ (k k' : Nat) (s : ByteArray), k ≤ k' → (Lib.splitB sep sv k s).length ≤ k → Lib.splitB sep sv k' s = Lib.splitB sep sv k s
  | 0, k', s, _, h => absurd (split_pos sep sv 0 s) (by omega)
  | k + 1, 0, s, h, _ => absurd h (by omega)
  | k + 1, k' + 1, s, h, hl => by
    rw [Lib.splitB] at hl
    rw [Lib.splitB, Lib.splitB]
    split at hl
    · rename_i hm
      rw [if_pos hm, if_pos hm]
    · rename_i hm
      rw [if_neg hm, if_neg hm]
      rw [List.length_cons] at hl
      rw [split_stable sep sv k k' _ (by omega) (by omega)]
/-- Where the parts are codes the text is short. -/
theorem split_size : ∀ (k : Nat) (s : ByteArray), (∀ t ∈ Lib.splitB comma 0 k s, t.size ≤ 6) → s.size + 1 ≤ 7 * (Lib.splitB comma 0 k s).length
  | 0, s, h => by
    have := h s (by simp [Lib.splitB])
    show s.size + 1 ≤ 7 * 1
    omega
  | k + 1, s, h => by
    by_cases hm : Lib.indexB s comma = -1
    · rw [Lib.splitB_miss _ _ _ _ hm] at h ⊢
      have := h s (by simp)
      show s.size + 1 ≤ 7 * 1
      omega
    · rcases Lib.indexB_cases s comma with h0 | ⟨i, hi, hle⟩
      · exact absurd h0 hm
      · rw [comma_size] at hle
        rw [Lib.splitB_hit _ _ _ _ _ hi] at h ⊢
        have h1 := h _ (by simp : s.extract 0 (i + 0) ∈ _)
        have h2 := split_size k (s.extract (i + comma.size) s.size) (fun t ht => h t (by simp [ht]))
        rw [ByteArray.size_extract] at h1 h2
        rw [comma_size] at h2 ⊢
        rw [List.length_cons]
        omega

def pOk (s : ByteArray) : Bool := plB (sp2 s)
def pV (s : ByteArray) : List ByteArray := if pOk s then sp2 s else []
theorem pV_no {s : ByteArray} (h : pOk s = false) : pV s = [] := by unfold pV; simp [h]
theorem pV_yes {s : ByteArray} (h : pOk s = true) : pV s = sp2 s := by unfold pV; simp [h]
theorem plB_long {ss : List ByteArray} (h : 20 < ss.length) : plB ss = false := by
  cases hp : plB ss
  · rfl
  · have := (plB_iff.1 hp).l2; omega
theorem pOk_long {s : ByteArray} (h : 140 < s.size) : pOk s = false := by
  cases hp : pOk s
  · rfl
  · have hq := plB_iff.1 hp
    have hl := hq.l2
    have := split_size s.size s (fun t ht => by have := isDg_size (hq.cd t ht); omega)
    have e : (sp2 s).length = (Lib.splitB comma 0 s.size s).length := rfl
    omega
/-- Twenty-one parts at most are enough to tell. -/
theorem few_parts (s : ByteArray) : plB (Lib.splitB comma 0 (min 21 (s.size + 1) - 1) s) = pOk s ∧ (pOk s = true → Lib.splitB comma 0 (min 21 (s.size + 1) - 1) s = sp2 s) := by
  by_cases h : s.size ≤ 20
  · have e : min 21 (s.size + 1) - 1 = s.size := by omega
    rw [e]
    exact ⟨rfl, fun _ => rfl⟩
  · have e : min 21 (s.size + 1) - 1 = 20 := by omega
    rw [e]
    by_cases hl : (Lib.splitB comma 0 20 s).length ≤ 20
    · have := split_stable comma 0 20 s.size s (by omega) hl
      exact ⟨by unfold pOk sp2; rw [this], fun _ => this.symm⟩
    · have h2 := split_mono comma 0 20 s.size s (by omega)
      have h3 : pOk s = false := plB_long (by show 20 < (Lib.splitB comma 0 s.size s).length; omega)
      rw [h3]
      exact ⟨plB_long (by omega), fun h => by cases h⟩
theorem pV_len (s : ByteArray) : (pV s).length ≤ 1048576 := by
  cases h : pOk s
  · rw [pV_no h]; simp
  · rw [pV_yes h]
    have := (plB_iff.1 h).l2
    omega
theorem pV_mem (s : ByteArray) : ∀ t ∈ pV s, t.size ≤ maxLen := by
  intro t ht
  cases h : pOk s
  · rw [pV_no h] at ht; cases ht
  · rw [pV_yes h] at ht
    have := isDg_size ((plB_iff.1 h).cd t ht)
    unfold maxLen
    omega
theorem part_sz : ∀ (k : Nat) (s : ByteArray), ∀ t ∈ Lib.splitB comma 0 k s, t.size ≤ s.size
  | 0, s, t, h => by
    rw [show Lib.splitB comma 0 0 s = [s] from rfl, List.mem_singleton] at h
    rw [h]; exact Nat.le_refl _
  | k + 1, s, t, h => by
    by_cases hm : Lib.indexB s comma = -1
    · rw [Lib.splitB_miss _ _ _ _ hm, List.mem_singleton] at h
      rw [h]; exact Nat.le_refl _
    · rcases Lib.indexB_cases s comma with h0 | ⟨i, hi, hle⟩
      · exact absurd h0 hm
      · rw [Lib.splitB_hit _ _ _ _ _ hi] at h
        rcases List.mem_cons.1 h with rfl | h
        · rw [ByteArray.size_extract]; omega
        · have := part_sz k _ t h
          rw [ByteArray.size_extract] at this
          omega

/-! ### Byte by byte -/
theorem ex2 (s : ByteArray) (f a b : Nat) (hb : f + b ≤ s.size) : (s.extract f s.size).extract a b = s.extract (f + a) (f + b) := by
  apply ByteArray.ext
  rw [ByteArray.data_extract, ByteArray.data_extract, ByteArray.data_extract, Array.extract_extract]
  congr 1
  omega
theorem piece1 (s : ByteArray) (j : Nat) (h : j < s.size) : s.extract j (j + 1) = ⟨#[s[j]]⟩ := by
  apply ByteArray.ext
  rw [ByteArray.data_extract]
  apply Array.ext
  · have : s.data.size = s.size := rfl
    simp
    omega
  · intro i h1 h2
    have hi : i = 0 := by simp at h2; omega
    subst hi
    simp
    rfl
theorem noOcc_of (s : ByteArray) (f i : Nat) (h : ∀ j (hj : j < s.size), f ≤ j → j < i → ¬ s[j] = 44) (hi : i ≤ s.size) : Lib.NoOccB (s.extract f s.size) comma (i - f) := by
  intro j hj
  have hz : (s.extract f s.size).size = s.size - f := by rw [ByteArray.size_extract]; omega
  rw [Lib.occ_of_piece _ _ _ (by rw [comma_size, hz]; omega), comma_size, ex2 s f j (j + 1) (by omega), show f + (j + 1) = (f + j) + 1 by omega, piece1 s (f + j) (by omega), beqT]
  refine decide_eq_false fun e => ?_
  have h2 := h (f + j) (by omega) (by omega) (by omega)
  unfold comma at e
  injection e with e
  have e3 : s[f + j] = 44 := by
    have := congrArg (fun a : Array UInt8 => a[0]?) e
    simpa using this
  exact h2 e3
theorem step_hit (s : ByteArray) (f i k : Nat) (h : ∀ j (hj : j < s.size), f ≤ j → j < i → ¬ s[j] = 44) (hf : f ≤ i) (hi : i < s.size) (h44 : s[i] = 44) : Lib.splitB comma 0 (k + 1) (s.extract f s.size) = s.extract f i :: Lib.splitB comma 0 k (s.extract (i + 1) s.size) := by
  have hz : (s.extract f s.size).size = s.size - f := by rw [ByteArray.size_extract]; omega
  have hit : Lib.indexB (s.extract f s.size) comma = ((i - f : Nat) : Int) := Lib.hit _ _ _ (noOcc_of s f i h (by omega)) (by rw [comma_size, hz]; omega) (by
    rw [comma_size, ex2 s f (i - f) (i - f + 1) (by omega), show f + (i - f) = i by omega, show f + (i - f + 1) = i + 1 by omega, piece1 s i hi, h44]
    exact beq_self_eq_true _)
  rw [Lib.splitB_hit _ _ _ _ _ hit, hz, comma_size, Nat.add_zero, ex2 s f 0 (i - f) (by omega), ex2 s f (i - f + 1) (s.size - f) (by omega), show f + 0 = f by omega, show f + (i - f) = i by omega, show f + (i - f + 1) = i + 1 by omega, show f + (s.size - f) = s.size by omega]
theorem step_end (s : ByteArray) (f k : Nat) (h : ∀ j (hj : j < s.size), f ≤ j → ¬ s[j] = 44) (hf : f ≤ s.size) : Lib.splitB comma 0 k (s.extract f s.size) = [s.extract f s.size] := by
  have hz : (s.extract f s.size).size = s.size - f := by rw [ByteArray.size_extract]; omega
  exact Lib.splitB_miss _ _ _ _ (Lib.past _ _ _ (noOcc_of s f s.size (fun j hj h1 _ => h j hj h1) (Nat.le_refl _)) (by rw [comma_size]; omega) (by rw [comma_size, hz]; omega))
theorem ex_all (s : ByteArray) : s.extract 0 s.size = s := by
  apply ByteArray.ext
  rw [ByteArray.data_extract]
  exact Array.extract_size

end Go.Proofs.YthooedmlnonadaaDoor
