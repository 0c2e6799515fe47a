/- The least presses of letters on keys: a table of sums, the program's and the model's, and the sizes along it. No program in particular. -/
import Derived.Test.YtioinihlahnbfaaInts
namespace Go.Proofs.Ytioinihlahnbfaa
open Go.RowKit

/-- The presses of the first m letters from one on, on one key. -/
def sm (c : Nat → Nat) (i : Nat) : Nat → Nat
  | 0 => 0
  | m + 1 => sm c i m + (m + 1) * c (i + m)
/-- The least, where the next key has at most m letters; the model's word for none is 1000000000. -/
def dm (D c : Nat → Nat) (i : Nat) : Nat → Nat
  | 0 => 1000000000
  | m + 1 => min (dm D c i m) (sm c i (m + 1) + D (i + m + 1))
def dp (c : Nat → Nat) : Nat → Nat → Nat
  | 0, i => if i < 26 then 1000000000 else 0
  | k + 1, i => dm (dp c k) c i (26 - i)
/-- The program's word for none is greater. -/
def eZ (x : Nat) : Nat := if x < 1000000000 then x else 1099511627776
def pm (D c : Nat → Nat) (i : Nat) : Nat → Nat
  | 0 => 1099511627776
  | m + 1 => min (pm D c i m) (sm c i (m + 1) + D (i + m + 1))
theorem sm_le {c : Nat → Nat} (hc : ∀ j, c j ≤ 1000) (i : Nat) : ∀ m, m ≤ 26 → sm c i m ≤ 26000 * m
  | 0, _ => Nat.le_refl _
  | m + 1, h => by
    have h1 := sm_le hc i m (by omega)
    have h2 : (m + 1) * c (i + m) ≤ 26 * 1000 := Nat.mul_le_mul h (hc _)
    rw [sm]
    omega
theorem dm_bd {D c : Nat → Nat} (hc : ∀ j, c j ≤ 1000) (i : Nat) (hi : i ≤ 26) (hD : ∀ e, e ≤ 26 → D e = 1000000000 ∨ D e ≤ 26000 * (26 - e)) : ∀ m, m ≤ 26 - i → dm D c i m = 1000000000 ∨ dm D c i m ≤ 26000 * (26 - i)
  | 0, _ => .inl rfl
  | m + 1, h => by
    have h1 := dm_bd hc i hi hD m (by omega)
    have h2 := sm_le hc i (m + 1) (by omega)
    have h3 := hD (i + m + 1) (by omega)
    rw [dm]
    omega
theorem dp_bd {c : Nat → Nat} (hc : ∀ j, c j ≤ 1000) : ∀ k i, i ≤ 26 → dp c k i = 1000000000 ∨ dp c k i ≤ 26000 * (26 - i)
  | 0, i, hi => by
    rw [dp]
    split
    · exact .inl rfl
    · exact .inr (by omega)
  | k + 1, i, hi => by
    rw [dp]
    exact dm_bd hc i hi (fun e he => dp_bd hc k e he) (26 - i) (Nat.le_refl _)
theorem eZ_lt {x : Nat} (h : x < 1000000000) : eZ x = x := if_pos h
theorem eZ_no : eZ 1000000000 = 1099511627776 := rfl
theorem eZ_le {x : Nat} (h : x ≤ 1000000000) : eZ x ≤ 1099511627776 := by unfold eZ; split <;> omega
theorem pm_dm {c : Nat → Nat} (hc : ∀ j, c j ≤ 1000) (k i : Nat) (hi : i ≤ 26) : ∀ m, m ≤ 26 - i → pm (fun e => eZ (dp c k e)) c i m = eZ (dm (dp c k) c i m)
  | 0, _ => rfl
  | m + 1, h => by
    have h1 := pm_dm hc k i hi m (by omega)
    have h2 := sm_le hc i (m + 1) (by omega)
    have h3 := dp_bd hc k (i + m + 1) (by omega)
    have h4 := dm_bd hc i hi (fun e he => dp_bd hc k e he) m (by omega)
    rw [pm, dm, h1]
    unfold eZ
    split <;> split <;> split <;> omega
theorem dp_pm {c : Nat → Nat} (hc : ∀ j, c j ≤ 1000) (k i : Nat) (hi : i ≤ 26) : eZ (dp c (k + 1) i) = pm (fun e => eZ (dp c k e)) c i (26 - i) := by
  rw [pm_dm hc k i hi _ (Nat.le_refl _)]
  rfl
theorem dm_le (D c : Nat → Nat) (i : Nat) : ∀ M m, m < M → dm D c i M ≤ sm c i (m + 1) + D (i + m + 1)
  | 0, _, h => absurd h (by omega)
  | M + 1, m, h => by
    rw [dm]
    by_cases e : m = M
    · subst e; omega
    · have := dm_le D c i M m (by omega); omega
theorem dm_at (D c : Nat → Nat) (i : Nat) : ∀ M, dm D c i M = 1000000000 ∨ ∃ m, m < M ∧ sm c i (m + 1) + D (i + m + 1) = dm D c i M
  | 0 => .inl rfl
  | M + 1 => by
    rw [dm]
    rcases dm_at D c i M with h | ⟨m, hm, h⟩
    · by_cases hle : dm D c i M ≤ sm c i (M + 1) + D (i + M + 1)
      · rw [Nat.min_eq_left hle]; exact .inl h
      · rw [Nat.min_eq_right (by omega)]; exact .inr ⟨M, by omega, rfl⟩
    · by_cases hle : dm D c i M ≤ sm c i (M + 1) + D (i + M + 1)
      · rw [Nat.min_eq_left hle]; exact .inr ⟨m, by omega, h⟩
      · rw [Nat.min_eq_right (by omega)]; exact .inr ⟨M, by omega, rfl⟩
/-- There is a way wherever there are keys and letters enough. -/
theorem dp_fin {c : Nat → Nat} (hc : ∀ j, c j ≤ 1000) : ∀ k i, k + 1 + i ≤ 26 → dp c (k + 1) i < 1000000000
  | 0, i, h => by
    have h1 := dm_le (dp c 0) c i (26 - i) (25 - i) (by omega)
    have h2 := sm_le hc i (25 - i + 1) (by omega)
    have h3 : dp c 0 (i + (25 - i) + 1) = 0 := by rw [dp, if_neg (by omega)]
    rw [h3] at h1
    show dm (dp c 0) c i (26 - i) < _
    omega
  | k + 1, i, h => by
    have h0 := dp_fin hc k (i + 1) (by omega)
    have h1 := dm_le (dp c (k + 1)) c i (26 - i) 0 (by omega)
    have h2 := sm_le hc i 1 (by omega)
    have h3 := dp_bd hc (k + 1) (i + 1) (by omega)
    show dm (dp c (k + 1)) c i (26 - i) < _
    have h4 : dp c (k + 1) (i + 0 + 1) = dp c (k + 1) (i + 1) := rfl
    have h5 : sm c i (0 + 1) = sm c i 1 := rfl
    omega
/-- How many letters the next key gets: the least number with which the presses are t. -/
def fsz (D c : Nat → Nat) (t i : Nat) : Nat → Nat → Nat
  | 0, _ => 0
  | f + 1, m => if sm c i (m + 1) + D (i + m + 1) = t then m + 1 else fsz D c t i f (m + 1)
theorem fsz_hit {D c : Nat → Nat} {t i f m : Nat} (h : sm c i (m + 1) + D (i + m + 1) = t) : fsz D c t i (f + 1) m = m + 1 := by rw [fsz, if_pos h]
theorem fsz_miss {D c : Nat → Nat} {t i f m : Nat} (h : ¬ sm c i (m + 1) + D (i + m + 1) = t) : fsz D c t i (f + 1) m = fsz D c t i f (m + 1) := by rw [fsz, if_neg h]
theorem fsz_at (D c : Nat → Nat) (t i : Nat) : ∀ f m, (∃ j, j < f ∧ sm c i (m + j + 1) + D (i + (m + j) + 1) = t) → ∃ j, j < f ∧ fsz D c t i f m = m + j + 1 ∧ sm c i (m + j + 1) + D (i + (m + j) + 1) = t
  | 0, m, ⟨j, h, _⟩ => absurd h (by omega)
  | f + 1, m, ⟨j, h, he⟩ => by
    by_cases hc : sm c i (m + 1) + D (i + m + 1) = t
    · exact ⟨0, by omega, fsz_hit hc, hc⟩
    · rw [fsz_miss hc]
      have hj : j ≠ 0 := fun e => by subst e; exact hc he
      obtain ⟨j', h1, h2, h3⟩ := fsz_at D c t i f (m + 1) ⟨j - 1, by omega, by rw [show m + 1 + (j - 1) = m + j by omega]; exact he⟩
      exact ⟨j' + 1, by omega, by rw [h2]; omega, by rw [show m + (j' + 1) = m + 1 + j' by omega]; exact h3⟩
def size (c : Nat → Nat) (k i : Nat) : Nat := fsz (dp c k) c (dp c (k + 1) i) i (26 - i) 0
theorem size_ok {c : Nat → Nat} (_hc : ∀ j, c j ≤ 1000) (k i : Nat) (_hi : i ≤ 26) (h : dp c (k + 1) i < 1000000000) : 1 ≤ size c k i ∧ i + size c k i ≤ 26 ∧ dp c k (i + size c k i) < 1000000000 := by
  rcases dm_at (dp c k) c i (26 - i) with h0 | ⟨m, hm, he⟩
  · have : dp c (k + 1) i = dm (dp c k) c i (26 - i) := rfl
    omega
  · obtain ⟨j, h1, h2, h3⟩ := fsz_at (dp c k) c (dp c (k + 1) i) i (26 - i) 0 ⟨m, hm, by rw [Nat.zero_add]; exact he⟩
    have e : size c k i = j + 1 := by unfold size; rw [h2, Nat.zero_add]
    rw [e]
    rw [Nat.zero_add] at h3
    rw [show i + (j + 1) = i + j + 1 by omega]
    exact ⟨by omega, by omega, by omega⟩
def szs (c : Nat → Nat) : Nat → Nat → List Int
  | 0, _ => []
  | k + 1, i => (size c k i : Int) :: szs c k (i + size c k i)
theorem szs_len (c : Nat → Nat) : ∀ k i, (szs c k i).length = k
  | 0, _ => rfl
  | k + 1, i => by rw [szs, List.length_cons, szs_len c k]

end Go.Proofs.Ytioinihlahnbfaa
