/- Hits and near ones of two pins: plainly, and by the model. No conditions. -/
import Derived.Test.YtmpajijnpoekgaaPin
import Derived.Test.YtmpajijnpoekgaaWg
namespace Go.Proofs.Ytmpajijnpoekgaa
open Go.RowKit

def hitK (s t : ByteArray) : Nat → Nat
  | 0 => 0
  | k + 1 => hitK s t k + if dgt s k = dgt t k then 1 else 0
/-- How often a digit is among the first so many. -/
def cnK (s : ByteArray) (d : Nat) : Nat → Nat
  | 0 => 0
  | k + 1 => cnK s d k + if dgt s k = d then 1 else 0
/-- Where both have it, and where they differ. -/
def hdK (s t : ByteArray) (d : Nat) : Nat → Nat
  | 0 => 0
  | k + 1 => hdK s t d k + if dgt s k = dgt t k ∧ dgt s k = d then 1 else 0
def ipK (s t : ByteArray) (d : Nat) : Nat → Nat
  | 0 => 0
  | k + 1 => ipK s t d k + if ¬ dgt s k = dgt t k ∧ dgt s k = d then 1 else 0
def igK (s t : ByteArray) (d : Nat) : Nat → Nat
  | 0 => 0
  | k + 1 => igK s t d k + if ¬ dgt s k = dgt t k ∧ dgt t k = d then 1 else 0
theorem cnK_s (s t : ByteArray) (d : Nat) : ∀ k, cnK s d k = ipK s t d k + hdK s t d k
  | 0 => rfl
  | k + 1 => by
    rw [cnK, ipK, hdK, cnK_s s t d k]
    by_cases h1 : dgt s k = dgt t k
    · by_cases h2 : dgt s k = d
      · rw [if_pos h2, if_neg (by simp [h1]), if_pos ⟨h1, h2⟩]; omega
      · rw [if_neg h2, if_neg (by simp [h1]), if_neg (by simp [h2])]; omega
    · by_cases h2 : dgt s k = d
      · rw [if_pos h2, if_pos ⟨h1, h2⟩, if_neg (by simp [h1])]; omega
      · rw [if_neg h2, if_neg (by simp [h2]), if_neg (by simp [h2])]; omega
theorem cnK_t (s t : ByteArray) (d : Nat) : ∀ k, cnK t d k = igK s t d k + hdK s t d k
  | 0 => rfl
  | k + 1 => by
    rw [cnK, igK, hdK, cnK_t s t d k]
    by_cases h1 : dgt s k = dgt t k
    · by_cases h2 : dgt t k = d
      · rw [if_pos h2, if_neg (by simp [h1]), if_pos ⟨h1, h1.trans h2⟩]; omega
      · rw [if_neg h2, if_neg (by simp [h1]), if_neg (show ¬ (dgt s k = dgt t k ∧ dgt s k = d) from fun h => h2 (by rw [← h.1]; exact h.2))]; omega
    · by_cases h2 : dgt t k = d
      · rw [if_pos h2, if_pos ⟨h1, h2⟩, if_neg (by simp [h1])]; omega
      · rw [if_neg h2, if_neg (by simp [h2]), if_neg (by simp [h1])]; omega
theorem hitK_le (s t : ByteArray) : ∀ k, hitK s t k ≤ k
  | 0 => Nat.le_refl _
  | k + 1 => by have := hitK_le s t k; rw [hitK]; split <;> omega
theorem cnK_le (s : ByteArray) (d : Nat) : ∀ k, cnK s d k ≤ k
  | 0 => Nat.le_refl _
  | k + 1 => by have := cnK_le s d k; rw [cnK]; split <;> omega
theorem ipK_le (s t : ByteArray) (d k : Nat) : ipK s t d k ≤ k := by have := cnK_s s t d k; have := cnK_le s d k; omega
theorem igK_le (s t : ByteArray) (d k : Nat) : igK s t d k ≤ k := by have := cnK_t s t d k; have := cnK_le t d k; omega
def sumK (f : Nat → Nat) : Nat → Nat
  | 0 => 0
  | j + 1 => sumK f j + f j
theorem sumK_add (f g : Nat → Nat) : ∀ j, sumK (fun d => f d + g d) j = sumK f j + sumK g j
  | 0 => rfl
  | j + 1 => by rw [sumK, sumK, sumK, sumK_add f g j]; omega
theorem sumK_congr {f g : Nat → Nat} : ∀ {j : Nat}, (∀ d, d < j → f d = g d) → sumK f j = sumK g j
  | 0, _ => rfl
  | j + 1, h => by rw [sumK, sumK, sumK_congr (fun d hd => h d (by omega)), h j (by omega)]
theorem sumK_one (x : Nat) : ∀ j, sumK (fun d => if x = d then 1 else 0) j = if x < j then 1 else 0
  | 0 => rfl
  | j + 1 => by
    rw [sumK, sumK_one x j]
    by_cases h1 : x < j
    · rw [if_pos h1, if_neg (by omega), if_pos (by omega)]
    · by_cases h2 : x = j
      · rw [if_neg h1, if_pos h2, if_pos (by omega)]
      · rw [if_neg h1, if_neg h2, if_neg (by omega)]
theorem sumK_zero : ∀ j, sumK (fun _ => 0) j = 0
  | 0 => rfl
  | j + 1 => by rw [sumK, sumK_zero j]
theorem hdK_sum (s t : ByteArray) : ∀ k, (∀ i, i < k → dgt s i < 10) → sumK (fun d => hdK s t d k) 10 = hitK s t k
  | 0, _ => sumK_zero 10
  | k + 1, h => by
    have e : sumK (fun d => hdK s t d (k + 1)) 10 = sumK (fun d => hdK s t d k) 10 + sumK (fun d => if dgt s k = dgt t k ∧ dgt s k = d then 1 else 0) 10 := by
      rw [← sumK_add]; rfl
    rw [e, hdK_sum s t k (fun i hi => h i (by omega)), hitK]
    congr 1
    by_cases h1 : dgt s k = dgt t k
    · rw [if_pos h1]
      have : sumK (fun d => if dgt s k = dgt t k ∧ dgt s k = d then 1 else 0) 10 = sumK (fun d => if dgt s k = d then 1 else 0) 10 := sumK_congr fun d _ => by simp [h1]
      rw [this, sumK_one, if_pos (h k (by omega))]
    · rw [if_neg h1]
      have : sumK (fun d => if dgt s k = dgt t k ∧ dgt s k = d then 1 else 0) 10 = sumK (fun _ => 0) 10 := sumK_congr fun d _ => by simp [h1]
      rw [this, sumK_zero]
/-- Near ones, of the first so many digits. -/
def nrK (s t : ByteArray) (j : Nat) : Nat := sumK (fun d => min (ipK s t d s.size) (igK s t d s.size)) j
def boK (s t : ByteArray) (j : Nat) : Nat := sumK (fun d => min (cnK s d s.size) (cnK t d s.size)) j
theorem boK_nr (s t : ByteArray) (h : ∀ i, i < s.size → dgt s i < 10) : boK s t 10 = nrK s t 10 + hitK s t s.size := by
  rw [← hdK_sum s t s.size h]
  unfold boK nrK
  rw [← sumK_add]
  apply sumK_congr
  intro d _
  rw [cnK_s s t d, cnK_t s t d]
  omega
theorem boK_succ (s t : ByteArray) (j : Nat) : boK s t (j + 1) = boK s t j + min (cnK s j s.size) (cnK t j s.size) := rfl
theorem nrK_succ (s t : ByteArray) (j : Nat) : nrK s t (j + 1) = nrK s t j + min (ipK s t j s.size) (igK s t j s.size) := rfl
theorem boK_le (s t : ByteArray) : ∀ j, boK s t j ≤ j * s.size
  | 0 => by show 0 ≤ _; omega
  | j + 1 => by
    have := boK_le s t j
    have h2 := cnK_le s j s.size
    rw [boK_succ, Nat.succ_mul]
    omega
theorem nrK_le (s t : ByteArray) : ∀ j, nrK s t j ≤ j * s.size
  | 0 => by show 0 ≤ _; omega
  | j + 1 => by
    have := nrK_le s t j
    have h2 := ipK_le s t j s.size
    rw [nrK_succ, Nat.succ_mul]
    omega
def hoH (s t : ByteArray) : Int := if evB s t then (hitK s t s.size : Nat) else 0
def hoN (s t : ByteArray) : Int := if evB s t then (nrK s t 10 : Nat) else 0
theorem ho_no {s t : ByteArray} (h : evB s t = false) : hoH s t = 0 ∧ hoN s t = 0 := by unfold hoH hoN; rw [h]; exact ⟨rfl, rfl⟩
theorem ho_yes {s t : ByteArray} (h : evB s t = true) : hoH s t = (hitK s t s.size : Nat) ∧ hoN s t = (nrK s t 10 : Nat) := by unfold hoH hoN; rw [h]; exact ⟨rfl, rfl⟩
theorem ret_IIB {a a' c c' : Int} {b b' : Bool} (h : a = a') (h3 : c = c') (h2 : b = b') : Ending.returned (.tuple #[.int .i64 a, .int .i64 c, .bool b]) = .returned (.tuple #[.int .i64 a', .int .i64 c', .bool b']) := by rw [h, h2, h3]
theorem ret_II {a a' c c' : Int} (h : a = a') (h3 : c = c') : Ending.returned (.tuple #[.int .i64 a, .int .i64 c]) = .returned (.tuple #[.int .i64 a', .int .i64 c']) := by rw [h, h3]
end Go.Proofs.Ytmpajijnpoekgaa
