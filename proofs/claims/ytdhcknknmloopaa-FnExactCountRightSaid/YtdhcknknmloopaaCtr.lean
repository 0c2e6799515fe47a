/- How many right numbers there are: sums by rests, and the model's count. No conditions. -/
import Derived.Test.YtdhcknknmloopaaEnds
namespace Go.Proofs.Ytdhcknknmloopaa
open Go.RowKit

theorem sumF_add (f g : Nat → Int) : ∀ k, sumF (fun v => f v + g v) k = sumF f k + sumF g k
  | 0 => rfl
  | k + 1 => by rw [sumF, sumF, sumF, sumF_add f g k]; omega
theorem sumF_mulL (a : Int) (f : Nat → Int) : ∀ k, sumF (fun v => a * f v) k = a * sumF f k
  | 0 => by simp [sumF]
  | k + 1 => by rw [sumF, sumF, sumF_mulL a f k, Int.mul_add]
theorem sumF_zero {f : Nat → Int} {k : Nat} (h : ∀ v, v < k → f v = 0) : sumF f k = 0 := by
  induction k with
  | zero => rfl
  | succ k ih => rw [sumF, ih (fun v hv => h v (by omega)), h k (by omega)]; rfl
theorem sumF_nn {f : Nat → Int} {k : Nat} (h : ∀ v, v < k → 0 ≤ f v) : 0 ≤ sumF f k := by
  induction k with
  | zero => exact Int.le_refl 0
  | succ k ih => have := ih (fun v hv => h v (by omega)); have := h k (by omega); rw [sumF]; omega
theorem sumF_mono {f : Nat → Int} {a b : Nat} (hab : a ≤ b) (h : ∀ v, v < b → 0 ≤ f v) : sumF f a ≤ sumF f b := by
  induction b with
  | zero => obtain rfl : a = 0 := by omega
            exact Int.le_refl _
  | succ b ih =>
    by_cases e : a = b + 1
    · rw [e]; exact Int.le_refl _
    · have := ih (by omega) (fun v hv => h v (by omega)); have := h b (by omega); rw [sumF]; omega
theorem sumF_one {f : Nat → Int} {k j : Nat} (hj : j < k) (h : ∀ v, v < k → v ≠ j → f v = 0) : sumF f k = f j := by
  induction k with
  | zero => omega
  | succ k ih =>
    rw [sumF]
    by_cases e : j = k
    · rw [sumF_zero (fun v hv => h v (by omega) (by omega)), e]; omega
    · rw [ih (by omega) (fun v hv hn => h v (by omega) hn), h k (by omega) (by omega)]; omega
/-- The value at one place raised. -/
def upd (f : Nat → Int) (j : Nat) (n : Int) (r : Nat) : Int := if r = j then f r + n else f r
theorem dot_upd (f g : Nat → Int) (j : Nat) (n : Int) (m : Nat) (hj : j < m) : sumF (fun r => upd f j n r * g r) m = sumF (fun r => f r * g r) m + n * g j := by
  have e : ∀ r, r < m → upd f j n r * g r = f r * g r + (if r = j then n * g r else 0) := by
    intro r _
    unfold upd
    split
    · rw [Int.add_mul]
    · omega
  rw [sumF_congr e, sumF_add]
  congr 1
  rw [sumF_one hj (fun v _ hn => if_neg hn), if_pos rfl]
theorem sum_upd (f : Nat → Int) (j : Nat) (n : Int) (m : Nat) (hj : j < m) : sumF (upd f j n) m = sumF f m + n := by
  have h := dot_upd f (fun _ => 1) j n m hj
  have e1 : sumF (fun r => upd f j n r * (fun _ => (1 : Int)) r) m = sumF (upd f j n) m := sumF_congr (fun v _ => Int.mul_one _)
  have e2 : sumF (fun r => f r * (fun _ => (1 : Int)) r) m = sumF f m := sumF_congr (fun v _ => Int.mul_one _)
  rw [e1, e2] at h
  rw [h]
  omega
theorem upd_nn {f : Nat → Int} {j : Nat} {n : Int} {m : Nat} (h : ∀ r, r < m → 0 ≤ f r) (hn : 0 ≤ n) : ∀ r, r < m → 0 ≤ upd f j n r := by
  intro r hr
  unfold upd
  have := h r hr
  split <;> omega
theorem at_le {f : Nat → Int} {m j : Nat} (h : ∀ r, r < m → 0 ≤ f r) (hj : j < m) : f j ≤ sumF f m := by
  have h1 := sumF_mono (f := f) (show j + 1 ≤ m by omega) h
  rw [sumF] at h1
  have h2 := sumF_nn (f := f) (k := j) (fun v hv => h v (by omega))
  omega
/-- A list of so many numbers. -/
def rwM (f : Nat → Int) (m : Nat) : List Int := (List.range m).map f
theorem rwM_len (f : Nat → Int) (m : Nat) : (rwM f m).length = m := by simp [rwM]
theorem rwM_at (f : Nat → Int) (m j : Nat) (h : j < m) : (rwM f m)[j]'(by rw [rwM_len]; exact h) = f j := by simp [rwM]
theorem rwM_set (f : Nat → Int) (m j : Nat) (n : Int) : (rwM f m).set j (f j + n) = rwM (upd f j n) m := by
  apply List.ext_getElem
  · simp [rwM]
  · intro i h1 h2
    rw [rwM_len] at h2
    rw [List.getElem_set, rwM_at (upd f j n) m i h2]
    by_cases e : j = i
    · subst e
      rw [if_pos rfl]
      unfold upd
      rw [if_pos rfl]
    · rw [if_neg e, rwM_at f m i h2]
      unfold upd
      rw [if_neg (fun x : i = j => e x.symm)]
theorem rwM_one (m : Nat) (_hm : 0 < m) : (rwM (fun _ => 0) m).set 0 1 = rwM (fun r => if r = 0 then 1 else 0) m := by
  have h := rwM_set (fun _ => 0) m 0 1
  have e : (fun r => if r = 0 then (1 : Int) else 0) = upd (fun _ => 0) 0 1 := by
    funext r; unfold upd; split <;> rfl
  rw [e, ← h]
  rfl

/-! ### The numbers of texts by their sums -/
/-- What comes of one rest: its ways by so many digits. -/
def wyD (zs : List Int) (m k r D : Nat) : Int := sumF (eTm zs m k r) D
structure Nw (zs : List Int) (m k : Nat) (f : Nat → Int) : Prop where
  nn : ∀ r, r < m → 0 ≤ f r
  sum : sumF f m = 10 ^ k
  dot : sumF (fun r => f r * eE zs m k r) m = eE zs m 0 0
structure Nx (zs : List Int) (m k : Nat) (f g : Nat → Int) (r D : Nat) : Prop where
  nn : ∀ q, q < m → 0 ≤ g q
  sum : sumF g m = 10 * sumF f r + (D : Int) * (if r < m then f r else 0)
  dot : sumF (fun q => g q * eE zs m (k + 1) q) m = sumF (fun q => f q * eE zs m k q) r + (if r < m then f r else 0) * wyD zs m k r D
theorem Nw.start (zs : List Int) (m : Nat) (hm : 0 < m) : Nw zs m 0 (fun r => if r = 0 then 1 else 0) := by
  refine ⟨fun r _ => ?_, ?_, ?_⟩
  · show 0 ≤ (if r = 0 then (1 : Int) else 0)
    split <;> decide
  · rw [sumF_one hm (fun v _ hn => if_neg hn), if_pos rfl]; rfl
  · rw [sumF_one (j := 0) hm (fun v _ hn => by show (if v = 0 then (1 : Int) else 0) * _ = 0; rw [if_neg hn, Int.zero_mul])]
    show (if 0 = 0 then (1 : Int) else 0) * _ = _
    rw [if_pos rfl, Int.one_mul]
theorem Nx.start {zs : List Int} {m k : Nat} {f : Nat → Int} : Nx zs m k f (fun _ => 0) 0 0 := by
  refine ⟨fun _ _ => Int.le_refl 0, ?_, ?_⟩
  · rw [sumF_zero (fun _ _ => rfl)]; simp [sumF]
  · rw [sumF_zero (fun v _ => Int.zero_mul _)]; simp [sumF, wyD]
theorem Nx.next {zs : List Int} {m k r D : Nat} {f g : Nat → Int} (h : Nx zs m k f g r D) (hf : Nw zs m k f) (hr : r < m) : Nx zs m k f (upd g (nxR zs m k r D) (f r)) r (D + 1) := by
  have hj := nxR_lt (zs := zs) (m := m) (by omega) k r D
  refine ⟨upd_nn h.nn (hf.nn r hr), ?_, ?_⟩
  · rw [sum_upd _ _ _ _ hj, h.sum, if_pos hr, Int.natCast_add, Int.add_mul]; omega
  · rw [dot_upd _ _ _ _ _ hj, h.dot, if_pos hr]
    have e : wyD zs m k r (D + 1) = wyD zs m k r D + eE zs m (k + 1) (nxR zs m k r D) := rfl
    rw [e, Int.mul_add]
    omega
theorem Nx.row {zs : List Int} {m k r : Nat} {f g : Nat → Int} (h : Nx zs m k f g r 10) (hr : r < m) (hk : k < zs.length) : Nx zs m k f g (r + 1) 0 := by
  refine ⟨h.nn, ?_, ?_⟩
  · rw [h.sum, if_pos hr, sumF]; simp; omega
  · rw [h.dot, if_pos hr, sumF]
    have e : wyD zs m k r 10 = eE zs m k r := by
      rw [eE_step (by omega)]
      unfold wyD gv
      rw [if_neg (by omega)]
    rw [e]
    simp [wyD, sumF]
theorem Nx.done {zs : List Int} {m k : Nat} {f g : Nat → Int} (h : Nx zs m k f g m 0) (hf : Nw zs m k f) : Nw zs m (k + 1) g := by
  refine ⟨h.nn, ?_, ?_⟩
  · rw [h.sum, hf.sum, Int.pow_succ]; simp; omega
  · rw [h.dot, hf.dot]; simp [wyD, sumF]
theorem pow10_bd {k : Nat} (h : k ≤ 12) : (10 : Int) ^ k ≤ 1000000000000 := by
  have : (10 : Nat) ^ k ≤ 10 ^ 12 := Nat.pow_le_pow_right (by decide) h
  have h2 : ((10 ^ k : Nat) : Int) ≤ ((10 ^ 12 : Nat) : Int) := by omega
  rw [Int.natCast_pow] at h2
  exact h2
theorem Nw.bd {zs : List Int} {m k : Nat} {f : Nat → Int} (h : Nw zs m k f) (hk : k ≤ 12) {r : Nat} (hr : r < m) : 0 ≤ f r ∧ f r ≤ 1000000000000 := by
  have h1 := at_le h.nn hr
  have h2 := pow10_bd hk
  rw [h.sum] at h1
  exact ⟨h.nn r hr, by omega⟩
theorem Nx.bd {zs : List Int} {m k r D : Nat} {f g : Nat → Int} (h : Nx zs m k f g r D) (hf : Nw zs m k f) (hk : k < 12) (hr : r < m) (hD : D < 10) {q : Nat} (hq : q < m) : 0 ≤ g q ∧ g q ≤ 20000000000000 := by
  have h1 := at_le h.nn hq
  have h2 := pow10_bd (k := k) (by omega)
  have h3 := sumF_mono (f := f) (show r ≤ m by omega) hf.nn
  have h4 := hf.bd (by omega) hr
  rw [h.sum, if_pos hr] at h1
  rw [hf.sum] at h3
  have h5 : (D : Int) * f r ≤ 10 * f r := Int.mul_le_mul_of_nonneg_right (by omega) h4.1
  exact ⟨h.nn q hq, by omega⟩

/-! ### The count at the end -/
/-- How far the count is. -/
def ctA (zs : List Int) (m : Nat) (f : Nat → Int) (r V : Nat) : Int := sumF (fun q => f q * eE zs m zs.length q) r + (if r < m then f r else 0) * sumF (eTm zs m zs.length r) V
theorem ctA_next {zs : List Int} {m r V : Nat} {f : Nat → Int} (hr : r < m) : ctA zs m f r (V + 1) = ctA zs m f r V + f r * eTm zs m zs.length r V := by
  unfold ctA
  rw [sumF, if_pos hr, Int.mul_add]
  omega
theorem ctA_row {zs : List Int} {m r : Nat} {f : Nat → Int} (hr : r < m) : ctA zs m f r 11 = ctA zs m f (r + 1) 0 := by
  unfold ctA
  rw [if_pos hr, show sumF (fun q => f q * eE zs m zs.length q) (r + 1) = sumF (fun q => f q * eE zs m zs.length q) r + f r * eE zs m zs.length r from rfl, eE_step (p := zs.length) (r := r) (Nat.le_refl _)]
  unfold gv
  rw [if_pos rfl]
  simp [sumF]
theorem ctA_all {zs : List Int} {m : Nat} {f : Nat → Int} (h : Nw zs m zs.length f) : ctA zs m f m 0 = eE zs m 0 0 := by
  unfold ctA
  rw [h.dot]
  simp [sumF]
theorem eT_end {zs : List Int} {m r V : Nat} : eTm zs m zs.length r V = if nxR zs m zs.length r V = 0 then 1 else 0 := by
  unfold eTm
  exact eE_end _ _ _
theorem nxR_end {zs : List Int} {m r V : Nat} : nxR zs m zs.length r V = (((r : Int) + (V : Int)) % (m : Int)).toNat := by
  unfold nxR
  rw [wt_end, Int.mul_one]
end Go.Proofs.Ytdhcknknmloopaa
