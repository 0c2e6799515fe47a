/- The number of a rank: the program's side. No conditions. -/
import Derived.Test.YtmpajijnpoekgacRank
import Derived.Test.YtmpajijnpoekgacNk
namespace Go.Proofs.Ytmpajijnpoekgac
open Go.RowKit

/-- The first digit whose walks reach beyond so many, and how many are left behind those ahead of it. -/
def pk (W : Nat → Nat) : List Nat → Nat → Nat × Nat
  | [], b => (0, b)
  | d :: l, b => if b < W d then (d, b) else pk W l (b - W d)
theorem sumL_cons (W : Nat → Nat) (d : Nat) (l : List Nat) : sumL W (d :: l) = W d + sumL W l := by simp [sumL]
theorem pk_spec (W : Nat → Nat) : ∀ (l : List Nat) (b : Nat), b < sumL W l → ∃ x, ∃ hx : x < l.length, sumL W (l.take x) ≤ b ∧ b < sumL W (l.take x) + W l[x] ∧ pk W l b = (l[x], b - sumL W (l.take x))
  | [], b, h => by simp [sumL] at h
  | d :: l, b, h => by
    by_cases hd : b < W d
    · refine ⟨0, by simp, by simp [sumL], by simpa [sumL] using hd, ?_⟩
      rw [pk, if_pos hd]
      simp [sumL]
    · rw [sumL_cons] at h
      obtain ⟨x, hx, h1, h2, h3⟩ := pk_spec W l (b - W d) (by omega)
      refine ⟨x + 1, by simp; omega, ?_, ?_, ?_⟩
      · rw [List.take_succ_cons, sumL_cons]; omega
      · rw [List.take_succ_cons, sumL_cons, List.getElem_cons_succ]; omega
      · rw [pk, if_neg hd, h3, List.take_succ_cons, sumL_cons, List.getElem_cons_succ]
        congr 1
        omega
theorem sumL_mono_take (W : Nat → Nat) (l : List Nat) (j : Nat) : ∀ x, j ≤ x → x ≤ l.length → sumL W (l.take j) ≤ sumL W (l.take x) := by
  intro x hjx hx
  induction x with
  | zero => obtain rfl : j = 0 := by omega
            exact Nat.le_refl _
  | succ x ih =>
    by_cases e : j = x + 1
    · rw [e]; exact Nat.le_refl _
    · have := ih (by omega) (by omega)
      rw [sumL_take W l x (by omega)]
      omega
/-- The digits of the walk of a rank, behind the first one. -/
def nor (p : Nat) : Nat → Nat → Nat → List Nat
  | 0, _, _ => []
  | t + 1, a, b => (pk (wyF p (eF 0) t) (nx p a) b).1 :: nor p t (pk (wyF p (eF 0) t) (nx p a) b).1 (pk (wyF p (eF 0) t) (nx p a) b).2
theorem nor_step {p t a b : Nat} (h : b < wyF p (eF 0) (t + 1) a) : ∃ ds : List Nat, ds = nx p a ∧ ∃ x, ∃ hx : x < ds.length, sumL (wyF p (eF 0) t) (ds.take x) ≤ b ∧ b - sumL (wyF p (eF 0) t) (ds.take x) < wyF p (eF 0) t ds[x] ∧ nor p (t + 1) a b = ds[x] :: nor p t ds[x] (b - sumL (wyF p (eF 0) t) (ds.take x)) ∧ ∀ j (hj : j < x), sumL (wyF p (eF 0) t) (ds.take j) + wyF p (eF 0) t (ds[j]'(by omega)) ≤ b := by
  refine ⟨nx p a, rfl, ?_⟩
  have h1 : b < sumL (wyF p (eF 0) t) (nx p a) := Nat.lt_of_lt_of_le h (by rw [wyF]; exact Nat.min_le_left _ _)
  obtain ⟨x, hx, h2, h3, h4⟩ := pk_spec _ _ _ h1
  refine ⟨x, hx, h2, by omega, by rw [nor, h4], fun j hj => ?_⟩
  have := sumL_mono_take (wyF p (eF 0) t) (nx p a) (j + 1) x (by omega) (by omega)
  rw [sumL_take _ _ j (by omega)] at this
  omega
theorem nor_len (p : Nat) : ∀ t a b, (nor p t a b).length = t
  | 0, _, _ => rfl
  | t + 1, a, b => by rw [nor, List.length_cons, nor_len]
def nuOk (s t : ByteArray) (n r : Int) : Bool := cnOk s t n && (decide (0 ≤ r) && decide (r < cnV s t n))
def nuV (s t : ByteArray) (n r : Int) : ByteArray := if nuOk s t n r then dT (dg1 t :: nor (pcI s) (n - 1).toNat (dg1 t) r.toNat) else ⟨#[]⟩
theorem nu_no {s t : ByteArray} {n r : Int} (h : nuOk s t n r = false) : nuV s t n r = ⟨#[]⟩ := by unfold nuV; rw [h]; rfl
theorem nuOk_c {s t : ByteArray} {n r : Int} (h : cnOk s t n = false) : nuOk s t n r = false := by unfold nuOk; rw [h]; rfl
theorem nuOk_l {s t : ByteArray} {n r : Int} (h : r < 0) : nuOk s t n r = false := by unfold nuOk; rw [decide_eq_false (by omega : ¬ 0 ≤ r)]; simp
theorem nuOk_h {s t : ByteArray} {n r : Int} (h : ¬ r < cnV s t n) : nuOk s t n r = false := by unfold nuOk; rw [decide_eq_false h]; simp
theorem nuOk_y {s t : ByteArray} {n r : Int} (h : cnOk s t n = true) (h1 : 0 ≤ r) (h2 : r < cnV s t n) : nuOk s t n r = true := by unfold nuOk; rw [h, decide_eq_true h1, decide_eq_true h2]; rfl
/-- What holds of the arguments when there is such a number. -/
theorem nu_parts {s t : ByteArray} {n r : Int} (h : cnOk s t n = true) (h1 : 0 ≤ r) (h2 : r < cnV s t n) : ∃ p m k : Nat, s = pcT p ∧ p < 4 ∧ n = ((m + 1 : Nat) : Int) ∧ m < 40 ∧ r = (k : Int) ∧ isWk t = true ∧ t.size = 1 ∧ dg1 t < 10 ∧ k < wyF p (eF 0) m (dg1 t) ∧ nuV s t n r = dT (dg1 t :: nor p m (dg1 t) k) := by
  have hg : cnG s t n = true := by unfold cnOk at h; rw [Bool.and_eq_true] at h; exact h.1
  obtain ⟨e1, e2⟩ := cn_yes hg
  rw [e2] at h
  have hc : cnC s t n ≤ mxN := of_decide_eq_true h
  have HY := nuOk_y (r := r) (e2.trans h) h1 h2
  rw [e1, (tell_yes hc).1] at h2
  unfold cnG at hg
  rw [Bool.and_eq_true] at hg
  obtain ⟨a1, a2, a3⟩ := isAsk_parts hg.1
  obtain ⟨p, hp, rfl⟩ := isP_yes a1
  obtain ⟨n1, n2⟩ := inW_bd hg.2
  obtain ⟨d1, _⟩ := dg1_of a2 a3
  obtain ⟨m, hm⟩ : ∃ m : Nat, n = ((m + 1 : Nat) : Int) := ⟨(n - 1).toNat, by omega⟩
  obtain ⟨k, rfl⟩ : ∃ k : Nat, r = (k : Int) := ⟨r.toNat, by omega⟩
  have hmm : (n - 1).toNat = m := by omega
  refine ⟨p, m, k, rfl, hp, hm, by omega, rfl, a2, a3, d1, ?_, ?_⟩
  · unfold cnC at h2
    rw [hmm, pcI_T hp] at h2
    omega
  · unfold nuV
    rw [HY, hmm, pcI_T hp]
    rfl
theorem dgs_one {t : ByteArray} (h : t.size = 1) : dgs t = [dg1 t] := by
  have hl := dgs_len t
  rw [h] at hl
  obtain ⟨x, hx⟩ := List.length_eq_one_iff.1 hl
  have h0 := dgs_at t 0 (by omega)
  simp only [hx, List.getElem_cons_zero] at h0
  rw [hx, h0]
  rfl
end Go.Proofs.Ytmpajijnpoekgac
