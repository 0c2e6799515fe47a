/- Patterns on nine points, plainly: how many there are, and the first one. No program in particular. -/
import Derived.Test.YtmpajijnpoekgaaPat
namespace Go.Proofs.Ytmpajijnpoekgaa
open Go.RowKit

/-! ### How many -/
def cntP : Nat → List Nat → Nat → Nat
  | 0, _, _ => 1
  | k + 1, ps, l => ((List.range 9).map fun p => if goP ps l p then cntP k (ps ++ [p]) p else 0).sum
/-- Those that go on with one of the first so many points. -/
def cntS (k : Nat) (ps : List Nat) (l j : Nat) : Nat := ((List.range j).map fun p => if goP ps l p then cntP k (ps ++ [p]) p else 0).sum
theorem cntS_0 (k : Nat) (ps : List Nat) (l : Nat) : cntS k ps l 0 = 0 := rfl
theorem cntS_9 (k : Nat) (ps : List Nat) (l : Nat) : cntS k ps l 9 = cntP (k + 1) ps l := by rw [cntP]; rfl
theorem cntS_yes {k : Nat} {ps : List Nat} {l j : Nat} (h : goP ps l j = true) : cntS k ps l (j + 1) = cntS k ps l j + cntP k (ps ++ [j]) j := by
  unfold cntS
  rw [List.range_succ, List.map_append, List.sum_append]
  simp [h]
theorem cntS_no {k : Nat} {ps : List Nat} {l j : Nat} (h : goP ps l j = false) : cntS k ps l (j + 1) = cntS k ps l j := by
  unfold cntS
  rw [List.range_succ, List.map_append, List.sum_append]
  simp [h]
theorem sum_bd (f : Nat → Nat) (m : Nat) : ∀ l : List Nat, (∀ p ∈ l, f p ≤ m) → (l.map f).sum ≤ l.length * m
  | [], _ => by simp
  | p :: l, h => by
    have h1 := sum_bd f m l (fun q hq => h q (by simp [hq]))
    have h2 := h p (by simp)
    rw [List.map_cons, List.sum_cons, List.length_cons, Nat.succ_mul]
    omega
theorem cntP_bd : ∀ (k : Nat) (ps : List Nat) (l : Nat), cntP k ps l ≤ 9 ^ k
  | 0, _, _ => Nat.le_refl _
  | k + 1, ps, l => by
    rw [cntP, Nat.pow_succ, Nat.mul_comm]
    have := sum_bd (fun p => if goP ps l p then cntP k (ps ++ [p]) p else 0) (9 ^ k) (List.range 9) (fun p _ => by
      show (if goP ps l p then cntP k (ps ++ [p]) p else 0) ≤ 9 ^ k
      split
      · exact cntP_bd k _ _
      · exact Nat.zero_le _)
    rw [List.length_range] at this
    exact this
theorem cntS_bd (k : Nat) (ps : List Nat) (l j : Nat) : cntS k ps l j ≤ j * 9 ^ k := by
  unfold cntS
  have := sum_bd (fun p => if goP ps l p then cntP k (ps ++ [p]) p else 0) (9 ^ k) (List.range j) (fun p _ => by
    show (if goP ps l p then cntP k (ps ++ [p]) p else 0) ≤ 9 ^ k
    split
    · exact cntP_bd k _ _
    · exact Nat.zero_le _)
  rw [List.length_range] at this
  exact this
theorem pow9 : ∀ k : Nat, k < 9 → 9 ^ k ≤ 43046721 := of_decide_eq_true (by kernel_rfl)

/-! ### Corners are alike, and so are sides -/
structure Sym (f : Nat → Nat) : Prop where
  lt : ∀ a, a < 9 → f a < 9
  inj : ∀ a, a < 9 → ∀ b, b < 9 → f a = f b → a = b
  hb : ∀ a, a < 9 → ∀ b, b < 9 → hbP (f a) (f b) = hbP a b
  mid : ∀ a, a < 9 → ∀ b, b < 9 → hbP a b = true → (f a + f b) / 2 = f ((a + b) / 2)
  perm : ((List.range 9).map f).Perm (List.range 9)
def mir (p : Nat) : Nat := p / 3 * 3 + (2 - p % 3)
def trn (p : Nat) : Nat := p % 3 * 3 + p / 3
theorem mir_sym : Sym mir where
  lt := of_decide_eq_true (by kernel_rfl)
  inj := of_decide_eq_true (by kernel_rfl)
  hb := of_decide_eq_true (by kernel_rfl)
  mid := of_decide_eq_true (by kernel_rfl)
  perm := of_decide_eq_true (by kernel_rfl)
theorem trn_sym : Sym trn where
  lt := of_decide_eq_true (by kernel_rfl)
  inj := of_decide_eq_true (by kernel_rfl)
  hb := of_decide_eq_true (by kernel_rfl)
  mid := of_decide_eq_true (by kernel_rfl)
  perm := of_decide_eq_true (by kernel_rfl)
theorem mem_sym {f : Nat → Nat} (h : Sym f) {ps : List Nat} (hp : ∀ p ∈ ps, p < 9) {q : Nat} (hq : q < 9) : decide (f q ∈ ps.map f) = decide (q ∈ ps) := by
  apply decide_eq_decide.2
  rw [List.mem_map]
  constructor
  · rintro ⟨a, ha, e⟩
    rw [← h.inj a (hp a ha) q hq e]
    exact ha
  · exact fun hm => ⟨q, hm, rfl⟩
theorem goP_sym {f : Nat → Nat} (h : Sym f) {ps : List Nat} (hp : ∀ p ∈ ps, p < 9) {l q : Nat} (hl : l < 9) (hq : q < 9) : goP (ps.map f) (f l) (f q) = goP ps l q := by
  unfold goP
  rw [mem_sym h hp hq, h.hb l hl q hq]
  cases e : hbP l q
  · rfl
  · rw [h.mid l hl q hq e, mem_sym h hp (by omega)]
theorem cntP_sym {f : Nat → Nat} (h : Sym f) : ∀ (k : Nat) (ps : List Nat) (l : Nat), (∀ p ∈ ps, p < 9) → l < 9 → cntP k (ps.map f) (f l) = cntP k ps l
  | 0, _, _, _, _ => rfl
  | k + 1, ps, l, hp, hl => by
    rw [cntP, cntP]
    have e := (h.perm.map fun p => if goP (ps.map f) (f l) p then cntP k (ps.map f ++ [p]) p else 0).sum_nat
    rw [← e, List.map_map]
    congr 1
    apply List.map_congr_left
    intro q hq
    have hq9 : q < 9 := List.mem_range.1 hq
    show (if goP (ps.map f) (f l) (f q) then cntP k (ps.map f ++ [f q]) (f q) else 0) = _
    rw [goP_sym h hp hl hq9]
    have e2 : ps.map f ++ [f q] = (ps ++ [q]).map f := by simp
    rw [e2, cntP_sym h k (ps ++ [q]) q (by
      intro p hpm
      rcases List.mem_append.1 hpm with hm | hm
      · exact hp p hm
      · simp at hm; omega) hq9]
theorem cnt1_sym {f : Nat → Nat} (h : Sym f) (k l : Nat) (hl : l < 9) : cntP k [f l] (f l) = cntP k [l] l := cntP_sym h k [l] l (by intro p hp; simp at hp; omega) hl
theorem cnt_alike (k : Nat) : cntP k [2] 2 = cntP k [0] 0 ∧ cntP k [6] 6 = cntP k [0] 0 ∧ cntP k [8] 8 = cntP k [0] 0 ∧ cntP k [3] 3 = cntP k [1] 1 ∧ cntP k [5] 5 = cntP k [1] 1 ∧ cntP k [7] 7 = cntP k [1] 1 := by
  have a1 := cnt1_sym mir_sym k 0 (by omega)
  have a2 := cnt1_sym trn_sym k 2 (by omega)
  have a3 := cnt1_sym mir_sym k 6 (by omega)
  have a4 := cnt1_sym trn_sym k 1 (by omega)
  have a5 := cnt1_sym mir_sym k 3 (by omega)
  have a6 := cnt1_sym trn_sym k 5 (by omega)
  have e1 : mir 0 = 2 := rfl
  have e2 : trn 2 = 6 := rfl
  have e3 : mir 6 = 8 := rfl
  have e4 : trn 1 = 3 := rfl
  have e5 : mir 3 = 5 := rfl
  have e6 : trn 5 = 7 := rfl
  rw [e1] at a1
  rw [e2] at a2
  rw [e3] at a3
  rw [e4] at a4
  rw [e5] at a5
  rw [e6] at a6
  exact ⟨a1, a2.trans a1, a3.trans (a2.trans a1), a4, a5.trans a4, a6.trans (a5.trans a4)⟩
/-- From the first so many points. -/
def allS (k j : Nat) : Nat := ((List.range j).map fun p => cntP k [p] p).sum
theorem allS_0 (k : Nat) : allS k 0 = 0 := rfl
theorem allS_succ (k j : Nat) : allS k (j + 1) = allS k j + cntP k [j] j := by
  unfold allS
  rw [List.range_succ, List.map_append, List.sum_append]
  simp
theorem allS_bd (k j : Nat) : allS k j ≤ j * 9 ^ k := by
  unfold allS
  have := sum_bd (fun p => cntP k [p] p) (9 ^ k) (List.range j) (fun p _ => cntP_bd k _ _)
  rw [List.length_range] at this
  exact this
theorem allS_9 (k : Nat) : allS k 9 = 4 * cntP k [0] 0 + 4 * cntP k [1] 1 + cntP k [4] 4 := by
  obtain ⟨a1, a2, a3, a4, a5, a6⟩ := cnt_alike k
  have e : allS k 9 = allS k (0 + 1 + 1 + 1 + 1 + 1 + 1 + 1 + 1 + 1) := rfl
  rw [e, allS_succ, allS_succ, allS_succ, allS_succ, allS_succ, allS_succ, allS_succ, allS_succ, allS_succ, allS_0]
  simp only [Nat.zero_add]
  rw [a1, a2, a3, a4, a5, a6]
  omega

/-! ### The first one -/
theorem len_sub : ∀ (qs ps : List Nat), qs.Nodup → (∀ q ∈ qs, q ∈ ps) → qs.length ≤ ps.length
  | [], _, _, _ => Nat.zero_le _
  | q :: qs, ps, hn, hs => by
    have hq : q ∈ ps := hs q (by simp)
    have hn2 := List.nodup_cons.1 hn
    have := len_sub qs (ps.erase q) hn2.2 (fun x hx => (List.mem_erase_of_ne (fun e => hn2.1 (by rw [← e]; exact hx))).2 (hs x (by simp [hx])))
    rw [List.length_erase_of_mem hq] at this
    have hpos : 0 < ps.length := List.length_pos_of_mem hq
    rw [List.length_cons]
    omega
theorem touch : ∀ a, a < 9 → ∀ b, b < 9 → a ≠ b → hbP a b = true → hbP a ((a + b) / 2) = false := by
  have : ∀ a, a < 9 → ∀ b, b < 9 → (decide (a = b) || !hbP a b || !hbP a ((a + b) / 2)) = true := of_decide_eq_true (by kernel_rfl)
  intro a ha b hb hne h
  have h2 := this a ha b hb
  rw [decide_eq_false hne, h] at h2
  simpa using h2
theorem ex_next {ps : List Nat} {l : Nat} (hp : ∀ p ∈ ps, p < 9) (hl : l ∈ ps) (hlen : ps.length < 9) : ∃ p, p < 9 ∧ goP ps l p = true := by
  have h1 : ∃ q, q < 9 ∧ q ∉ ps := by
    apply Classical.byContradiction
    intro hno
    have := len_sub (List.range 9) ps List.nodup_range (fun q hq => Classical.byContradiction fun hq2 => hno ⟨q, List.mem_range.1 hq, hq2⟩)
    rw [List.length_range] at this
    omega
  obtain ⟨q, hq, hqn⟩ := h1
  have hl9 := hp l hl
  cases e : hbP l q
  · exact ⟨q, hq, goP_far (decide_eq_false hqn) e⟩
  · by_cases hm : (l + q) / 2 ∈ ps
    · exact ⟨q, hq, by rw [goP_mid (decide_eq_false hqn) e]; exact decide_eq_true hm⟩
    · exact ⟨(l + q) / 2, by omega, goP_far (decide_eq_false hm) (touch l hl9 q hq (fun h => hqn (h ▸ hl)) e)⟩
/-- The first point with which one goes on. -/
def fpP (ps : List Nat) (l : Nat) : Nat := (nxP ps l 9).headD 0
theorem fpP_of {ps : List Nat} {l : Nat} (hp : ∀ p ∈ ps, p < 9) (hl : l ∈ ps) (hlen : ps.length < 9) : fpP ps l < 9 ∧ goP ps l (fpP ps l) = true ∧ (∀ q, q < fpP ps l → goP ps l q = false) ∧ 0 < (nxP ps l 9).length := by
  obtain ⟨p, hp9, hg⟩ := ex_next hp hl hlen
  have hm : p ∈ nxP ps l 9 := List.mem_filter.2 ⟨List.mem_range.2 hp9, hg⟩
  have hne : nxP ps l 9 ≠ [] := fun e => by rw [e] at hm; cases hm
  have hh : (nxP ps l 9).head? = (List.range 9).find? (fun p => goP ps l p) := List.head?_filter
  cases e : (nxP ps l 9).head? with
  | none => exact absurd (List.head?_eq_none_iff.1 e) hne
  | some x =>
    have ex : fpP ps l = x := by unfold fpP; rw [List.headD_eq_head?_getD, e]; rfl
    rw [e] at hh
    have h2 := List.find?_range_eq_some.1 hh.symm
    rw [ex]
    refine ⟨List.mem_range.1 h2.2.1, h2.1, fun q hq => ?_, List.length_pos_iff.2 hne⟩
    have := h2.2.2 q hq
    simpa using this
/-- The first pattern of so many points more. -/
def grP : Nat → List Nat → Nat → List Nat
  | 0, ps, _ => ps
  | k + 1, ps, l => grP k (ps ++ [fpP ps l]) (fpP ps l)
end Go.Proofs.Ytmpajijnpoekgaa
