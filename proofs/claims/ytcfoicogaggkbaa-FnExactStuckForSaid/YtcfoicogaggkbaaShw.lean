/- What is shown by keys that are dead or stick, and back. No program in particular. -/
import Derived.Test.YtcfoicogaggkbaaByR
namespace Go.Proofs.Ytcfoicogaggkbaa
open Go.RowKit

/-- What is shown, each sign as often as told. -/
def shw (f : UInt8 → Nat) (l : List UInt8) : List UInt8 := l.flatMap fun c => List.replicate (f c) c
theorem shw_nil (f : UInt8 → Nat) : shw f [] = [] := rfl
theorem shw_cons (f : UInt8 → Nat) (c : UInt8) (l : List UInt8) : shw f (c :: l) = List.replicate (f c) c ++ shw f l := by simp [shw]
theorem shw_snoc (f : UInt8 → Nat) (l : List UInt8) (c : UInt8) : shw f (l ++ [c]) = shw f l ++ List.replicate (f c) c := by simp [shw]
theorem shw_count (f : UInt8 → Nat) (c : UInt8) : ∀ l : List UInt8, (shw f l).count c = f c * l.count c
  | [] => by simp [shw]
  | d :: l => by
    rw [shw_cons, List.count_append, shw_count f c l, List.count_replicate, List.count_cons]
    by_cases e : d = c
    · subst e; simp; rw [Nat.mul_add]; omega
    · simp [e]
theorem shw_congr {f g : UInt8 → Nat} : ∀ {l : List UInt8}, (∀ c ∈ l, f c = g c) → shw f l = shw g l
  | [], _ => rfl
  | d :: l, h => by rw [shw_cons, shw_cons, h d (by simp), shw_congr (fun c hc => h c (by simp [hc]))]
theorem shw_len (f : UInt8 → Nat) (h : ∀ c, f c ≤ 2) : ∀ l : List UInt8, (shw f l).length ≤ 2 * l.length
  | [] => by simp [shw]
  | d :: l => by
    rw [shw_cons, List.length_append, List.length_replicate]
    have := shw_len f h l
    have := h d
    simp only [List.length_cons]
    omega
/-- The text from what is shown: a sign that sticks stands for two. -/
def un (st : UInt8 → Bool) : List UInt8 → List UInt8
  | [] => []
  | c :: l => c :: un st (l.drop (if st c then 1 else 0))
termination_by l => l.length
decreasing_by simp [List.length_drop]; omega
/-- The same, where a sign that sticks must stand there twice. -/
def uns (st : UInt8 → Bool) : List UInt8 → Option (List UInt8)
  | [] => some []
  | c :: l => if st c then (match l with
    | [] => none
    | d :: l' => if d = c then (uns st l').map (c :: ·) else none) else (uns st l).map (c :: ·)
theorem uns_no {st : UInt8 → Bool} {c : UInt8} (h : ¬ st c = true) (l : List UInt8) : uns st (c :: l) = (uns st l).map (c :: ·) := by
  cases l with
  | nil => rw [uns.eq_def]; simp [h]
  | cons d l => rw [uns.eq_def]; simp [h]
theorem uns_one {st : UInt8 → Bool} {c : UInt8} (h : st c = true) : uns st [c] = none := by rw [uns.eq_def]; simp [h]
theorem uns_two {st : UInt8 → Bool} {c : UInt8} (h : st c = true) (d : UInt8) (l : List UInt8) : uns st (c :: d :: l) = if d = c then (uns st l).map (c :: ·) else none := by rw [uns.eq_def]; simp [h]
def twice (st : UInt8 → Bool) (c : UInt8) : Nat := if st c then 2 else 1
theorem un_uns (st : UInt8 → Bool) (n : Nat) : ∀ l : List UInt8, l.length ≤ n → (shw (twice st) (un st l) = l → uns st l = some (un st l)) ∧ (∀ t, uns st l = some t → shw (twice st) t = l ∧ t = un st l) := by
  induction n with
  | zero =>
    intro l h
    obtain rfl : l = [] := List.length_eq_zero_iff.1 (by omega)
    rw [un, uns]
    exact ⟨fun _ => rfl, fun t e => by cases e; exact ⟨rfl, rfl⟩⟩
  | succ n ih =>
    intro l h
    cases l with
    | nil =>
      rw [un, uns]
      exact ⟨fun _ => rfl, fun t e => by cases e; exact ⟨rfl, rfl⟩⟩
    | cons c l =>
      simp only [List.length_cons] at h
      rw [un, shw_cons]
      unfold twice
      by_cases hs : st c = true
      · rw [if_pos hs, if_pos hs]
        cases l with
        | nil =>
          rw [uns_one hs]
          refine ⟨fun e => ?_, fun t e => by cases e⟩
          have := congrArg List.length e
          simp at this
        | cons d l =>
          simp only [List.length_cons] at h
          have := ih l (by omega)
          rw [uns_two hs]
          simp only [List.drop_succ_cons, List.drop_zero]
          constructor
          · intro e
            have e1 : c = d ∧ shw (twice st) (un st l) = l := by
              simp only [List.replicate, List.cons_append, List.nil_append, List.cons.injEq, true_and] at e
              exact e
            obtain ⟨rfl, e1⟩ := e1
            rw [if_pos rfl, this.1 e1]
            rfl
          · intro t e
            by_cases hd : d = c
            · subst hd
              rw [if_pos rfl] at e
              obtain ⟨t', h1, rfl⟩ := Option.map_eq_some_iff.1 e
              have := this.2 t' h1
              rw [shw_cons]
              refine ⟨?_, by rw [this.2]⟩
              have k := this.1
              unfold twice at k
              rw [show (fun c => if st c = true then 2 else 1) = twice st from rfl] at k ⊢
              rw [k]
              simp [hs]
            · rw [if_neg hd] at e; cases e
      · have hs' : st c = false := by simpa using hs
        rw [if_neg hs, if_neg hs]
        have := ih l (by omega)
        rw [uns_no hs]
        simp only [List.drop_zero]
        constructor
        · intro e
          have e1 : shw (twice st) (un st l) = l := by
            simp only [List.replicate, List.cons_append, List.nil_append, List.cons.injEq, true_and] at e
            exact e
          rw [this.1 e1]
          rfl
        · intro t e
          obtain ⟨t', h1, rfl⟩ := Option.map_eq_some_iff.1 e
          have := this.2 t' h1
          rw [shw_cons]
          refine ⟨?_, by rw [this.2]⟩
          have k := this.1
          unfold twice at k
          rw [show (fun c => if st c = true then 2 else 1) = twice st from rfl] at k ⊢
          rw [k]
          simp [hs']
/-- How often each key shows its letter: by the numbers of both texts, as the program reckons, and as its model tells. -/
def fI (t s : List UInt8) (c : UInt8) : Nat := if t.count c = 0 then 1 else min (s.count c / t.count c) 2
def dB (t s : List UInt8) (c : UInt8) : Bool := decide (0 < t.count c) && decide (s.count c = 0)
def sB (t s : List UInt8) (c : UInt8) : Bool := decide (0 < t.count c) && decide (s.count c = 2 * t.count c)
def by2 (d s : UInt8 → Bool) (c : UInt8) : Nat := if d c then 0 else if s c then 2 else 1
theorem fI_le (t s : List UInt8) (c : UInt8) : fI t s c ≤ 2 := by unfold fI; split <;> omega
theorem fI_mul {t s : List UInt8} {c : UInt8} {f : Nat} (h0 : t.count c ≠ 0) (h : s.count c = f * t.count c) (hf : f ≤ 2) : fI t s c = f := by
  unfold fI
  rw [if_neg h0, h, Nat.mul_div_cancel _ (by omega)]
  omega
theorem cnt_pos {t : List UInt8} {c : UInt8} (h : c ∈ t) : 0 < t.count c := List.count_pos_iff.2 h
theorem dB_mul {t s : List UInt8} {c : UInt8} {f : Nat} (h0 : 0 < t.count c) (h : s.count c = f * t.count c) : dB t s c = decide (f = 0) := by
  unfold dB
  rw [decide_eq_true h0, Bool.true_and, h]
  refine decide_eq_decide.2 ⟨fun e => ?_, fun e => by rw [e, Nat.zero_mul]⟩
  rcases Nat.mul_eq_zero.1 e with e | e
  · exact e
  · omega
theorem sB_mul {t s : List UInt8} {c : UInt8} {f : Nat} (h0 : 0 < t.count c) (h : s.count c = f * t.count c) : sB t s c = decide (f = 2) := by
  unfold sB
  rw [decide_eq_true h0, Bool.true_and, h]
  exact decide_eq_decide.2 ⟨fun e => Nat.eq_of_mul_eq_mul_right h0 e, fun e => by rw [e]⟩
theorem shown_mul {t s : List UInt8} {f : UInt8 → Nat} (h : shw f t = s) (c : UInt8) : s.count c = f c * t.count c := by rw [← h, shw_count]
theorem by2_le (d s : UInt8 → Bool) (c : UInt8) : by2 d s c ≤ 2 := by unfold by2; repeat' split
                                                                      all_goals omega
/-- If some keys can show it so, then these. -/
theorem fI_of {t s : List UInt8} {f : UInt8 → Nat} (hf : ∀ c, f c ≤ 2) (h : shw f t = s) : ∀ c ∈ t, fI t s c = f c := fun c hc => fI_mul (by have := cnt_pos hc; omega) (shown_mul h c) (hf c)
theorem tell_of {t s : List UInt8} {f : UInt8 → Nat} (hf : ∀ c, f c ≤ 2) (h : shw f t = s) : ∀ c ∈ t, by2 (dB t s) (sB t s) c = f c := fun c hc => by
  have h0 := cnt_pos hc
  have hm := shown_mul h c
  have := hf c
  unfold by2
  rw [dB_mul h0 hm, sB_mul h0 hm]
  rcases (by omega : f c = 0 ∨ f c = 1 ∨ f c = 2) with e | e | e <;> rw [e] <;> rfl
theorem can_iff (t s : List UInt8) : shw (fI t s) t = s ↔ shw (by2 (dB t s) (sB t s)) t = s := by
  constructor
  · intro h
    rw [shw_congr (tell_of (fI_le t s) h)]; exact h
  · intro h
    rw [shw_congr (fI_of (by2_le _ _) h)]; exact h
theorem fI_out {t s : List UInt8} {c : UInt8} (h : c ∉ t) : fI t s c = 1 := by unfold fI; rw [if_pos (List.count_eq_zero.2 h)]
theorem dB_out {t s : List UInt8} {c : UInt8} (h : c ∉ t) : dB t s c = false := by unfold dB; rw [List.count_eq_zero.2 h]; rfl
theorem sB_out {t s : List UInt8} {c : UInt8} (h : c ∉ t) : sB t s c = false := by unfold sB; rw [List.count_eq_zero.2 h]; rfl
def nob (_ : UInt8) : Bool := false
/-- Just dead ones. -/
theorem dead_iff (t s : List UInt8) : (shw (fI t s) t = s ∧ ∀ c, fI t s c ≠ 2) ↔ shw (by2 (dB t s) nob) t = s := by
  constructor
  · rintro ⟨h, h2⟩
    have e : ∀ c ∈ t, by2 (dB t s) nob c = fI t s c := fun c hc => by
      rw [← tell_of (fI_le t s) h c hc]
      have h3 := tell_of (fI_le t s) h c hc
      have h4 := h2 c
      unfold by2 at h3 ⊢
      split
      · rfl
      · rename_i hd
        rw [if_neg hd] at h3
        split
        · rename_i hs; cases hs
        · split
          · rename_i hs; rw [if_pos hs] at h3; exact absurd h3.symm h4
          · rfl
    rw [shw_congr e]; exact h
  · intro h
    have e := fI_of (by2_le _ _) h
    refine ⟨by rw [shw_congr e]; exact h, fun c hc2 => ?_⟩
    by_cases hc : c ∈ t
    · rw [e c hc] at hc2
      unfold by2 nob at hc2
      split at hc2
      · cases hc2
      · simp at hc2
    · rw [fI_out hc] at hc2; cases hc2
theorem dead_set {t s : List UInt8} (h : shw (fI t s) t = s) (c : UInt8) : decide (fI t s c = 0) = dB t s c := by
  by_cases hc : c ∈ t
  · have h0 := cnt_pos hc
    rw [dB_mul h0 (shown_mul h c)]
  · rw [fI_out hc, dB_out hc]; rfl
/-- Just ones that stick. -/
theorem stuck_iff (t s : List UInt8) : (shw (fI t s) t = s ∧ ∀ c, fI t s c ≠ 0) ↔ shw (by2 nob (sB t s)) t = s := by
  constructor
  · rintro ⟨h, h2⟩
    have e : ∀ c ∈ t, by2 nob (sB t s) c = fI t s c := fun c hc => by
      have h3 := tell_of (fI_le t s) h c hc
      have h4 := h2 c
      rw [← h3]
      unfold by2 at h3 ⊢
      rw [if_neg (by unfold nob; simp)]
      split
      · rename_i hs
        split
        · rename_i hd
          rw [if_pos hd] at h3
          exact absurd h3.symm h4
        · rfl
      · rename_i hs
        split
        · rename_i hd
          rw [if_pos hd] at h3
          exact absurd h3.symm h4
        · rfl
    rw [shw_congr e]; exact h
  · intro h
    have e := fI_of (by2_le _ _) h
    refine ⟨by rw [shw_congr e]; exact h, fun c hc2 => ?_⟩
    by_cases hc : c ∈ t
    · rw [e c hc] at hc2
      unfold by2 nob at hc2
      rw [if_neg (by simp)] at hc2
      split at hc2 <;> cases hc2
    · rw [fI_out hc] at hc2; cases hc2
theorem stuck_set {t s : List UInt8} (h : shw (fI t s) t = s) (c : UInt8) : decide (fI t s c = 2) = sB t s c := by
  by_cases hc : c ∈ t
  · have h0 := cnt_pos hc
    rw [sB_mul h0 (shown_mul h c)]
  · rw [fI_out hc, sB_out hc]; rfl
end Go.Proofs.Ytcfoicogaggkbaa
