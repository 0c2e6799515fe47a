/- The longest lists that two lists have in common in their order, and the first one of these. No program in particular. -/
import Derived.Test.YtmpajijnpoekgabLev
namespace Go.Proofs.Ytmpajijnpoekgab
open Go.RowKit

def lx (a b : List UInt8) : Prop := Op.bytesLess a b = true
theorem lx_irr : ∀ a, ¬ lx a a
  | [] => fun h => by cases h
  | x :: a => fun h => by
    unfold lx at h
    rw [Op.bytesLess, Bool.eq_false_iff.2 (lx_irr a)] at h
    simp at h
theorem lx_cons {x y : UInt8} {a b : List UInt8} : lx (x :: a) (y :: b) ↔ x < y ∨ (x = y ∧ lx a b) := by
  unfold lx
  rw [Op.bytesLess]
  simp only [Bool.or_eq_true, Bool.and_eq_true, decide_eq_true_eq, beq_iff_eq]
theorem lx_trans : ∀ a b c, lx a b → lx b c → lx a c
  | _, b, [], _, k => by cases b <;> cases k
  | [], _, _ :: _, _, _ => rfl
  | _ :: _, [], _ :: _, h, _ => by cases h
  | x :: a, y :: b, z :: c, h, k => by
    rw [lx_cons] at h k ⊢
    rcases h with h | ⟨rfl, h⟩
    · rcases k with k | ⟨rfl, k⟩
      · exact .inl (UInt8.lt_trans h k)
      · exact .inl h
    · rcases k with k | ⟨rfl, k⟩
      · exact .inl k
      · exact .inr ⟨rfl, lx_trans a b c h k⟩
theorem lx_asym (a b) (h : lx a b) : ¬ lx b a := fun k => lx_irr a (lx_trans _ _ _ h k)
theorem lx_tri : ∀ a b, lx a b ∨ a = b ∨ lx b a
  | [], [] => .inr (.inl rfl)
  | [], _ :: _ => .inl rfl
  | _ :: _, [] => .inr (.inr rfl)
  | x :: a, y :: b => by
    by_cases h : x < y
    · exact .inl (lx_cons.2 (.inl h))
    · by_cases h2 : y < x
      · exact .inr (.inr (lx_cons.2 (.inl h2)))
      · have e : x = y := by
          apply UInt8.toNat_inj.1
          rw [UInt8.lt_iff_toNat_lt] at h h2
          omega
        subst e
        rcases lx_tri a b with h | h | h
        · exact .inl (lx_cons.2 (.inr ⟨rfl, h⟩))
        · exact .inr (.inl (by rw [h]))
        · exact .inr (.inr (lx_cons.2 (.inr ⟨rfl, h⟩)))
/-- The longer one, or of two as long the one that is not behind the other. -/
def bet (u v : List UInt8) : List UInt8 := if v.length < u.length ∨ (u.length = v.length ∧ Op.bytesLess u v = true) then u else v
/-- The longest common list, of these the first one. -/
def com : List UInt8 → List UInt8 → List UInt8
  | [], _ => []
  | _ :: _, [] => []
  | x :: a, y :: b => if x = y then x :: com a b else bet (com a (y :: b)) (com (x :: a) b)
termination_by a b => a.length + b.length
theorem com_nil (b : List UInt8) : com [] b = [] := by rw [com]
theorem com_nil2 (a : List UInt8) : com a [] = [] := by cases a <;> rw [com]
theorem com_same (x : UInt8) (a b : List UInt8) : com (x :: a) (x :: b) = x :: com a b := by rw [com]; simp
theorem com_other {x y : UInt8} (h : x ≠ y) (a b : List UInt8) : com (x :: a) (y :: b) = bet (com a (y :: b)) (com (x :: a) b) := by rw [com]; simp [h]
/-- c is common to both, and of all that are, it is no shorter, and of those as long not behind. -/
def Fst (a b c : List UInt8) : Prop := c.Sublist a ∧ c.Sublist b ∧ ∀ d, d.Sublist a → d.Sublist b → d.length ≤ c.length ∧ (d.length = c.length → ¬ lx d c)
theorem Fst.uniq {a b c d : List UInt8} (h : Fst a b c) (k : Fst a b d) : c = d := by
  have h1 := h.2.2 d k.1 k.2.1
  have h2 := k.2.2 c h.1 h.2.1
  have e : c.length = d.length := by omega
  rcases lx_tri c d with t | t | t
  · exact absurd t (h2.2 e)
  · exact t
  · exact absurd t (h1.2 e.symm)
theorem bet_or (u v : List UInt8) : bet u v = u ∨ bet u v = v := by
  unfold bet
  split
  · exact .inl rfl
  · exact .inr rfl
theorem bet_best (u v : List UInt8) : u.length ≤ (bet u v).length ∧ v.length ≤ (bet u v).length ∧ (u.length = (bet u v).length → ¬ lx u (bet u v)) ∧ (v.length = (bet u v).length → ¬ lx v (bet u v)) := by
  unfold bet
  split
  · rename_i h
    rcases h with h | h
    · exact ⟨Nat.le_refl _, by omega, fun _ => lx_irr _, fun e => by omega⟩
    · exact ⟨Nat.le_refl _, by omega, fun _ => lx_irr _, fun _ k => lx_asym _ _ h.2 k⟩
  · rename_i h
    refine ⟨by omega, Nat.le_refl _, fun e k => h (.inr ⟨e, k⟩), fun _ => lx_irr _⟩
theorem sub_head {z x : UInt8} {d a : List UInt8} (h : (z :: d).Sublist (x :: a)) : (z = x ∧ d.Sublist a) ∨ (z :: d).Sublist a := by
  cases h with
  | cons _ h => exact .inr h
  | cons_cons _ h => exact .inl ⟨rfl, h⟩
theorem com_fst (n : Nat) : ∀ a b : List UInt8, a.length + b.length ≤ n → Fst a b (com a b) := by
  induction n with
  | zero =>
    intro a b h
    obtain rfl : a = [] := List.length_eq_zero_iff.1 (by omega)
    obtain rfl : b = [] := List.length_eq_zero_iff.1 (by omega)
    rw [com_nil]
    refine ⟨List.Sublist.refl _, List.Sublist.refl _, fun d h1 _ => ?_⟩
    have := List.sublist_nil.1 h1
    subst this
    exact ⟨Nat.le_refl _, fun _ => lx_irr _⟩
  | succ n ih =>
    intro a b h
    cases a with
    | nil =>
      rw [com_nil]
      refine ⟨List.Sublist.refl _, List.nil_sublist _, fun d h1 _ => ?_⟩
      have := List.sublist_nil.1 h1
      subst this
      exact ⟨Nat.le_refl _, fun _ => lx_irr _⟩
    | cons x a =>
      cases b with
      | nil =>
        rw [com_nil2]
        refine ⟨List.nil_sublist _, List.Sublist.refl _, fun d _ h1 => ?_⟩
        have := List.sublist_nil.1 h1
        subst this
        exact ⟨Nat.le_refl _, fun _ => lx_irr _⟩
      | cons y b =>
        simp only [List.length_cons] at h
        by_cases e : x = y
        · subst e
          rw [com_same]
          obtain ⟨i1, i2, i3⟩ := ih a b (by omega)
          refine ⟨i1.cons_cons x, i2.cons_cons x, fun d h1 h2 => ?_⟩
          cases d with
          | nil => exact ⟨Nat.zero_le _, fun e => by simp at e⟩
          | cons z d =>
            have hz : (z = x ∧ d.Sublist a ∧ d.Sublist b) ∨ ((z :: d).Sublist a ∧ (z :: d).Sublist b) := by
              rcases sub_head h1 with ⟨e1, s1⟩ | s1
              · rcases sub_head h2 with ⟨_, s2⟩ | s2
                · exact .inl ⟨e1, s1, s2⟩
                · exact .inl ⟨e1, s1, (List.sublist_cons_self z d).trans s2⟩
              · rcases sub_head h2 with ⟨e2, s2⟩ | s2
                · exact .inl ⟨e2, (List.sublist_cons_self z d).trans s1, s2⟩
                · exact .inr ⟨s1, s2⟩
            rcases hz with ⟨rfl, s1, s2⟩ | ⟨s1, s2⟩
            · have := i3 d s1 s2
              simp only [List.length_cons]
              refine ⟨by omega, fun el k => ?_⟩
              rw [lx_cons] at k
              rcases k with k | ⟨_, k⟩
              · exact absurd k (by simp)
              · exact this.2 (by omega) k
            · have := (i3 _ s1 s2).1
              simp only [List.length_cons] at this ⊢
              exact ⟨by omega, fun e => by omega⟩
        · rw [com_other e]
          have j1 := ih a (y :: b) (by simp only [List.length_cons]; omega)
          have j2 := ih (x :: a) b (by simp only [List.length_cons]; omega)
          obtain ⟨b1, b2, b3, b4⟩ := bet_best (com a (y :: b)) (com (x :: a) b)
          have hs : (bet (com a (y :: b)) (com (x :: a) b)).Sublist (x :: a) ∧ (bet (com a (y :: b)) (com (x :: a) b)).Sublist (y :: b) := by
            rcases bet_or (com a (y :: b)) (com (x :: a) b) with e | e
            · rw [e]; exact ⟨j1.1.cons x, j1.2.1⟩
            · rw [e]; exact ⟨j2.1, j2.2.1.cons y⟩
          refine ⟨hs.1, hs.2, fun d h1 h2 => ?_⟩
          have hd : (d.Sublist a ∧ d.Sublist (y :: b)) ∨ (d.Sublist (x :: a) ∧ d.Sublist b) := by
            cases d with
            | nil => exact .inl ⟨List.nil_sublist _, List.nil_sublist _⟩
            | cons z d =>
              rcases sub_head h1 with ⟨e1, s1⟩ | s1
              · rcases sub_head h2 with ⟨e2, s2⟩ | s2
                · exact absurd (e1.symm.trans e2) e
                · exact .inr ⟨h1, s2⟩
              · exact .inl ⟨s1, h2⟩
          rcases hd with ⟨s1, s2⟩ | ⟨s1, s2⟩
          · have k := j1.2.2 d s1 s2
            refine ⟨by omega, fun el hl => ?_⟩
            have e1 : d.length = (com a (y :: b)).length := by omega
            rcases lx_tri (com a (y :: b)) d with t | t | t
            · exact b3 (by omega) (lx_trans _ _ _ t hl)
            · exact b3 (by omega) (t ▸ hl)
            · exact k.2 e1 t
          · have k := j2.2.2 d s1 s2
            refine ⟨by omega, fun el hl => ?_⟩
            have e1 : d.length = (com (x :: a) b).length := by omega
            rcases lx_tri (com (x :: a) b) d with t | t | t
            · exact b4 (by omega) (lx_trans _ _ _ t hl)
            · exact b4 (by omega) (t ▸ hl)
            · exact k.2 e1 t
/-- How many signs two lists have in common, in the model's way. -/
def lcs : List UInt8 → List UInt8 → Nat
  | [], _ => 0
  | _ :: _, [] => 0
  | x :: a, y :: b => if x = y then max (max (lcs a (y :: b)) (lcs (x :: a) b)) (lcs a b + 1) else max (lcs a (y :: b)) (lcs (x :: a) b)
termination_by a b => a.length + b.length
theorem lcs_nil (b : List UInt8) : lcs [] b = 0 := by rw [lcs]
theorem lcs_nil2 (a : List UInt8) : lcs a [] = 0 := by cases a <;> rw [lcs]
theorem lcs_cons (x y : UInt8) (a b : List UInt8) : lcs (x :: a) (y :: b) = if x = y then max (max (lcs a (y :: b)) (lcs (x :: a) b)) (lcs a b + 1) else max (lcs a (y :: b)) (lcs (x :: a) b) := by rw [lcs]
theorem bet_len (u v : List UInt8) : (bet u v).length = max u.length v.length := by
  have := bet_best u v
  rcases bet_or u v with e | e <;> rw [e] at this ⊢ <;> omega
theorem lcs_com (n : Nat) : ∀ a b : List UInt8, a.length + b.length ≤ n → lcs a b = (com a b).length := by
  induction n with
  | zero =>
    intro a b h
    obtain rfl : a = [] := List.length_eq_zero_iff.1 (by omega)
    rw [lcs_nil, com_nil]; rfl
  | succ n ih =>
    intro a b h
    cases a with
    | nil => rw [lcs_nil, com_nil]; rfl
    | cons x a =>
      cases b with
      | nil => rw [lcs_nil2, com_nil2]; rfl
      | cons y b =>
        simp only [List.length_cons] at h
        rw [lcs_cons, ih a (y :: b) (by simp only [List.length_cons]; omega), ih (x :: a) b (by simp only [List.length_cons]; omega), ih a b (by omega)]
        by_cases e : x = y
        · subst e
          rw [if_pos rfl, com_same]
          have f1 := com_fst _ a (x :: b) (Nat.le_refl _)
          have f2 := com_fst _ (x :: a) b (Nat.le_refl _)
          have f := com_fst _ (x :: a) (x :: b) (Nat.le_refl _)
          have k1 := (f.2.2 _ (f1.1.cons x) f1.2.1).1
          have k2 := (f.2.2 _ f2.1 (f2.2.1.cons x)).1
          rw [com_same] at k1 k2
          simp only [List.length_cons] at k1 k2 ⊢
          omega
        · rw [if_neg e, com_other e, bet_len]
/-- What is behind the next place of a sign. -/
def aft (z : UInt8) : List UInt8 → Option (List UInt8)
  | [] => none
  | x :: a => if x = z then some a else aft z a
theorem aft_of {z : UInt8} {d : List UInt8} : ∀ {a : List UInt8}, (z :: d).Sublist a → ∃ a', aft z a = some a' ∧ d.Sublist a'
  | [], h => by cases h
  | x :: a, h => by
    by_cases e : x = z
    · refine ⟨a, by rw [aft, if_pos e], ?_⟩
      rcases sub_head h with ⟨_, s⟩ | s
      · exact s
      · exact (List.sublist_cons_self z d).trans s
    · rcases sub_head h with ⟨e2, _⟩ | s
      · exact absurd e2.symm e
      · obtain ⟨a', h1, h2⟩ := aft_of s
        exact ⟨a', by rw [aft, if_neg e]; exact h1, h2⟩
theorem aft_to {z : UInt8} {d a' : List UInt8} : ∀ {a : List UInt8}, aft z a = some a' → d.Sublist a' → (z :: d).Sublist a
  | [], h, _ => by cases h
  | x :: a, h, k => by
    rw [aft] at h
    by_cases e : x = z
    · rw [if_pos e] at h
      injection h with h
      subst h; subst e
      exact k.cons_cons x
    · rw [if_neg e] at h
      exact (aft_to h k).cons x
theorem com_fst' (a b : List UInt8) : Fst a b (com a b) := com_fst _ a b (Nat.le_refl _)
theorem lcs_com' (a b : List UInt8) : lcs a b = (com a b).length := lcs_com _ a b (Nat.le_refl _)
theorem com_step {a b : List UInt8} {z : UInt8} {d : List UInt8} (h : com a b = z :: d) : ∃ a' b', aft z a = some a' ∧ aft z b = some b' ∧ lcs a' b' + 1 = lcs a b ∧ com a' b' = d ∧ ∀ L, L < z → ∀ a'' b'', aft L a = some a'' → aft L b = some b'' → lcs a'' b'' + 1 ≠ lcs a b := by
  have hf := com_fst' a b
  rw [h] at hf
  obtain ⟨s1, s2, s3⟩ := hf
  obtain ⟨a', e1, t1⟩ := aft_of s1
  obtain ⟨b', e2, t2⟩ := aft_of s2
  have g := com_fst' a' b'
  have u := s3 (z :: com a' b') (aft_to e1 g.1) (aft_to e2 g.2.1)
  have v := g.2.2 d t1 t2
  simp only [List.length_cons] at u
  have hl : (com a' b').length = d.length := by omega
  have hc : com a' b' = d := by
    rcases lx_tri (com a' b') d with t | t | t
    · exact absurd (lx_cons.2 (.inr ⟨rfl, t⟩)) (u.2 (by omega))
    · exact t
    · exact absurd t (v.2 hl.symm)
  refine ⟨a', b', e1, e2, ?_, hc, fun L hL a'' b'' k1 k2 ke => ?_⟩
  · rw [lcs_com', lcs_com', h, hl]; rfl
  · have g2 := com_fst' a'' b''
    have u2 := s3 (L :: com a'' b'') (aft_to k1 g2.1) (aft_to k2 g2.2.1)
    rw [lcs_com', lcs_com', h] at ke
    simp only [List.length_cons] at u2 ke
    exact u2.2 (by omega) (lx_cons.2 (.inl hL))
end Go.Proofs.Ytmpajijnpoekgab
