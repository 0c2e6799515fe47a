/- The steps of one thumb: the program's closure and the model's sum. No conditions. -/
import Derived.Test.YtdhcknknmloopabSeq
import Derived.Lib.OthersKept
namespace Go.Proofs.Ytdhcknknmloopab
open Go.RowKit

/-- The steps from a place along a path. -/
def wlk (c : Bool) (p : Nat) : List Nat → Nat
  | [] => 0
  | q :: l => far c p q + wlk c q l
/-- The place before the step with a number. -/
def bef (p : Nat) (ps : List Nat) (k : Nat) : Nat := (p :: ps).getD k 0
theorem bef_zero (p : Nat) (ps : List Nat) : bef p ps 0 = p := rfl
theorem bef_succ (p : Nat) (ps : List Nat) (k : Nat) (h : k < ps.length) : bef p ps (k + 1) = ps[k] := by
  unfold bef
  rw [List.getD_cons_succ, List.getD_eq_getElem?_getD, List.getElem?_eq_getElem h]; rfl
theorem bef_lt {p : Nat} {ps : List Nat} (hp : p < 12) (h : ∀ q ∈ ps, q < 12) (k : Nat) : bef p ps k < 12 := by
  unfold bef
  rw [List.getD_eq_getElem?_getD]
  by_cases hk : k < (p :: ps).length
  · rw [List.getElem?_eq_getElem hk]
    have := List.getElem_mem hk
    rcases List.mem_cons.1 this with e | e
    · show (p :: ps)[k] < 12
      omega
    · exact h _ e
  · rw [List.getElem?_eq_none (by omega)]; decide
theorem wlk_take (c : Bool) : ∀ (ps : List Nat) (p : Nat) (k : Nat) (h : k < ps.length), wlk c p (ps.take (k + 1)) = wlk c p (ps.take k) + far c (bef p ps k) ps[k]
  | [], p, k, h => absurd h (Nat.not_lt_zero _)
  | q :: l, p, 0, _ => by simp [wlk, bef]
  | q :: l, p, k + 1, h => by
    have h2 : k < l.length := by simpa using h
    have := wlk_take c l q k h2
    rw [List.take_succ_cons, List.take_succ_cons]
    show far c p q + wlk c q (l.take (k + 1)) = far c p q + wlk c q (l.take k) + far c (bef p (q :: l) (k + 1)) l[k]
    have e : bef p (q :: l) (k + 1) = bef q l k := rfl
    rw [this, e]
    omega
theorem wlk_le (c : Bool) : ∀ (ps : List Nat) (p : Nat), p < 12 → (∀ q ∈ ps, q < 12) → wlk c p ps ≤ 5 * ps.length
  | [], _, _, _ => Nat.zero_le _
  | q :: l, p, hp, h => by
    have h1 := far_le c p q hp (h q (by simp))
    have h2 := wlk_le c l q (h q (by simp)) (fun x hx => h x (List.mem_cons_of_mem _ hx))
    show far c p q + wlk c q l ≤ 5 * (l.length + 1)
    omega
theorem mem_takeN {ps : List Nat} {k : Nat} (h : ∀ q ∈ ps, q < 12) : ∀ q ∈ ps.take k, q < 12 := fun q hq => h q (List.mem_of_mem_take hq)


theorem strs1 (w : World) (s : ByteArray) (t : TypeId) (hs : s.size ≤ maxLen) : Strs (w.alloc (.cells #[.string s] t)) (.slice (some ⟨w.heap.size, 0, none⟩) 1 1) [s] := by
  refine ⟨by unfold maxLen; simp, by simpa using hs, .inr ⟨w.heap.size, 0, 1, rfl, by simp [go_sem], fun j hj => ?_⟩⟩
  have : j = 0 := by simpa using hj
  subst this
  simp [go_sem]
theorem strs2 (w : World) (s u : ByteArray) (t : TypeId) (hs : s.size ≤ maxLen) (hu : u.size ≤ maxLen) : Strs (w.alloc (.cells #[.string s, .string u] t)) (.slice (some ⟨w.heap.size, 0, none⟩) 2 2) [s, u] := by
  refine ⟨by unfold maxLen; simp, by simpa using ⟨hs, hu⟩, .inr ⟨w.heap.size, 0, 2, rfl, by simp [go_sem], fun j hj => ?_⟩⟩
  have : j = 0 ∨ j = 1 := by have : j < 2 := hj; omega
  rcases this with rfl | rfl <;> simp [go_sem]

theorem far_self (c : Bool) (p : Nat) : far c p p = 0 := by
  cases c
  · rw [far_no]; unfold absd; omega
  · rw [far_yes]; unfold absd; omega
theorem far_pos (c : Bool) (p q : Nat) (h : p ≠ q) : 0 < far c p q := by
  cases c
  · rw [far_no]; unfold absd; omega
  · rw [far_yes]; unfold absd; omega
/-- The place to begin at. -/
def stP (ps : List Nat) : Nat := ps.headD 0
theorem wlk_start (c : Bool) (ps : List Nat) (x : Nat) : wlk c (stP ps) ps ≤ wlk c x ps := by
  cases ps with
  | nil => exact Nat.le_refl _
  | cons q l =>
    show far c q q + wlk c q l ≤ far c x q + wlk c q l
    rw [far_self]; omega
theorem wlk_start_lt (c : Bool) (ps : List Nat) (x : Nat) (h0 : ps ≠ []) (h : x ≠ stP ps) : wlk c (stP ps) ps < wlk c x ps := by
  cases ps with
  | nil => exact absurd rfl h0
  | cons q l =>
    show far c q q + wlk c q l < far c x q + wlk c q l
    have := far_pos c x q h
    rw [far_self]; omega
theorem wlk_nil (c : Bool) (x : Nat) : wlk c x [] = 0 := rfl

theorem iter_extP {w w' : World} {k : Nat} {q : ByteArray} {p : Nat} (h : w.heap[k]? = some (.stringIter q p)) (hx : Ext w w') : w'.heap[k]? = some (.stringIter q p) := (hx.block k (Array.getElem?_eq_some_iff.1 h).1).trans h
theorem ext_iterP {a w : World} (h : Ext a w) {k : Nat} (hk : a.heap.size ≤ k) (q : ByteArray) (p : Nat) : Ext a (w.iterAt k q p) := Lib.below_iterAt h hk q p
end Go.Proofs.Ytdhcknknmloopab
