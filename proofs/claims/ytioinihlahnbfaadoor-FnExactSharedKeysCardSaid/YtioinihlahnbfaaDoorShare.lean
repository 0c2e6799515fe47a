/- Words with the same keys, list by list: the plain lists, and the map of kept words read with its own lists named. No conditions. -/
import Derived.Test.YtioinihlahnbfaaDoorMarkF
import Derived.Test.YtioinihlahnbfaaDoorNext
namespace Go.Proofs.YtioinihlahnbfaaDoor
open Go.RowKit

def wAt (ss : List ByteArray) (k : Nat) : ByteArray := ss.getD k ⟨#[]⟩
theorem wAt_eq {ss : List ByteArray} {k : Nat} (h : k < ss.length) : wAt ss k = ss[k] := by unfold wAt; rw [List.getD_eq_getElem?_getD, List.getElem?_eq_getElem h]; rfl
def grpL (ss : List ByteArray) (k : Nat) : List ByteArray := fors ss (keysB (wAt ss k))
def grpB (ss : List ByteArray) (k : Nat) : Bool := decide (1 < (grpL ss k).length) && decide (wAt (grpL ss k) 0 = wAt ss k)
def shUp (ss : List ByteArray) : Nat → List (List ByteArray)
  | 0 => []
  | k + 1 => shUp ss k ++ (if grpB ss k then [grpL ss k] else [])
theorem shUp_yes {ss : List ByteArray} {k : Nat} (h : grpB ss k = true) : shUp ss (k + 1) = shUp ss k ++ [grpL ss k] := by rw [shUp, h]; rfl
theorem shUp_no {ss : List ByteArray} {k : Nat} (h : grpB ss k = false) : shUp ss (k + 1) = shUp ss k := by rw [shUp, h]; simp
theorem grpB_1 {ss : List ByteArray} {k : Nat} (h : ¬ 1 < (grpL ss k).length) : grpB ss k = false := by unfold grpB; rw [decide_eq_false h]; rfl
theorem grpB_2 {ss : List ByteArray} {k : Nat} (h : ¬ wAt (grpL ss k) 0 = wAt ss k) : grpB ss k = false := by unfold grpB; rw [decide_eq_false h, Bool.and_false]
theorem grpB_3 {ss : List ByteArray} {k : Nat} (h : 1 < (grpL ss k).length) (h2 : wAt (grpL ss k) 0 = wAt ss k) : grpB ss k = true := by unfold grpB; rw [decide_eq_true h, decide_eq_true h2]; rfl
theorem shUp_len (ss : List ByteArray) : ∀ k, (shUp ss k).length ≤ k
  | 0 => Nat.le_refl _
  | k + 1 => by
    have := shUp_len ss k
    cases h : grpB ss k
    · rw [shUp_no h]; omega
    · rw [shUp_yes h, List.length_append]; simp; omega
theorem shUp_mem (ss : List ByteArray) : ∀ k, ∀ l ∈ shUp ss k, ∃ q, l = fors ss q
  | 0, l, h => by cases h
  | k + 1, l, h => by
    cases hg : grpB ss k
    · rw [shUp_no hg] at h; exact shUp_mem ss k l h
    · rw [shUp_yes hg] at h
      rcases List.mem_append.1 h with h | h
      · exact shUp_mem ss k l h
      · rw [List.mem_singleton] at h; exact ⟨_, h⟩
def shV (ss : List ByteArray) : List (List ByteArray) := if dicB ss then shUp ss ss.length else []
theorem shV_no {ss : List ByteArray} (h : dicB ss = false) : shV ss = [] := by unfold shV; simp [h]
theorem shV_yes {ss : List ByteArray} (h : dicB ss = true) : shV ss = shUp ss ss.length := by unfold shV; simp [h]
def tl (L : List (List ByteArray)) (i : Nat) : List ByteArray := L.getD i []
theorem tl_eq {L : List (List ByteArray)} {i : Nat} (h : i < L.length) : tl L i = L[i] := by unfold tl; rw [List.getD_eq_getElem?_getD, List.getElem?_eq_getElem h]; rfl
theorem tl_snoc (L : List (List ByteArray)) (l : List ByteArray) (i : Nat) (h : i < L.length + 1) : (if i = L.length then l else tl L i) = tl (L ++ [l]) i := by
  unfold tl
  by_cases e : i = L.length
  · rw [if_pos e, e]; simp
  · rw [if_neg e, List.getD_eq_getElem?_getD, List.getD_eq_getElem?_getD, List.getElem?_append_left (by omega)]
theorem shV_len (ss : List ByteArray) : (shV ss).length ≤ 12 := by
  cases h : dicB ss
  · rw [shV_no h]; simp
  · rw [shV_yes h]
    have := shUp_len ss ss.length
    have := dicB_len h
    omega
theorem shV_at (ss : List ByteArray) (i : Nat) (hi : i < (shV ss).length) : (tl (shV ss) i).length ≤ 12 ∧ ∀ t ∈ tl (shV ss) i, t.size ≤ maxLen := by
  cases h : dicB ss
  · rw [shV_no h] at hi; exact absurd hi (by simp)
  · have hm : tl (shV ss) i ∈ shUp ss ss.length := by rw [tl_eq hi]; rw [← shV_yes h]; exact List.getElem_mem hi
    obtain ⟨q, hq⟩ := shUp_mem ss _ _ hm
    rw [hq]
    exact ⟨fors_l12 h, fors_sz h⟩
theorem tot_bound (T : Nat → List ByteArray) (c : Nat) : ∀ n, (∀ i, i < n → (T i).length ≤ c) → tot T n ≤ c * n
  | 0, _ => Nat.le_refl _
  | n + 1, h => by
    have h1 := tot_bound T c n (fun i hi => h i (by omega))
    have h2 := h n (by omega)
    rw [tot, Nat.mul_add, Nat.mul_one]
    omega
theorem shV_tot (ss : List ByteArray) : tot (tl (shV ss)) (shV ss).length ≤ 1000000 := by
  have h1 := tot_bound (tl (shV ss)) 12 (shV ss).length (fun i hi => (shV_at ss i hi).1)
  have h2 := shV_len ss
  omega

/-- Lists of lists as a result, in memory of the call's own. -/
def ResSS (L : List (List ByteArray)) (ok : Bool) (w : World) (e : Ending) (w' : World) : Prop := ∃ v U, e = .returned (.tuple #[v, .bool ok]) ∧ RowF w.heap.size w' v L.length U (tl L) ∧ Ext w w'
theorem info_ls : (Tryd.prog.info? 22).map (fun i => (i.zero, i.size, i.bytes)) = some (some (.slice none 0 0), 1, 24) := by kernel_rfl
theorem info_parts3 {P : Program} {t : TypeId} {z : Value} {n b : Nat} (h : (P.info? t).map (fun i => (i.zero, i.size, i.bytes)) = some (some z, n, b)) : ∃ i, P.info? t = some i ∧ i.zero = some z ∧ i.size = n ∧ i.bytes = b := by
  cases hi : P.info? t with
  | none => rw [hi] at h; cases h
  | some i =>
    rw [hi] at h
    simp only [Option.map_some, Option.some.injEq, Prod.mk.injEq] at h
    exact ⟨i, rfl, h.1, h.2.1, h.2.2⟩
theorem row_one {B : Nat} {w : World} {v : Value} {ts : List ByteArray} (h : RowS B w v ts) : v.oneCell' = true := by
  obtain ⟨a, c, rfl⟩ := h.shape
  rfl
theorem oneV {v : Value} (h : v.oneCell' = true) : ∀ u ∈ [v], u.oneCell' = true := by intro u hu; rw [List.mem_singleton] at hu; rw [hu]; exact h

/-! ### The map with its lists named -/
def KeptG (B n : Nat) (w : World) (l : List ByteArray) (G : ByteArray → Value) : Prop := ∃ (D : DataW Value), w.ownsMap Tryd.prog 81 opq B n D ∧ B + 1 ≤ w.heap.size ∧
  (∀ q, okQ q → D.atKey (kl q) (.held (.slice none 0 0)) = .held (G q) ∧ RowS (B + 1) w (G q) (fors l q)) ∧
  ∀ q q', okQ q → okQ q' → ¬ q = q' → (G q).ownBlock = none ∨ (G q).ownBlock ≠ (G q').ownBlock
theorem Kept.named {B n : Nat} {w : World} {l : List ByteArray} (h : Kept B n w l) : ∃ G, KeptG B n w l G := by
  obtain ⟨D, G, h1, h2, h3, h4⟩ := h
  exact ⟨G, D, h1, h2, h3, h4⟩
theorem KeptG.ext {B n : Nat} {w w' : World} {l : List ByteArray} {G : ByteArray → Value} (h : KeptG B n w l G) (hx : Ext w w') : KeptG B n w' l G := by
  obtain ⟨D, h1, h2, h3, h4⟩ := h
  have hg : w.grownBy w' none := ⟨hx.os, hx.tape, hx.output, hx.size, fun k hk _ => hx.block k hk⟩
  exact ⟨D, h1.kept hg (by simp), Nat.le_trans h2 hx.size, fun q hq => ⟨(h3 q hq).1, (h3 q hq).2.ext hx⟩, h4⟩
theorem KeptG.row {B n : Nat} {w : World} {l : List ByteArray} {G : ByteArray → Value} (h : KeptG B n w l G) {q : ByteArray} (hq : okQ q) : RowS (B + 1) w (G q) (fors l q) := by
  obtain ⟨D, h1, h2, h3, h4⟩ := h
  exact (h3 q hq).2
theorem KeptG.apart {B n : Nat} {w : World} {l : List ByteArray} {G : ByteArray → Value} (h : KeptG B n w l G) {q q' : ByteArray} (hq : okQ q) (hq' : okQ q') (hne : ¬ q = q') : (G q).ownBlock = none ∨ (G q).ownBlock ≠ (G q').ownBlock := by
  obtain ⟨D, h1, h2, h3, h4⟩ := h
  exact h4 q q' hq hq' hne
set_option maxRecDepth 100000 in
theorem KeptG.look {B n : Nat} {w : World} {l : List ByteArray} {G : ByteArray → Value} (h : KeptG B n w l G) (q : ByteArray) (hq : okQ q) : (Instr.lookup 58 (.map (some B)) (rowV q) false).run Tryd.prog w = .ok (G q) w := by
  obtain ⟨D, h1, h2, h3, h4⟩ := h
  obtain ⟨v, ps, hr, hv⟩ := h1.lookup rowLaw Tryd.underlying58 (zeroList w) (zd := .held (.slice none 0 0)) (zp := []) rfl (row_key q)
  unfold opq at hv
  injection hv with hv
  injection hv with hv _
  rw [(h3 q hq).1] at hv
  injection hv with hv
  subst hv
  exact hr

set_option maxRecDepth 100000 in
set_option maxHeartbeats 4000000 in
theorem withG_any (B n : Nat) (l : List ByteArray) (G : ByteArray → Value) (q : ByteArray) (w : World) (h : KeptG B n w l G) (hq : okQ q) : Calls Tryd.prog 51 #[.map (some B), .string q] w fun e w' => e = .returned (G q) ∧ Ext w w' := by
  go_enter Tryd.func51, Tryd.ntmps51
  go_wp2_with (go_at_call 68; refine (rowOf_any _ _ hq.1).mono ?_; rintro e w1 ⟨rfl, x1⟩; have hv := (h.ext x1).look q hq)
  go_ret
  exact ⟨rfl, x1⟩

end Go.Proofs.YtioinihlahnbfaaDoor
