/- Texts put in order, each once: by sorting and striking equal neighbours, and by putting one after the other where it belongs: one and the same list. No program in particular. -/
import Derived.Test.YthooedmlnonadaaDoorOrder
import Derived.Lib.SlicesCompact
import Derived.Sort.Walk0
namespace Go.Proofs.YthooedmlnonadaaDoor
open Go.RowKit

theorem bl_tri : ∀ a b : List UInt8, Op.bytesLess a b = false → Op.bytesLess b a = false → a = b
  | [], [], _, _ => rfl
  | [], _ :: _, h, _ => by cases h
  | _ :: _, [], _, h => by cases h
  | x :: xs, y :: ys, h1, h2 => by
    rw [Op.bytesLess, Bool.or_eq_false_iff] at h1 h2
    obtain ⟨a1, a2⟩ := h1
    obtain ⟨b1, b2⟩ := h2
    have hxy : x = y := by
      have n1 : ¬ x < y := of_decide_eq_false a1
      have n2 : ¬ y < x := of_decide_eq_false b1
      exact UInt8.le_antisymm (UInt8.not_lt.1 n2) (UInt8.not_lt.1 n1)
    subst hxy
    simp only [beq_self_eq_true, Bool.true_and] at a2 b2
    rw [bl_tri xs ys a2 b2]
theorem less_tri {a b : ByteArray} (h1 : lessB a b = false) (h2 : lessB b a = false) : a = b := by
  have := bl_tri _ _ h1 h2
  rw [Lib.toList_data, Lib.toList_data] at this
  exact bytesInj this
theorem less_asym {a b : ByteArray} (h : lessB a b = true) : lessB b a = false := by
  cases hb : lessB b a
  · rfl
  · have := less_trans h hb
    rw [less_irrefl] at this
    cases this
/-- Strictly increasing. -/
def Inc (l : List ByteArray) : Prop := l.Pairwise fun a b => lessB a b = true
theorem inc_ext : ∀ l m : List ByteArray, Inc l → Inc m → (∀ x, x ∈ l ↔ x ∈ m) → l = m
  | [], [], _, _, _ => rfl
  | [], b :: m, _, _, h => by have := (h b).2 (by simp); cases this
  | a :: l, [], _, _, h => by have := (h a).1 (by simp); cases this
  | a :: l, b :: m, h1, h2, h => by
    obtain ⟨a1, a2⟩ := List.pairwise_cons.1 h1
    obtain ⟨b1, b2⟩ := List.pairwise_cons.1 h2
    have hab : a = b := by
      rcases List.mem_cons.1 ((h a).1 (by simp)) with e | hm
      · exact e
      · rcases List.mem_cons.1 ((h b).2 (by simp)) with e | hl
        · exact e.symm
        · have := less_asym (a1 b hl)
          rw [b1 a hm] at this
          cases this
    subst hab
    congr 1
    refine inc_ext l m a2 b2 fun x => ⟨fun hx => ?_, fun hx => ?_⟩
    · rcases List.mem_cons.1 ((h x).1 (by simp [hx])) with e | hm
      · subst e
        have := a1 x hx
        rw [less_irrefl] at this; cases this
      · exact hm
    · rcases List.mem_cons.1 ((h x).2 (by simp [hx])) with e | hm
      · subst e
        have := b1 x hx
        rw [less_irrefl] at this; cases this
      · exact hm

/-! ### One put where it belongs -/
/-- Behind how many of the first k texts a text belongs. -/
def pf (ts : List ByteArray) (s : ByteArray) : Nat → Nat
  | 0 => 0
  | k + 1 => if lessB (ts.getD k ⟨#[]⟩) s then k + 1 else pf ts s k
theorem getDS {ts : List ByteArray} {k : Nat} (h : k < ts.length) : ts.getD k ⟨#[]⟩ = ts[k] := by rw [List.getD_eq_getElem?_getD, List.getElem?_eq_getElem h]; rfl
theorem pf_yes {ts : List ByteArray} {s : ByteArray} {k : Nat} (h : k < ts.length) (hl : lessB ts[k] s = true) : pf ts s (k + 1) = k + 1 := by rw [pf, getDS h, if_pos hl]
theorem pf_no {ts : List ByteArray} {s : ByteArray} {k : Nat} (h : k < ts.length) (hl : lessB ts[k] s = false) : pf ts s (k + 1) = pf ts s k := by rw [pf, getDS h, if_neg (by rw [hl]; decide)]
theorem pf_le (ts : List ByteArray) (s : ByteArray) : ∀ k, pf ts s k ≤ k
  | 0 => Nat.le_refl _
  | k + 1 => by
    rw [pf]
    split
    · exact Nat.le_refl _
    · exact Nat.le_succ_of_le (pf_le ts s k)
theorem pf_ahead (ts : List ByteArray) (s : ByteArray) : ∀ k, k ≤ ts.length → 0 < pf ts s k → lessB (ts.getD (pf ts s k - 1) ⟨#[]⟩) s = true
  | 0, _, h => absurd h (Nat.lt_irrefl _)
  | k + 1, hk, h => by
    cases hl : lessB (ts.getD k ⟨#[]⟩) s
    · have e : pf ts s (k + 1) = pf ts s k := by rw [pf, if_neg (by rw [hl]; decide)]
      rw [e] at h ⊢
      exact pf_ahead ts s k (by omega) h
    · have e : pf ts s (k + 1) = k + 1 := by rw [pf, if_pos hl]
      rw [e]
      exact hl
theorem pf_behind (ts : List ByteArray) (s : ByteArray) : ∀ k, ∀ j, pf ts s k ≤ j → j < k → lessB (ts.getD j ⟨#[]⟩) s = false
  | 0, j, _, h => absurd h (Nat.not_lt_zero _)
  | k + 1, j, h1, h2 => by
    cases hl : lessB (ts.getD k ⟨#[]⟩) s
    · have e : pf ts s (k + 1) = pf ts s k := by rw [pf, if_neg (by rw [hl]; decide)]
      rw [e] at h1
      by_cases hj : j = k
      · subst hj; exact hl
      · exact pf_behind ts s k j h1 (by omega)
    · have e : pf ts s (k + 1) = k + 1 := by rw [pf, if_pos hl]
      rw [e] at h1
      omega
def putL (ts : List ByteArray) (s : ByteArray) : List ByteArray := if ts[pf ts s ts.length]? = some s then ts else ts.take (pf ts s ts.length) ++ s :: ts.drop (pf ts s ts.length)
theorem putL_there {ts : List ByteArray} {s : ByteArray} (h : pf ts s ts.length < ts.length) (he : ts[pf ts s ts.length] = s) : putL ts s = ts := by
  unfold putL; rw [List.getElem?_eq_getElem h, he, if_pos rfl]
theorem putL_new {ts : List ByteArray} {s : ByteArray} (h : ∀ h : pf ts s ts.length < ts.length, ¬ ts[pf ts s ts.length] = s) : putL ts s = ts.take (pf ts s ts.length) ++ s :: ts.drop (pf ts s ts.length) := by
  unfold putL
  rw [if_neg]
  intro e
  obtain ⟨hl, he⟩ := List.getElem?_eq_some_iff.1 e
  exact h hl he
theorem putL_mem (ts : List ByteArray) (s x : ByteArray) : x ∈ putL ts s ↔ x ∈ ts ∨ x = s := by
  unfold putL
  split
  · rename_i h
    have hm := List.mem_of_getElem? h
    exact ⟨.inl, fun h => h.elim id (fun e => e ▸ hm)⟩
  · rw [List.mem_append, List.mem_cons]
    have e : x ∈ ts ↔ x ∈ ts.take (pf ts s ts.length) ∨ x ∈ ts.drop (pf ts s ts.length) := by
      rw [← List.mem_append, List.take_append_drop]
    rw [e]
    constructor
    · rintro (h | h | h)
      · exact .inl (.inl h)
      · exact .inr h
      · exact .inl (.inr h)
    · rintro ((h | h) | h)
      · exact .inl h
      · exact .inr (.inr h)
      · exact .inr (.inl h)
theorem putL_len (ts : List ByteArray) (s : ByteArray) : (putL ts s).length ≤ ts.length + 1 := by
  unfold putL
  split
  · omega
  · rw [List.length_append, List.length_cons, List.length_take, List.length_drop]; omega
theorem inc_at {ts : List ByteArray} (h : Inc ts) (i j : Nat) (hij : i < j) (hj : j < ts.length) : lessB (ts[i]'(by omega)) ts[j] = true := (List.pairwise_iff_getElem.1 h) i j (by omega) hj hij
theorem putL_inc {ts : List ByteArray} (s : ByteArray) (h : Inc ts) : Inc (putL ts s) := by
  by_cases he : ∃ hl : pf ts s ts.length < ts.length, ts[pf ts s ts.length] = s
  · obtain ⟨hl, he⟩ := he
    rw [putL_there hl he]; exact h
  · have hne : ∀ h : pf ts s ts.length < ts.length, ¬ ts[pf ts s ts.length] = s := fun h1 h2 => he ⟨h1, h2⟩
    rw [putL_new hne]
    have hp := pf_le ts s ts.length
    obtain ⟨p, hpp⟩ : ∃ p, p = pf ts s ts.length := ⟨_, rfl⟩
    have ha := pf_ahead ts s ts.length (Nat.le_refl _)
    have hb := pf_behind ts s ts.length
    rw [← hpp] at hp hne ha hb ⊢
    have front : ∀ a ∈ ts.take p, lessB a s = true := by
      intro a hm
      obtain ⟨i, hi, rfl⟩ := List.mem_iff_getElem.1 hm
      rw [List.length_take] at hi
      rw [List.getElem_take]
      have h1 := ha (by omega)
      rw [getDS (by omega)] at h1
      by_cases e : i = p - 1
      · subst e; exact h1
      · exact less_trans (inc_at h i (p - 1) (by omega) (by omega)) h1
    have back : ∀ b ∈ ts.drop p, lessB s b = true := by
      intro b hm
      obtain ⟨i, hi, rfl⟩ := List.mem_iff_getElem.1 hm
      rw [List.length_drop] at hi
      rw [List.getElem_drop]
      have h1 := hb p (Nat.le_refl _) (by omega)
      rw [getDS (by omega)] at h1
      have h2 : lessB s ts[p] = true := by
        cases hx : lessB s (ts[p]'(by omega))
        · exact absurd (less_tri h1 hx) (hne (by omega))
        · rfl
      by_cases e : i = 0
      · subst e; exact h2
      · exact less_trans h2 (inc_at h p (p + i) (by omega) (by omega))
    refine List.pairwise_append.2 ⟨List.Pairwise.sublist (List.take_sublist _ _) h, List.pairwise_cons.2 ⟨back, List.Pairwise.sublist (List.drop_sublist _ _) h⟩, fun a ha2 b hb2 => ?_⟩
    rcases List.mem_cons.1 hb2 with rfl | hb3
    · exact front a ha2
    · exact less_trans (front a ha2) (back b hb3)
def putAll (l : List ByteArray) : List ByteArray := l.foldl putL []
theorem putAll_snoc (l : List ByteArray) (s : ByteArray) : putAll (l ++ [s]) = putL (putAll l) s := by simp [putAll, List.foldl_append]
theorem foldl_put : ∀ (l acc : List ByteArray), Inc acc → Inc (l.foldl putL acc) ∧ ∀ x, x ∈ l.foldl putL acc ↔ x ∈ acc ∨ x ∈ l
  | [], acc, h => ⟨h, fun x => by simp⟩
  | s :: l, acc, h => by
    obtain ⟨h1, h2⟩ := foldl_put l (putL acc s) (putL_inc s h)
    refine ⟨h1, fun x => ?_⟩
    rw [List.foldl_cons, h2, putL_mem, List.mem_cons]
    constructor
    · rintro ((h | h) | h)
      · exact .inl h
      · exact .inr (.inl h)
      · exact .inr (.inr h)
    · rintro (h | h | h)
      · exact .inl (.inl h)
      · exact .inl (.inr h)
      · exact .inr h
theorem putAll_inc (l : List ByteArray) : Inc (putAll l) := (foldl_put l [] List.Pairwise.nil).1
theorem putAll_mem (l : List ByteArray) (x : ByteArray) : x ∈ putAll l ↔ x ∈ l := by
  have h := (foldl_put l [] List.Pairwise.nil).2 x
  exact h.trans ⟨fun h => h.elim (fun h => by cases h) id, .inr⟩
theorem putAll_len : ∀ (l acc : List ByteArray), (l.foldl putL acc).length ≤ acc.length + l.length
  | [], acc => by simp
  | s :: l, acc => by
    have h1 := putAll_len l (putL acc s)
    have h2 := putL_len acc s
    rw [List.foldl_cons, List.length_cons]
    omega

/-! ### Sorted, and equal neighbours struck -/
theorem le_bl (x y : List UInt8) : decide (x ≤ y) = !Op.bytesLess y x := by
  rw [bytesLess_eq]
  by_cases h : y < x
  · rw [decide_eq_true h]; exact decide_eq_false (List.not_le.2 h)
  · rw [decide_eq_false h]; exact decide_eq_true (List.not_lt.1 h)
def bytesOf (l : List UInt8) : ByteArray := ⟨l.toArray⟩
def sortB (zs : List (List UInt8)) : List (List UInt8) := zs.mergeSort fun x y => decide (x ≤ y)
theorem sortB_le (zs : List (List UInt8)) : (sortB zs).Pairwise fun x y => Op.bytesLess y x = false := by
  have h := List.pairwise_mergeSort (le := fun x y : List UInt8 => decide (x ≤ y)) (fun a b c h1 h2 => by
    simp only [le_bl, Bool.not_eq_true', ] at h1 h2 ⊢
    cases hx : Op.bytesLess c a
    · rfl
    · cases hy : Op.bytesLess a b
      · have := bl_tri _ _ hy h1
        subst this
        rw [hx] at h2; exact h2
      · have := bl_trans _ _ _ hx hy
        rw [h2] at this; cases this) (fun a b => by
    simp only [le_bl]
    cases hx : Op.bytesLess b a
    · rfl
    · cases hy : Op.bytesLess a b
      · rfl
      · have := bl_trans _ _ _ hx hy
        rw [bl_irrefl] at this; cases this) zs
  refine h.imp fun {a b} hab => ?_
  rw [le_bl] at hab
  simpa using hab
theorem sortB_mem (zs : List (List UInt8)) (x : List UInt8) : x ∈ sortB zs ↔ x ∈ zs := (List.mergeSort_perm zs _).mem_iff
theorem sortB_len (zs : List (List UInt8)) : (sortB zs).length = zs.length := List.length_mergeSort _

theorem bl_le_lt {x y z : List UInt8} (h1 : Op.bytesLess y x = false) (h2 : Op.bytesLess y z = true) : Op.bytesLess x z = true := by
  cases hx : Op.bytesLess x y
  · have := bl_tri _ _ hx h1
    subst this; exact h2
  · exact bl_trans _ _ _ hx h2
theorem compact_upto (zs : List (List UInt8)) (hs : zs.Pairwise fun x y => Op.bytesLess y x = false) : ∀ m, m ≤ zs.length →
    (Lib.compactUpTo zs.toArray m).Pairwise (fun x y => Op.bytesLess x y = true) ∧ (∀ x, x ∈ Lib.compactUpTo zs.toArray m ↔ x ∈ zs.take m) ∧ ∀ (_ : 0 < m) (hm : m - 1 < zs.length), ∀ x ∈ Lib.compactUpTo zs.toArray m, Op.bytesLess zs[m - 1] x = false
  | 0, _ => by simp [Lib.compactUpTo]
  | m + 1, hm => by
    obtain ⟨h1, h2, h3⟩ := compact_upto zs hs m (by omega)
    have hlt : m < zs.length := by omega
    have hd : zs.toArray[m]! = zs[m] := by rw [getElem!_pos _ m (by simpa using hlt)]; rfl
    have ht : zs.take (m + 1) = zs.take m ++ [zs[m]] := by rw [List.take_succ_eq_append_getElem hlt]
    have hle : ∀ x ∈ Lib.compactUpTo zs.toArray m, Op.bytesLess zs[m] x = false := by
      intro x hx
      obtain ⟨i, hi, rfl⟩ := List.mem_iff_getElem.1 ((h2 x).1 hx)
      rw [List.length_take] at hi
      rw [List.getElem_take]
      exact (List.pairwise_iff_getElem.1 hs) i m (by omega) hlt (by omega)
    rw [Lib.compactUpTo_succ, hd]
    cases hk : Lib.keeps zs.toArray m
    · have hk2 : ¬ (m = 0 ∨ zs.toArray[m]! ≠ zs.toArray[m - 1]!) := of_decide_eq_false hk
      have hm0 : ¬ m = 0 := fun e => hk2 (.inl e)
      have he : zs.toArray[m]! = zs.toArray[m - 1]! := Classical.byContradiction fun e => hk2 (.inr e)
      have hd1 : zs.toArray[m - 1]! = zs[m - 1]'(by omega) := by rw [getElem!_pos _ (m - 1) (by simp; omega)]; rfl
      rw [hd, hd1] at he
      simp only [Bool.false_eq_true, if_false, List.append_nil]
      refine ⟨h1, fun x => ?_, fun _ _ x hx => hle x hx⟩
      rw [h2, ht, List.mem_append, List.mem_singleton]
      refine ⟨.inl, fun h => h.elim id fun e => ?_⟩
      rw [e, he]
      exact List.mem_iff_getElem.2 ⟨m - 1, by rw [List.length_take]; omega, by rw [List.getElem_take]⟩
    · have hk2 : m = 0 ∨ zs.toArray[m]! ≠ zs.toArray[m - 1]! := of_decide_eq_true hk
      simp only [if_true]
      refine ⟨List.pairwise_append.2 ⟨h1, List.pairwise_singleton _ _, fun a ha b hb => ?_⟩, fun x => ?_, fun _ _ x hx => ?_⟩
      · rw [List.mem_singleton] at hb
        subst hb
        have hm0 : 0 < m := by
          rcases Nat.eq_zero_or_pos m with e | e
          · subst e; simp [Lib.compactUpTo] at ha
          · exact e
        have hne : zs.toArray[m]! ≠ zs.toArray[m - 1]! := hk2.elim (fun e => absurd e (by omega)) id
        have hd1 : zs.toArray[m - 1]! = zs[m - 1]'(by omega) := by rw [getElem!_pos _ (m - 1) (by simp; omega)]; rfl
        rw [hd, hd1] at hne
        have h5 := h3 hm0 (by omega) a ha
        have h6 : Op.bytesLess (zs[m - 1]'(by omega)) zs[m] = true := by
          cases hx : Op.bytesLess (zs[m - 1]'(by omega)) zs[m]
          · have h7 := (List.pairwise_iff_getElem.1 hs) (m - 1) m (by omega) hlt (by omega)
            exact absurd (bl_tri _ _ h7 hx) hne
          · rfl
        exact bl_le_lt h5 h6
      · rw [List.mem_append, h2, ht, List.mem_append]
      · rcases List.mem_append.1 hx with h | h
        · exact hle x h
        · rw [List.mem_singleton] at h
          subst h
          exact bl_irrefl _
/-- The two ways to one list. -/
theorem sorted_once (l : List ByteArray) : (Lib.compact (sortB (l.map (·.data.toList)))).map bytesOf = putAll l := by
  obtain ⟨h1, h2, _⟩ := compact_upto (sortB (l.map (·.data.toList))) (sortB_le _) _ (Nat.le_refl _)
  have hl : ∀ x : List UInt8, (bytesOf x).toList = x := fun x => by rw [Lib.toList_data]; rfl
  refine inc_ext _ _ ?_ (putAll_inc l) fun x => ?_
  · unfold Inc
    rw [List.pairwise_map]
    refine h1.imp fun {a b} hab => ?_
    unfold lessB
    rw [hl, hl]
    exact hab
  · rw [putAll_mem, List.mem_map]
    constructor
    · rintro ⟨y, hy, rfl⟩
      have := (h2 y).1 hy
      rw [List.take_length, sortB_mem, List.mem_map] at this
      obtain ⟨z, hz, rfl⟩ := this
      exact hz
    · intro hx
      refine ⟨x.data.toList, (h2 _).2 ?_, rfl⟩
      rw [List.take_length, sortB_mem, List.mem_map]
      exact ⟨x, hx, rfl⟩

end Go.Proofs.YthooedmlnonadaaDoor
