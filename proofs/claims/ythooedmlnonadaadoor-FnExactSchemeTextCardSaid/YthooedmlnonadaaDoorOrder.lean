/- Texts in order: the order is one, so the words of a dictionary stand in it once each. No program in particular. -/
import Derived.Test.YthooedmlnonadaaDoorFind
namespace Go.Proofs.YthooedmlnonadaaDoor
open Go.RowKit

theorem bl_irrefl : ∀ a : List UInt8, Op.bytesLess a a = false
  | [] => rfl
  | x :: xs => by
    rw [Op.bytesLess, bl_irrefl xs]
    simp
theorem bl_trans : ∀ a b c : List UInt8, Op.bytesLess a b = true → Op.bytesLess b c = true → Op.bytesLess a c = true
  | _, b, [], _, h2 => by cases b <;> cases h2
  | [], _, _ :: _, _, _ => rfl
  | _ :: _, [], _ :: _, h1, _ => by cases h1
  | x :: xs, y :: ys, z :: zs, h1, h2 => by
    rw [Op.bytesLess] at h1 h2 ⊢
    simp only [Bool.or_eq_true, Bool.and_eq_true, decide_eq_true_eq, beq_iff_eq] at h1 h2 ⊢
    rcases h1 with h1 | ⟨rfl, h1⟩
    · rcases h2 with h2 | ⟨rfl, h2⟩
      · exact .inl (UInt8.lt_trans h1 h2)
      · exact .inl h1
    · rcases h2 with h2 | ⟨rfl, h2⟩
      · exact .inl h2
      · exact .inr ⟨rfl, bl_trans xs ys zs h1 h2⟩
theorem less_irrefl (a : ByteArray) : lessB a a = false := bl_irrefl _
theorem less_trans {a b c : ByteArray} (h1 : lessB a b = true) (h2 : lessB b c = true) : lessB a c = true := bl_trans _ _ _ h1 h2
theorem dicB_step {ss : List ByteArray} (h : dicB ss = true) (k : Nat) (hk : k < ss.length) (h0 : 0 < k) : lessB (ss[k - 1]'(by omega)) ss[k] = true := by
  unfold dicB at h
  simp only [Bool.and_eq_true, List.all_eq_true, List.mem_range] at h
  have h2 := h.2 k hk
  rw [okAt_eq ss k hk h0, Bool.and_eq_true] at h2
  exact h2.2
theorem dicB_less {ss : List ByteArray} (h : dicB ss = true) (i : Nat) : ∀ (d : Nat) (hd : i + d + 1 < ss.length), lessB (ss[i]'(by omega)) (ss[i + d + 1]'hd) = true
  | 0, hd => dicB_step h (i + 1) hd (by omega)
  | d + 1, hd => by
    have h1 := dicB_less h i d (by omega)
    have h2 := dicB_step h (i + (d + 1) + 1) hd (by omega)
    exact less_trans h1 h2
theorem dicB_lt {ss : List ByteArray} (h : dicB ss = true) (i j : Nat) (hij : i < j) (hj : j < ss.length) : lessB (ss[i]'(by omega)) ss[j] = true := by
  have := dicB_less h i (j - i - 1) (by omega)
  have e : i + (j - i - 1) + 1 = j := by omega
  simp only [e] at this
  exact this
theorem dicB_inj {ss : List ByteArray} (h : dicB ss = true) (i j : Nat) (hi : i < ss.length) (hj : j < ss.length) (he : ss[i] = ss[j]) : i = j := by
  rcases Nat.lt_trichotomy i j with h1 | h1 | h1
  · have := dicB_lt h i j h1 hj
    rw [he, less_irrefl] at this; cases this
  · exact h1
  · have := dicB_lt h j i h1 hi
    rw [he, less_irrefl] at this; cases this
/-- A list without a text. -/
def less1 (ss : List ByteArray) (s : ByteArray) : List ByteArray := ss.filter fun t => decide (¬ t = s)
theorem less1_step (ss : List ByteArray) (s : ByteArray) (k : Nat) (h : k < ss.length) : less1 (ss.take (k + 1)) s = less1 (ss.take k) s ++ (if ss[k] = s then [] else [ss[k]]) := by
  unfold less1
  rw [takeS ss k h, List.filter_append]
  by_cases hp : ss[k] = s <;> simp [hp]
theorem less1_yes {ss : List ByteArray} {s : ByteArray} {k : Nat} {h : k < ss.length} (hp : ss[k] = s) : less1 (ss.take (k + 1)) s = less1 (ss.take k) s := by
  rw [less1_step ss s k h, if_pos hp]; simp
theorem less1_no {ss : List ByteArray} {s : ByteArray} {k : Nat} {h : k < ss.length} (hp : ¬ ss[k] = s) : less1 (ss.take (k + 1)) s = less1 (ss.take k) s ++ [ss[k]] := by
  rw [less1_step ss s k h, if_neg hp]
theorem less1_len (ss : List ByteArray) (s : ByteArray) : (less1 ss s).length ≤ ss.length := List.length_filter_le _ _
theorem less1_mem {ss : List ByteArray} {s t : ByteArray} (h : t ∈ less1 ss s) : t ∈ ss := (List.mem_filter.1 h).1
theorem less1_parts {ss : List ByteArray} {s : ByteArray} (h : ofB ss s = true) : ss.take (fx ss s) ++ ss.drop (fx ss s + 1) = less1 ss s := by
  unfold ofB at h
  simp only [Bool.and_eq_true] at h
  obtain ⟨hd, hh⟩ := h
  obtain ⟨hl, he⟩ := fx_at hh
  have e : ss = ss.take (fx ss s) ++ ss[fx ss s] :: ss.drop (fx ss s + 1) := by
    rw [List.getElem_cons_drop, List.take_append_drop]
  have ne : ∀ j (hj : j < ss.length), j ≠ fx ss s → ¬ ss[j] = s := fun j hj hne h2 => hne (dicB_inj hd j _ hj hl (by rw [h2, he]))
  have f1 : (ss.take (fx ss s)).filter (fun t => decide (¬ t = s)) = ss.take (fx ss s) := by
    rw [List.filter_eq_self]
    intro t ht
    obtain ⟨j, hj, rfl⟩ := List.mem_iff_getElem.1 ht
    rw [List.getElem_take]
    have hj2 : j < fx ss s := by rw [List.length_take] at hj; omega
    exact decide_eq_true (ne j (by omega) (by omega))
  have f2 : (ss.drop (fx ss s + 1)).filter (fun t => decide (¬ t = s)) = ss.drop (fx ss s + 1) := by
    rw [List.filter_eq_self]
    intro t ht
    obtain ⟨j, hj, rfl⟩ := List.mem_iff_getElem.1 ht
    rw [List.getElem_drop]
    rw [List.length_drop] at hj
    exact decide_eq_true (ne _ (by omega) (by omega))
  have g : less1 ss s = less1 (ss.take (fx ss s) ++ ss[fx ss s] :: ss.drop (fx ss s + 1)) s := congrArg (fun l => less1 l s) e
  rw [g]
  unfold less1
  rw [List.filter_append, f1, List.filter_cons, f2, he]
  simp

end Go.Proofs.YthooedmlnonadaaDoor
