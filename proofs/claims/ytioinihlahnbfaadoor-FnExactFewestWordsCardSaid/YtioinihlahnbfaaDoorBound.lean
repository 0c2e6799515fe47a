/- How many splits keys have is less than the machine's numbers: of the words with one letter four at most have the same key. No program in particular. -/
import Derived.Test.YtioinihlahnbfaaDoorWays
import Derived.Test.YtioinihlahnbfaaDoorOrder
namespace Go.Proofs.YtioinihlahnbfaaDoor
open Go.RowKit

/-- A text's first letter. -/
def fl (s : ByteArray) : UInt8 := s.data.toList.getD 0 0
theorem fl_eq (s : ByteArray) (h : 0 < s.size) : s[0] = fl s := by
  unfold fl
  rw [List.getD_eq_getElem?_getD, List.getElem?_eq_getElem (by simpa using h)]
  rfl
theorem less_one {a b : ByteArray} (ha : a.size = 1) (hb : b.size = 1) (h : lessB a b = true) : (fl a).toNat < (fl b).toNat := by
  unfold lessB at h
  rw [Lib.toList_data, Lib.toList_data] at h
  have h1 : a.data.toList.length = 1 := by simpa using ha
  have h2 : b.data.toList.length = 1 := by simpa using hb
  unfold fl
  match hla : a.data.toList, hlb : b.data.toList with
  | [x], [y] =>
    rw [hla, hlb] at h
    simp [Op.bytesLess] at h
    exact UInt8.lt_iff_toNat_lt.1 h
  | [], _ => rw [hla] at h1; cases h1
  | _ :: _ :: _, _ => rw [hla] at h1; simp at h1
  | [_], [] => rw [hlb] at h2; cases h2
  | [_], _ :: _ :: _ => rw [hlb] at h2; simp at h2
/-- Numbers that grow, among so many. -/
theorem grow_len : ∀ (l : List Nat) (a n : Nat), l.Pairwise (· < ·) → (∀ x ∈ l, a ≤ x ∧ x < a + n) → l.length ≤ n
  | [], _, _, _, _ => Nat.zero_le _
  | x :: l, a, n, hp, hm => by
    rw [List.pairwise_cons] at hp
    have hx := hm x (by simp)
    have := grow_len l (x + 1) (a + n - (x + 1)) hp.2 (fun y hy => by
      have h1 := hp.1 y hy
      have h2 := hm y (List.mem_cons_of_mem _ hy)
      omega)
    rw [List.length_cons]
    omega
theorem dicB_pair {ss : List ByteArray} (h : dicB ss = true) : ss.Pairwise (fun a b => lessB a b = true) := by
  rw [List.pairwise_iff_getElem]
  intro i j hi hj hij
  exact dicB_lt h i j hij hj
/-- The letters of a key stand side by side, four at most. -/
theorem grp_near (a b : Nat) (ha : isL a = true) (_hb : isL b = true) (h : grp a = grp b) : lo (grp b) ≤ (a : Int) ∧ (a : Int) < lo (grp b) + 4 := by
  unfold isL at ha
  simp only [Bool.and_eq_true, decide_eq_true_eq] at ha
  rw [← h]
  unfold grp
  repeat' split
  all_goals (first | (show (97 : Int) ≤ _ ∧ _ < (97 : Int) + 4; omega) | (show (100 : Int) ≤ _ ∧ _ < (100 : Int) + 4; omega) | (show (103 : Int) ≤ _ ∧ _ < (103 : Int) + 4; omega) | (show (106 : Int) ≤ _ ∧ _ < (106 : Int) + 4; omega) | (show (109 : Int) ≤ _ ∧ _ < (109 : Int) + 4; omega) | (show (112 : Int) ≤ _ ∧ _ < (112 : Int) + 4; omega) | (show (116 : Int) ≤ _ ∧ _ < (116 : Int) + 4; omega) | (show (119 : Int) ≤ _ ∧ _ < (119 : Int) + 4; omega))
theorem keysB_zero {s t : ByteArray} (hs : 0 < s.size) (ht : 0 < t.size) (h : keysB s = keysB t) : grp (fl s).toNat = grp (fl t).toNat := by
  have g : ∀ (u : ByteArray) (_ : 0 < u.size), ((fl (keysB u)).toNat : Int) = dg (fl u).toNat := fun u hu => by
    have h' : 0 < (keysL u.data.toList).length := by rw [keysL_len]; simpa using hu
    have := keysL_get u 0 hu h'
    rw [fl_eq u hu] at this
    rw [← this]
    show (((keysL u.data.toList).getD 0 0).toNat : Int) = _
    rw [List.getD_eq_getElem?_getD, List.getElem?_eq_getElem h']
    rfl
  have e1 := g s hs
  have e2 := g t ht
  rw [h, e2] at e1
  unfold dg at e1
  omega
/-- Four words of one letter have a key, no more. -/
theorem ones_le {ss : List ByteArray} (h : dicB ss = true) (k : ByteArray) (hk : k.size = 1) : (fors ss k).length ≤ 4 := by
  cases hf : fors ss k with
  | nil => simp
  | cons t0 r =>
    rw [← hf]
    have hall : ∀ t ∈ fors ss k, t.size = 1 ∧ wdW t = true ∧ keysB t = k := fun t ht => by
      have h1 := (List.mem_filter.1 ht).2
      have h2 : keysB t = k := by simpa using h1
      exact ⟨by rw [← keysB_size, h2, hk], dicB_mem h t (fors_mem ht), h2⟩
    have h0 := hall t0 (by rw [hf]; simp)
    have hp : (fors ss k).Pairwise (fun a b => lessB a b = true) := (dicB_pair h).sublist List.filter_sublist
    have key := grow_len ((fors ss k).map fun t => (fl t).toNat) (lo (grp (fl t0).toNat)).toNat 4 (by
      rw [List.pairwise_map]
      refine hp.imp_of_mem ?_
      intro a b ha hb hl
      exact less_one (hall a ha).1 (hall b hb).1 hl) (by
      intro x hx
      obtain ⟨t, ht, rfl⟩ := List.mem_map.1 hx
      have h1 := hall t ht
      have hz1 : 0 < t.size := by omega
      have hz0 : 0 < t0.size := by omega
      have hg := keysB_zero hz1 hz0 (h1.2.2.trans h0.2.2.symm)
      have l1 := isW_get (wdW_isW h1.2.1) 0 hz1
      have l0 := isW_get (wdW_isW h0.2.1) 0 hz0
      rw [fl_eq t hz1] at l1
      rw [fl_eq t0 hz0] at l0
      have hn := grp_near _ _ l1 l0 hg
      omega)
    rwa [List.length_map] at key

/-! ### Sums -/
theorem psum_le {f g : Nat → Int} : ∀ k, (∀ l, l < k → f l ≤ g l) → psum f k ≤ psum g k
  | 0, _ => Int.le_refl _
  | k + 1, h => by
    have := psum_le k (fun l hl => h l (by omega))
    have := h k (by omega)
    rw [psum, psum]; omega
theorem psum_nn {f : Nat → Int} : ∀ k, (∀ l, l < k → 0 ≤ f l) → 0 ≤ psum f k
  | 0, _ => Int.le_refl _
  | k + 1, h => by
    have := psum_nn k (fun l hl => h l (by omega))
    have := h k (by omega)
    rw [psum]; omega
theorem psum_mul (f : Nat → Int) (c : Int) : ∀ k, psum (fun l => f l * c) k = psum f k * c
  | 0 => by simp [psum]
  | k + 1 => by rw [psum, psum, psum_mul f c k, Int.add_mul]
theorem tsum_ones (q : ByteArray) (i : Nat) : ∀ ss : List ByteArray, tsum q (fun _ => 1) i ss ≤ ss.length
  | [] => by simp [tsum]
  | s :: ss => by
    have := tsum_ones q i ss
    have h : term q (fun _ => 1) i s ≤ 1 := by unfold term; split <;> simp
    rw [tsum, List.length_cons]
    omega
theorem psum_mm {ss : List ByteArray} (h : dicB ss = true) (q : ByteArray) (i : Nat) (hi : i ≤ q.size) : psum (fun l => mm ss q i (i + l + 1)) (q.size - i) ≤ 12 := by
  have h1 := tsum_eq q (fun _ => 1) i hi ss (fun s hs => (isW_size (wdW_isW (dicB_mem h s hs))).1)
  simp only [Int.mul_one] at h1
  rw [h1]
  have := tsum_ones q i ss
  have := (dicB_len h).2
  omega
theorem mm_nn (ss : List ByteArray) (q : ByteArray) (i j : Nat) : 0 ≤ mm ss q i j := by unfold mm; omega
theorem six_mono {a b : Nat} (h : a ≤ b) : (6 : Int) ^ a ≤ 6 ^ b := by
  have := Nat.pow_le_pow_right (n := 6) (by omega) h
  exact_mod_cast this
theorem six_pos (a : Nat) : (1 : Int) ≤ 6 ^ a := by
  have : 0 < 6 ^ a := Nat.pow_pos (by omega)
  exact_mod_cast this

/-- The sum at a place is small. -/
theorem sum_small {ss : List ByteArray} (h : dicB ss = true) (q : ByteArray) (i r : Nat) (hr : i + (r + 1) = q.size) (hb : ∀ l, l < r + 1 → 0 ≤ tq ss q (i + l + 1) ∧ tq ss q (i + l + 1) ≤ 6 ^ (r - l)) :
    0 ≤ psum (fun l => mm ss q i (i + l + 1) * tq ss q (i + l + 1)) (r + 1) ∧ psum (fun l => mm ss q i (i + l + 1) * tq ss q (i + l + 1)) (r + 1) ≤ 6 ^ (r + 1) := by
  refine ⟨psum_nn _ fun l hl => Int.mul_nonneg (mm_nn _ _ _ _) (hb l hl).1, ?_⟩
  have h12 := psum_mm h q i (by omega)
  rw [show q.size - i = r + 1 by omega] at h12
  have hm0 : mm ss q i (i + 0 + 1) ≤ 4 := by
    unfold mm
    have := ones_le h (q.extract i (i + 0 + 1)) (by rw [ByteArray.size_extract]; omega)
    omega
  cases r with
  | zero =>
    have h0 := hb 0 (by omega)
    simp only [psum]
    have e : tq ss q (i + 0 + 1) ≤ 1 := h0.2
    have := Int.mul_le_mul hm0 e h0.1 (by omega)
    omega
  | succ r =>
    have hle : psum (fun l => mm ss q i (i + l + 1) * tq ss q (i + l + 1)) (r + 1 + 1) ≤ psum (fun l => mm ss q i (i + l + 1) * 6 ^ r + (if l = 0 then 4 * 6 ^ (r + 1) else 0)) (r + 1 + 1) := by
      refine psum_le _ fun l hl => ?_
      have hl2 := hb l hl
      by_cases e : l = 0
      · subst e
        rw [if_pos rfl]
        have h1 := Int.mul_le_mul hm0 hl2.2 hl2.1 (by omega)
        have h2 := Int.mul_nonneg (mm_nn ss q i (i + 0 + 1)) (show (0 : Int) ≤ 6 ^ r by have := six_pos r; omega)
        rw [Nat.sub_zero] at h1
        omega
      · rw [if_neg e]
        have h1 : tq ss q (i + l + 1) ≤ 6 ^ r := Int.le_trans hl2.2 (six_mono (by omega))
        have := Int.mul_le_mul_of_nonneg_left h1 (mm_nn ss q i (i + l + 1))
        omega
    rw [psum_add, psum_mul, psum_one _ 0 _ (fun l _ hne => if_neg hne), if_pos (by omega), if_pos rfl] at hle
    have h3 := Int.mul_le_mul_of_nonneg_right h12 (show (0 : Int) ≤ 6 ^ r by have := six_pos r; omega)
    have e1 : (6 : Int) ^ (r + 1) = 6 ^ r * 6 := Int.pow_succ ..
    have e2 : (6 : Int) ^ (r + 1 + 1) = 6 ^ (r + 1) * 6 := Int.pow_succ ..
    omega
theorem six_top : (6 : Int) ^ 20 < 9223372036854775807 := by decide
theorem w64_small {x : Int} (h0 : 0 ≤ x) (h : x < 9223372036854775808) : w64 x = x := by
  unfold w64
  simp only [IntKind.wrap_i64]
  omega
theorem tq_small {ss : List ByteArray} (h : dicB ss = true) (q : ByteArray) (hq : q.size ≤ 20) : ∀ (r i : Nat), i + r = q.size → 0 ≤ tq ss q i ∧ tq ss q i ≤ 6 ^ r := by
  intro r
  induction r using Nat.strongRecOn with
  | ind r ih =>
    intro i hi
    cases r with
    | zero =>
      obtain rfl : i = q.size := by omega
      rw [tq_end]
      exact ⟨by decide, by decide⟩
    | succ r =>
      have hs := sum_small h q i r hi (fun l hl => ih (r - l) (by omega) (i + l + 1) (by omega))
      rw [tq_step ss q i (by omega), show q.size - i = r + 1 by omega]
      have h6 := six_mono (show r + 1 ≤ 20 by omega)
      have := six_top
      rw [w64_small hs.1 (by omega)]
      exact hs
theorem tq_sum {ss : List ByteArray} (h : dicB ss = true) (q : ByteArray) (hq : q.size ≤ 20) (i : Nat) (hi : i < q.size) : tq ss q i = tsum q (tq ss q) i ss := by
  have hw : ∀ s ∈ ss, 1 ≤ s.size := fun s hs => (isW_size (wdW_isW (dicB_mem h s hs))).1
  obtain ⟨r, hr⟩ : ∃ r, q.size - i = r + 1 := ⟨q.size - i - 1, by omega⟩
  have hs := sum_small h q i r (by omega) (fun l hl => tq_small h q hq (r - l) (i + l + 1) (by omega))
  have e := tsum_eq q (tq ss q) i (by omega) ss hw
  rw [hr] at e
  rw [tq_words ss q i hi hw, ← e]
  have h6 := six_mono (show r + 1 ≤ 20 by omega)
  have := six_top
  exact w64_small hs.1 (by omega)

end Go.Proofs.YtioinihlahnbfaaDoor
