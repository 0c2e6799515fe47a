/- Patterns on nine points, plainly: which ones there are, and how they go on. No conditions. -/
import Derived.Test.YtmpajijnpoekgaaWk
import Derived.Test.YtmpajijnpoekgaaKeysAt
namespace Go.Proofs.Ytmpajijnpoekgaa
open Go.RowKit

/-! ### The signs of points -/
def pA (ps : List Nat) : List UInt8 := ps.map fun p => (49 + p).toUInt8
def pT (ps : List Nat) : ByteArray := ⟨(pA ps).toArray⟩
theorem pT_nil : pT [] = ⟨#[]⟩ := rfl
theorem pT_size (ps : List Nat) : (pT ps).size = ps.length := by
  show (pA ps).toArray.size = ps.length
  simp [pA]
theorem pT_list (ps : List Nat) : (pT ps).data.toList = pA ps := rfl
theorem pA_snoc (ps : List Nat) (p : Nat) : pA (ps ++ [p]) = pA ps ++ [(49 + p).toUInt8] := by unfold pA; rw [List.map_append]; rfl
theorem pT_snoc (ps : List Nat) (p : Nat) : pT (ps ++ [p]) = pT ps ++ ⟨#[(49 + p).toUInt8]⟩ := by
  apply ByteArray.ext
  rw [ByteArray.data_append]
  unfold pT
  rw [pA_snoc]
  simp
theorem pBn : ∀ p : Nat, p < 9 → (((49 + p).toUInt8).toNat : Int) = 49 + (p : Int) := of_decide_eq_true (by kernel_rfl)
theorem pBk : ∀ p : Nat, p < 9 → padL.getD p 0 = (49 + p).toUInt8 := of_decide_eq_true (by kernel_rfl)
theorem pBu : ∀ p : Nat, p < 9 → Utf8.encode (49 + (p : Int)) = (⟨#[(49 + p).toUInt8]⟩ : ByteArray) := of_decide_eq_true (by kernel_rfl)
theorem kT_pT (ps : List Nat) (h : ∀ p ∈ ps, p < 9) : kT ps = pT ps := by
  unfold kT pT kA pA
  congr 2
  exact List.map_congr_left fun p hp => pBk p (h p hp)
theorem pT_get (ps : List Nat) (i : Nat) (hi : i < (pT ps).size) (h : i < ps.length) : (pT ps)[i] = (49 + ps[i]).toUInt8 := by
  show (pA ps).toArray[i]'_ = _
  simp [pA]
theorem pT_take (ps : List Nat) (k : Nat) (_h : k ≤ ps.length) : (pT ps).extract 0 k = pT (ps.take k) := by
  apply ByteArray.ext
  rw [ByteArray.data_extract]
  show (pA ps).toArray.extract 0 k = (pA (ps.take k)).toArray
  unfold pA
  rw [List.map_take]
  simp

/-! ### Going on -/
/-- A point lies between two. -/
def hbP (a b : Nat) : Bool := decide (a / 3 % 2 = b / 3 % 2) && decide (a % 3 % 2 = b % 3 % 2)
theorem hbP_row {a b : Nat} (h : ¬ a / 3 % 2 = b / 3 % 2) : hbP a b = false := by unfold hbP; rw [decide_eq_false h]; rfl
theorem hbP_col {a b : Nat} (h : ¬ a % 3 % 2 = b % 3 % 2) : hbP a b = false := by unfold hbP; rw [decide_eq_false h, Bool.and_false]
theorem hbP_yes {a b : Nat} (h : a / 3 % 2 = b / 3 % 2) (h2 : a % 3 % 2 = b % 3 % 2) : hbP a b = true := by unfold hbP; rw [decide_eq_true h, decide_eq_true h2]; rfl
theorem hbP_all {a b : Nat} (h1 : a / 3 % 2 = b / 3 % 2) : hbP a b = decide (a % 3 % 2 = b % 3 % 2) := by unfold hbP; rw [decide_eq_true h1]; rfl
/-- From the last one of drawn points one goes on with another one. -/
def goP (ps : List Nat) (l p : Nat) : Bool := !decide (p ∈ ps) && (!hbP l p || decide ((l + p) / 2 ∈ ps))
theorem goP_in {ps : List Nat} {l p : Nat} (h : decide (p ∈ ps) = true) : goP ps l p = false := by unfold goP; rw [h]; rfl
theorem goP_far {ps : List Nat} {l p : Nat} (h : decide (p ∈ ps) = false) (h2 : hbP l p = false) : goP ps l p = true := by unfold goP; rw [h, h2]; rfl
theorem goP_mid {ps : List Nat} {l p : Nat} (h : decide (p ∈ ps) = false) (h2 : hbP l p = true) : goP ps l p = decide ((l + p) / 2 ∈ ps) := by unfold goP; rw [h, h2]; simp
theorem goP_new {ps : List Nat} {l p : Nat} (h : goP ps l p = true) : p ∉ ps := by
  intro hp
  rw [goP_in (decide_eq_true hp)] at h
  cases h

/-- The first so many steps of a pattern can be drawn. -/
def dwP (ps : List Nat) : Nat → Bool
  | 0 => true
  | k + 1 => dwP ps k && goP (ps.take (k + 1)) (ps.getD k 0) (ps.getD (k + 1) 0)
theorem dwP_yes {ps : List Nat} {k : Nat} (h : dwP ps k = true) (h2 : goP (ps.take (k + 1)) (ps.getD k 0) (ps.getD (k + 1) 0) = true) : dwP ps (k + 1) = true := by rw [dwP, h, h2]; rfl
theorem dwP_bad {ps : List Nat} {k : Nat} (h2 : goP (ps.take (k + 1)) (ps.getD k 0) (ps.getD (k + 1) 0) = false) : dwP ps (k + 1) = false := by rw [dwP, h2, Bool.and_false]
theorem dwP_no {ps : List Nat} {k : Nat} (h : dwP ps k = false) : ∀ m, k ≤ m → dwP ps m = false := by
  intro m hm
  induction m with
  | zero => obtain rfl : k = 0 := by omega
            cases h
  | succ m ih =>
    by_cases e : k = m + 1
    · rw [← e]; exact h
    · rw [dwP, ih (by omega)]; rfl
/-- A pattern can be drawn. -/
def drwP (ps : List Nat) : Bool := dwP ps (ps.length - 1)

/-- The points with which one goes on, of the first so many. -/
def nxP (ps : List Nat) (l k : Nat) : List Nat := (List.range k).filter fun p => goP ps l p
theorem nxP_len (ps : List Nat) (l k : Nat) : (nxP ps l k).length ≤ k := by
  unfold nxP
  have := List.length_filter_le (fun p => goP ps l p) (List.range k)
  rw [List.length_range] at this
  exact this
theorem nxP_lt {ps : List Nat} {l k : Nat} : ∀ q ∈ nxP ps l k, q < k := by
  intro q hq
  unfold nxP at hq
  exact List.mem_range.1 (List.mem_filter.1 hq).1
theorem nxP_yes {ps : List Nat} {l k : Nat} (h : goP ps l k = true) : nxP ps l (k + 1) = nxP ps l k ++ [k] := by
  unfold nxP
  rw [List.range_succ, List.filter_append]
  simp [h]
theorem nxP_no {ps : List Nat} {l k : Nat} (h : goP ps l k = false) : nxP ps l (k + 1) = nxP ps l k := by
  unfold nxP
  rw [List.range_succ, List.filter_append]
  simp [h]

/-! ### Patterns -/
/-- A text has a sign. -/
def hasT (s : ByteArray) (c : Int) : Bool := s.data.toList.any fun b => decide ((b.toNat : Int) = c)
/-- The first so many signs are different points. -/
def ptK (s : ByteArray) : Nat → Bool
  | 0 => true
  | k + 1 => ptK s k && ((decide (49 ≤ (s.data.toList.getD k 0).toNat) && decide ((s.data.toList.getD k 0).toNat ≤ 57)) && !hasT (s.extract 0 k) (s.data.toList.getD k 0).toNat)
theorem getD_at (s : ByteArray) (k : Nat) (h : k < s.size) : s.data.toList.getD k 0 = s[k] := by
  rw [List.getD_eq_getElem?_getD, List.getElem?_eq_getElem (show k < s.data.toList.length by simpa using h)]
  rfl
theorem ptK_yes {s : ByteArray} {k : Nat} (h : ptK s k = true) (hk : k < s.size) (h1 : 49 ≤ s[k].toNat) (h2 : s[k].toNat ≤ 57) (h3 : hasT (s.extract 0 k) s[k].toNat = false) : ptK s (k + 1) = true := by
  rw [ptK, h, getD_at s k hk, h3, decide_eq_true h1, decide_eq_true h2]; rfl
theorem ptK_lo {s : ByteArray} {k : Nat} (hk : k < s.size) (h1 : s[k].toNat < 49) : ptK s (k + 1) = false := by
  rw [ptK, getD_at s k hk, decide_eq_false (show ¬ 49 ≤ s[k].toNat by omega)]; simp
theorem ptK_hi {s : ByteArray} {k : Nat} (hk : k < s.size) (h1 : 57 < s[k].toNat) : ptK s (k + 1) = false := by
  rw [ptK, getD_at s k hk, decide_eq_false (show ¬ s[k].toNat ≤ 57 by omega)]; simp
theorem ptK_has {s : ByteArray} {k : Nat} (hk : k < s.size) (h1 : hasT (s.extract 0 k) s[k].toNat = true) : ptK s (k + 1) = false := by
  rw [ptK, getD_at s k hk, h1]; simp
theorem ptK_no {s : ByteArray} {k : Nat} (h : ptK s k = false) : ∀ m, k ≤ m → ptK s m = false := by
  intro m hm
  induction m with
  | zero => obtain rfl : k = 0 := by omega
            cases h
  | succ m ih =>
    by_cases e : k = m + 1
    · rw [← e]; exact h
    · rw [ptK, ih (by omega)]; rfl
/-- A text of different points. -/
def isPt (s : ByteArray) : Bool := decide (1 ≤ s.size) && (decide (s.size ≤ 9) && ptK s s.size)
theorem isPt_short {s : ByteArray} (h : s.size < 1) : isPt s = false := by unfold isPt; rw [decide_eq_false (by omega)]; rfl
theorem isPt_long {s : ByteArray} (h : 9 < s.size) : isPt s = false := by unfold isPt; rw [decide_eq_false (show ¬ s.size ≤ 9 by omega)]; simp
theorem isPt_n {s : ByteArray} {k : Nat} (h : ptK s k = false) (hk : k ≤ s.size) : isPt s = false := by unfold isPt; rw [ptK_no h _ hk]; simp
theorem isPt_y {s : ByteArray} (h1 : 1 ≤ s.size) (h2 : s.size ≤ 9) (h : ptK s s.size = true) : isPt s = true := by unfold isPt; rw [h, decide_eq_true h1, decide_eq_true h2]; rfl
theorem isPt_size {s : ByteArray} (h : isPt s = true) : 1 ≤ s.size ∧ s.size ≤ 9 := by unfold isPt at h; simp at h; exact ⟨h.1, h.2.1⟩
theorem isPt_k {s : ByteArray} (h : isPt s = true) (k : Nat) (hk : k ≤ s.size) : ptK s k = true := by
  cases e : ptK s k
  · have := isPt_n e hk
    rw [this] at h; cases h
  · rfl
theorem isPt_at {s : ByteArray} (h : isPt s = true) (k : Nat) (hk : k < s.size) : 49 ≤ s[k].toNat ∧ s[k].toNat ≤ 57 ∧ hasT (s.extract 0 k) s[k].toNat = false := by
  have h1 := isPt_k h (k + 1) hk
  refine ⟨?_, ?_, ?_⟩
  · rcases Nat.lt_or_ge s[k].toNat 49 with h2 | h2
    · rw [ptK_lo hk h2] at h1; cases h1
    · exact h2
  · rcases Nat.lt_or_ge 57 s[k].toNat with h2 | h2
    · rw [ptK_hi hk h2] at h1; cases h1
    · exact h2
  · cases e : hasT (s.extract 0 k) s[k].toNat
    · rfl
    · rw [ptK_has hk e] at h1; cases h1
theorem isPt_dg {s : ByteArray} (h : isPt s = true) : isDg 1 9 s = true := by
  have hz := isPt_size h
  refine isDg_yes (by omega) (by omega) ?_
  rw [List.all_eq_true]
  intro c hc
  obtain ⟨i, hi, rfl⟩ := List.getElem_of_mem hc
  have hi2 : i < s.size := by simpa using hi
  have := isPt_at h i hi2
  have e : s.data.toList[i] = s[i] := rfl
  rw [e]
  exact isg_of (by omega) (by omega)
theorem isPt_0 {s : ByteArray} (h : isPt s = true) : hasT s 48 = false := by
  unfold hasT
  rw [List.any_eq_false]
  intro c hc
  obtain ⟨i, hi, rfl⟩ := List.getElem_of_mem hc
  have hi2 : i < s.size := by simpa using hi
  have := isPt_at h i hi2
  have e : s.data.toList[i] = s[i] := rfl
  rw [e]
  simp only [decide_eq_true_eq]
  omega
/-- Looking for a sign, as the library does. -/
theorem has_idx (s : ByteArray) (b : UInt8) : decide (0 ≤ Lib.indexByte s.data.toList b) = hasT s b.toNat := by
  have hg := Lib.indexByte_ge s.data.toList b
  cases h : hasT s b.toNat
  · rw [decide_eq_false]
    intro h0
    obtain ⟨o, ho⟩ := Int.eq_ofNat_of_zero_le h0
    have h2 := (Lib.indexByte_some (l := s.data.toList) ho).1
    unfold hasT at h
    rw [List.any_eq_false] at h
    exact h b (List.mem_of_getElem? h2) (by simp)
  · unfold hasT at h
    rw [List.any_eq_true] at h
    obtain ⟨c, hc, e⟩ := h
    have e2 : c = b := UInt8.toNat_inj.1 (by have := of_decide_eq_true e; omega)
    subst e2
    rw [decide_eq_true]
    rcases (by omega : Lib.indexByte s.data.toList c = -1 ∨ 0 ≤ Lib.indexByte s.data.toList c) with h1 | h1
    · obtain ⟨i, hi, e3⟩ := List.getElem_of_mem hc
      exact absurd (by rw [List.getElem?_eq_getElem hi, e3]) (Lib.indexByte_none h1 i)
    · exact h1

/-! ### The points of a pattern -/
theorem pn_pt : ∀ n : Nat, n < 256 → 49 ≤ n → n ≤ 57 → plc (n : Nat) = ((n - 49 : Nat) : Int) := by
  have : ∀ n : Nat, n < 256 → (decide (49 ≤ n) && decide (n ≤ 57)) = true → decide (plc (n : Nat) = ((n - 49 : Nat) : Int)) = true := of_decide_eq_true (by kernel_rfl)
  intro n h1 h2 h3
  exact of_decide_eq_true (this n h1 (by rw [decide_eq_true h2, decide_eq_true h3]; rfl))
theorem pn_at {b : UInt8} (h1 : 49 ≤ b.toNat) (h2 : b.toNat ≤ 57) : isK b.toNat = true ∧ pn b = b.toNat - 49 := by
  have h := pn_pt b.toNat b.toNat_lt h1 h2
  unfold isK pn
  rw [h]
  exact ⟨decide_eq_true (by omega), by omega⟩
theorem isPt_all {s : ByteArray} (h : isPt s = true) : allK s := fun i hi => (pn_at (isPt_at h i hi).1 (isPt_at h i hi).2.1).1
theorem isPt_lt {s : ByteArray} (h : isPt s = true) : ∀ p ∈ plcs s, p < 9 := by
  intro p hp
  obtain ⟨i, hi, rfl⟩ := List.getElem_of_mem hp
  have hi2 : i < s.size := by rw [plcs_len] at hi; exact hi
  rw [plcs_at]
  have := isPt_at h i hi2
  rw [(pn_at this.1 this.2.1).2]
  omega
theorem isPt_pT {s : ByteArray} (h : isPt s = true) : pT (plcs s) = s := by
  apply ByteArray.ext
  show (pA (plcs s)).toArray = s.data
  apply Array.ext
  · rw [List.size_toArray]
    unfold pA
    rw [List.length_map, plcs_len]
    rfl
  · intro i h1 h2
    have hi2 : i < s.size := h2
    have hb := isPt_at h i hi2
    have e : (pA (plcs s)).toArray[i] = (49 + pn s[i]).toUInt8 := by
      simp only [pA, List.getElem_toArray, List.getElem_map]
      rw [plcs_at]
    rw [e, (pn_at hb.1 hb.2.1).2]
    apply UInt8.toNat_inj.1
    have : (s.data[i]'h2) = s[i] := rfl
    rw [this]
    simp
    omega
theorem hasT_pT {ps : List Nat} {p : Nat} (h : ∀ q ∈ ps, q < 9) (hp : p < 9) : hasT (pT ps) (49 + (p : Int)) = decide (p ∈ ps) := by
  unfold hasT
  rw [pT_list]
  unfold pA
  rw [List.any_map]
  cases e : decide (p ∈ ps)
  · rw [List.any_eq_false]
    intro q hq
    simp only [Function.comp, decide_eq_true_eq]
    rw [pBn q (h q hq)]
    intro h2
    have : q = p := by omega
    subst this
    exact absurd hq (of_decide_eq_false e)
  · rw [List.any_eq_true]
    refine ⟨p, of_decide_eq_true e, ?_⟩
    simp only [Function.comp, decide_eq_true_eq]
    rw [pBn p hp]
end Go.Proofs.Ytmpajijnpoekgaa
