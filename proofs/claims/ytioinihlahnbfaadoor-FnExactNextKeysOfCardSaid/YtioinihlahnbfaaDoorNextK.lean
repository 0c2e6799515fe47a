/- The keys that may follow keys: in order, each once, two ways; and the library's striking of equal neighbours among bytes. No conditions. -/
import Derived.Test.YtioinihlahnbfaaDoorBytes2
import Derived.Test.YtioinihlahnbfaaDoorShelfB
import Derived.Test.YtioinihlahnbfaaDoorBegs
import Derived.Lib.SlicesCompact
namespace Go.Proofs.YtioinihlahnbfaaDoor
open Go.RowKit Go.Sort

/-! ### Plainly -/
theorem incI_ext : ∀ l m : List Int, l.Pairwise (· < ·) → m.Pairwise (· < ·) → (∀ x, x ∈ l ↔ x ∈ m) → l = m
  | [], [], _, _, _ => rfl
  | [], b :: m, _, _, h => by have := (h b).2 (by simp); cases this
  | a :: l, [], _, _, h => by have := (h a).1 (by simp); cases this
  | a :: l, b :: m, h1, h2, h => by
    obtain ⟨a1, a2⟩ := List.pairwise_cons.1 h1
    obtain ⟨b1, b2⟩ := List.pairwise_cons.1 h2
    have hab : a = b := by
      rcases List.mem_cons.1 ((h a).1 (by simp)) with e | hm
      · exact e
      · rcases List.mem_cons.1 ((h b).2 (by simp)) with e | hl
        · exact e.symm
        · have := a1 b hl
          have := b1 a hm
          omega
    subst hab
    congr 1
    refine incI_ext l m a2 b2 fun x => ⟨fun hx => ?_, fun hx => ?_⟩
    · rcases List.mem_cons.1 ((h x).1 (by simp [hx])) with e | hm
      · subst e
        have := a1 x hx
        omega
      · exact hm
    · rcases List.mem_cons.1 ((h x).2 (by simp [hx])) with e | hm
      · subst e
        have := b1 x hx
        omega
      · exact hm
theorem compactI_upto (zs : List Int) (hs : ∀ a b, a < b → b < zs.length → zs.getD a 0 ≤ zs.getD b 0) : ∀ m, m ≤ zs.length →
    (Lib.compactUpTo zs.toArray m).Pairwise (· < ·) ∧ (∀ x, x ∈ Lib.compactUpTo zs.toArray m ↔ x ∈ zs.take m) ∧ (0 < m → ∀ x ∈ Lib.compactUpTo zs.toArray m, x ≤ zs.getD (m - 1) 0)
  | 0, _ => by simp [Lib.compactUpTo]
  | m + 1, hm => by
    obtain ⟨h1, h2, h3⟩ := compactI_upto zs hs m (by omega)
    have hlt : m < zs.length := by omega
    have hd : zs.toArray[m]! = zs.getD m 0 := by rw [getElem!_pos _ m (by simpa using hlt), getI hlt]; rfl
    have ht : zs.take (m + 1) = zs.take m ++ [zs.getD m 0] := by rw [List.take_succ_eq_append_getElem hlt, getI hlt]
    have hle : ∀ x ∈ Lib.compactUpTo zs.toArray m, x ≤ zs.getD m 0 := by
      intro x hx
      have hp : 0 < m := by
        rcases Nat.eq_zero_or_pos m with e | e
        · subst e; simp [Lib.compactUpTo] at hx
        · exact e
      have := h3 hp x hx
      have := hs (m - 1) m (by omega) hlt
      omega
    rw [Lib.compactUpTo_succ, hd]
    cases hk : Lib.keeps zs.toArray m
    · have hk2 : ¬ (m = 0 ∨ zs.toArray[m]! ≠ zs.toArray[m - 1]!) := of_decide_eq_false hk
      have hm0 : ¬ m = 0 := fun e => hk2 (.inl e)
      have he : zs.toArray[m]! = zs.toArray[m - 1]! := Classical.byContradiction fun e => hk2 (.inr e)
      have hd1 : zs.toArray[m - 1]! = zs.getD (m - 1) 0 := by rw [getElem!_pos _ (m - 1) (by simp; omega), getI (by omega)]; rfl
      rw [hd, hd1] at he
      simp only [Bool.false_eq_true, if_false, List.append_nil]
      refine ⟨h1, fun x => ?_, fun _ x hx => by rw [Nat.add_sub_cancel]; exact hle x hx⟩
      rw [h2, ht, List.mem_append, List.mem_singleton]
      refine ⟨.inl, fun h => h.elim id fun e => ?_⟩
      rw [e, he, getI (by omega)]
      exact List.mem_iff_getElem.2 ⟨m - 1, by rw [List.length_take]; omega, by rw [List.getElem_take]⟩
    · have hk2 : m = 0 ∨ zs.toArray[m]! ≠ zs.toArray[m - 1]! := of_decide_eq_true hk
      simp only [if_true]
      refine ⟨List.pairwise_append.2 ⟨h1, List.pairwise_singleton _ _, fun a ha b hb => ?_⟩, fun x => ?_, fun _ x hx => ?_⟩
      · rw [List.mem_singleton] at hb
        subst hb
        have hm0 : 0 < m := by
          rcases Nat.eq_zero_or_pos m with e | e
          · subst e; simp [Lib.compactUpTo] at ha
          · exact e
        have hne : zs.toArray[m]! ≠ zs.toArray[m - 1]! := hk2.elim (fun e => absurd e (by omega)) id
        have hd1 : zs.toArray[m - 1]! = zs.getD (m - 1) 0 := by rw [getElem!_pos _ (m - 1) (by simp; omega), getI (by omega)]; rfl
        rw [hd, hd1] at hne
        have h5 := h3 hm0 a ha
        have h6 := hs (m - 1) m (by omega) hlt
        omega
      · rw [List.mem_append, h2, ht, List.mem_append]
      · rw [Nat.add_sub_cancel]
        rcases List.mem_append.1 hx with h | h
        · exact hle x h
        · rw [List.mem_singleton] at h
          omega
/-- The keys of the words that begin so and are longer, behind the keys. -/
def nkC (q s : ByteArray) : Int := (((keysB s).data.toList.getD q.size 0).toNat : Int)
def nkZ (q : ByteArray) (l : List ByteArray) : List Int := (l.filter fun s => decide (q.size < s.size)).map (nkC q)
def bx (c : Int) : ByteArray := ⟨#[c.toNat.toUInt8]⟩
def nkB (ss : List ByteArray) (q : ByteArray) (c : Int) : Bool := decide (0 < (begs ss (q ++ bx c)).length)
def mdUp (ss : List ByteArray) (q : ByteArray) : Nat → List Int
  | 0 => []
  | n + 1 => mdUp ss q n ++ (if nkB ss q (50 + (n : Int)) then [50 + (n : Int)] else [])
def BsI (l : List Int) : ByteArray := ⟨(l.map fun c => c.toNat.toUInt8).toArray⟩
theorem mdUp_mem (ss : List ByteArray) (q : ByteArray) : ∀ n x, x ∈ mdUp ss q n ↔ 50 ≤ x ∧ x < 50 + (n : Int) ∧ nkB ss q x = true
  | 0, x => by simp [mdUp]; intro h1 h2; omega
  | n + 1, x => by
    rw [mdUp, List.mem_append, mdUp_mem ss q n x]
    cases hb : nkB ss q (50 + (n : Int))
    · simp only [Bool.false_eq_true, if_false, List.not_mem_nil, or_false]
      refine ⟨fun ⟨h1, h2, h3⟩ => ⟨h1, by omega, h3⟩, fun ⟨h1, h2, h3⟩ => ⟨h1, ?_, h3⟩⟩
      by_cases e : x = 50 + (n : Int)
      · rw [e, hb] at h3; cases h3
      · omega
    · simp only [if_true, List.mem_singleton]
      constructor
      · rintro (⟨h1, h2, h3⟩ | e)
        · exact ⟨h1, by omega, h3⟩
        · exact ⟨by omega, by omega, by rw [e]; exact hb⟩
      · rintro ⟨h1, h2, h3⟩
        by_cases e : x = 50 + (n : Int)
        · exact .inr e
        · exact .inl ⟨h1, by omega, h3⟩
theorem mdUp_inc (ss : List ByteArray) (q : ByteArray) : ∀ n, (mdUp ss q n).Pairwise (· < ·)
  | 0 => List.Pairwise.nil
  | n + 1 => by
    rw [mdUp]
    refine List.pairwise_append.2 ⟨mdUp_inc ss q n, ?_, fun a ha b hb => ?_⟩
    · split
      · exact List.pairwise_singleton _ _
      · exact List.Pairwise.nil
    · have h1 := (mdUp_mem ss q n a).1 ha
      split at hb
      · rw [List.mem_singleton] at hb; omega
      · cases hb
theorem pre_snoc (t q : List UInt8) (c : UInt8) : (q ++ [c]).isPrefixOf t = true ↔ q.isPrefixOf t = true ∧ t[q.length]? = some c := by
  rw [List.isPrefixOf_iff_prefix, List.isPrefixOf_iff_prefix]
  constructor
  · rintro ⟨r, rfl⟩
    refine ⟨⟨c :: r, by simp⟩, ?_⟩
    rw [List.append_assoc, List.getElem?_append_right (Nat.le_refl _), Nat.sub_self]
    rfl
  · rintro ⟨⟨r, rfl⟩, h⟩
    rw [List.getElem?_append_right (Nat.le_refl _), Nat.sub_self] at h
    cases r with
    | nil => cases h
    | cons x r =>
      have : x = c := by simpa using h
      subst this
      exact ⟨r, by simp⟩
theorem byte_back (b : UInt8) : ((b.toNat : Int)).toNat.toUInt8 = b := by simp
theorem nk_same {ss : List ByteArray} (_hd : dicB ss = true) (q : ByteArray) (x : Int) : x ∈ nkZ q (begs ss q) ↔ 50 ≤ x ∧ x < 58 ∧ nkB ss q x = true := by
  unfold nkZ
  rw [List.mem_map]
  have hq : q.data.toList.length = q.size := by rw [Array.length_toList]; rfl
  have hks : ∀ s : ByteArray, (keysB s).data.toList.length = s.size := fun s => by rw [Array.length_toList]; exact keysB_size s
  have hap : ∀ c : Int, (q ++ bx c).data.toList = q.data.toList ++ [c.toNat.toUInt8] := fun c => by
    rw [ByteArray.data_append, Array.toList_append]; rfl
  constructor
  · rintro ⟨s, hs, rfl⟩
    obtain ⟨hs1, hs2⟩ := List.mem_filter.1 hs
    have hlt := of_decide_eq_true hs2
    obtain ⟨hm, hp⟩ := List.mem_filter.1 hs1
    have hget : (keysB s).data.toList[q.size]? = some ((keysB s).data.toList.getD q.size 0) := by
      rw [List.getD_eq_getElem?_getD, List.getElem?_eq_getElem (by rw [hks]; exact hlt)]; rfl
    have hbd : 50 ≤ nkC q s ∧ nkC q s ≤ 57 := by
      unfold nkC
      have e : (keysB s).data.toList.getD q.size 0 = (dg (s.data.toList.getD q.size 0).toNat).toNat.toUInt8 := by
        show (keysL s.data.toList).getD q.size 0 = _
        have hl : q.size < s.data.toList.length := by rw [Array.length_toList]; exact hlt
        rw [List.getD_eq_getElem?_getD, List.getD_eq_getElem?_getD]
        unfold keysL
        rw [List.getElem?_map, List.getElem?_eq_getElem hl]
        rfl
      rw [e, dgB]
      exact dg_bd _
    refine ⟨hbd.1, by omega, decide_eq_true (List.length_pos_of_mem (a := s) (List.mem_filter.2 ⟨hm, ?_⟩))⟩
    unfold pre Lib.hasPrefix at hp ⊢
    rw [hap]
    refine (pre_snoc _ _ _).2 ⟨hp, ?_⟩
    rw [hq, hget]
    unfold nkC
    rw [byte_back]
  · rintro ⟨h1, h2, h3⟩
    obtain ⟨s, hs⟩ := List.exists_mem_of_length_pos (of_decide_eq_true h3)
    obtain ⟨hm, hp⟩ := List.mem_filter.1 hs
    unfold pre Lib.hasPrefix at hp
    rw [hap] at hp
    obtain ⟨hp1, hp2⟩ := (pre_snoc _ _ _).1 hp
    rw [hq] at hp2
    have hlt : q.size < s.size := by
      have := (List.getElem?_eq_some_iff.1 hp2).1
      rw [hks] at this
      exact this
    refine ⟨s, List.mem_filter.2 ⟨List.mem_filter.2 ⟨hm, hp1⟩, decide_eq_true hlt⟩, ?_⟩
    unfold nkC
    rw [List.getD_eq_getElem?_getD, hp2]
    show ((x.toNat.toUInt8).toNat : Int) = x
    have : x.toNat.toUInt8.toNat = x.toNat % 256 := rfl
    omega
theorem nkZ_len (q : ByteArray) (l : List ByteArray) : (nkZ q l).length ≤ l.length := by
  unfold nkZ
  rw [List.length_map]
  exact List.length_filter_le _ _
/-- The two ways to one list. -/
theorem nk_way {ss : List ByteArray} (hd : dicB ss = true) (q : ByteArray) : Lib.compact (srtUp (nkZ q (begs ss q)) (nkZ q (begs ss q)).length) = mdUp ss q 8 := by
  obtain ⟨Z, hZ⟩ : ∃ Z, Z = nkZ q (begs ss q) := ⟨_, rfl⟩
  rw [← hZ]
  have hl := srtUp_len Z Z.length
  have hs := compactI_upto (srtUp Z Z.length) (fun a b hab hb => srtUp_ord Z Z.length (Nat.le_refl _) a b hab (by omega)) (srtUp Z Z.length).length (Nat.le_refl _)
  refine incI_ext _ _ hs.1 (mdUp_inc ss q 8) fun x => ?_
  rw [show Lib.compact (srtUp Z Z.length) = Lib.compactUpTo (srtUp Z Z.length).toArray (srtUp Z Z.length).length from rfl, hs.2.1 x, List.take_length, srtUp_mem Z _ (Nat.le_refl _), hZ, nk_same hd q x, mdUp_mem]
  exact Iff.rfl

/-! ### Equal neighbours struck -/
theorem compactY_zero (p : Option Addr) (cap : Nat) (w : World) : Calls Tryd.prog 41 #[.slice p 0 cap] w fun e w' => e = .returned (.slice p 0 cap) ∧ w = w' := by
  go_enter Tryd.func41, Tryd.ntmps41
  go_wp2
  go_ret
  exact ⟨rfl, rfl⟩
theorem compactI_len (zs : List Int) : (Lib.compact zs).length ≤ zs.length := by
  unfold Lib.compact Lib.compactUpTo
  rw [List.length_map]
  exact Nat.le_trans (List.length_filter_le _ _) (Nat.le_of_eq (List.length_range ..))
theorem compactY_any (B g n cap : Nat) (u : World) (zs : List Int) (w : World) (hl : zs.length = n) (hn : n ≤ 12) (h : RowY B w (.slice (some ⟨g, 0, none⟩) n cap) n zs) (hu : Ext u w) (hug : u.heap.size ≤ g) : Calls Tryd.prog 41 #[.slice (some ⟨g, 0, none⟩) n cap] w fun e w' => e = .returned (.slice (some ⟨g, 0, none⟩) (Lib.compact zs).length cap) ∧ (∀ j (hj : j < (Lib.compact zs).length), w'.cell? ⟨g, j, none⟩ = some (.int .u8 (Lib.compact zs)[j])) ∧ Ext u w' := by
  have hH : Holds (Value.int .u8) w g 0 zs.toArray := by
    intro j hj
    have hj' : j < zs.length := by simpa using hj
    refine ⟨?_, by rw [Nat.zero_add]; exact World.ownsRow.frozenAt h j⟩
    rw [Nat.zero_add, h.at hl j (by omega), getI hj', getElem!_pos _ j hj]
    rfl
  have hcap : n ≤ cap := by
    rcases h.2 with ⟨h0, _⟩ | ⟨g', c', cur, hv, _, _, h1, _⟩
    · cases h0
    · injection hv with _ _ e3
      rw [e3]; exact h1
  subst hl
  have hc := Go.Proofs.Tryd.slices_Compact (Value.int .u8) (fun x => rfl) (EqlAt.int _ _ _) (NeqAt.int _ _ _) (0 : Int) (fun w => by kernel_rfl) g 0 cap zs.toArray w hH (by simp; omega) (by simpa using hcap)
  rw [List.size_toArray] at hc
  refine hc.mono ?_
  rintro e w' ⟨rfl, p, rfl⟩
  have hlen := compactI_len zs
  have hcz : Lib.compactUpTo zs.toArray zs.length = Lib.compact zs := rfl
  rw [hcz]
  have hp := holds_putRow (Value.int .u8) (Sort.ahead w p) g 0 zs.toArray (Lib.compact zs ++ List.replicate (zs.length - (Lib.compact zs).length) (0 : Int)).toArray (holds_ahead _ _ _ _ _ _ hH) (by simp; omega)
  refine ⟨rfl, fun j hj => ?_, ?_⟩
  · have := (hp j (by simp; omega)).1
    rw [Nat.zero_add] at this
    rw [this, getElem!_pos _ j (by simp; omega)]
    simp [List.getElem_append_left hj]
  · refine ⟨hu.os, hu.tape, hu.output, by rw [size_putRow]; exact hu.size, fun k hk => ?_⟩
    rw [← hu.block k hk]
    have : g ≠ k := by omega
    simp [putRow, mapBlock, Sort.ahead, Array.getElem?_modify, this]

end Go.Proofs.YtioinihlahnbfaaDoor
