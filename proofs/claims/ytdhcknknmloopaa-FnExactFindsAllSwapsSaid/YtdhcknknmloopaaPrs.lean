/- Pairs of digits that are missed: the model's list of them. No conditions. -/
import Derived.Test.YtdhcknknmloopaaMarkI
import Derived.Test.YtdhcknknmloopaaGood
import Derived.Deep.LoopGhost
import Derived.Test.YtdhcknknmloopaaFar
namespace Go.Proofs.Ytdhcknknmloopaa
open Go.RowKit

/-- The pairs with one lesser digit, as far as so many greater ones. -/
def prR (P : Nat → Nat → Bool) (a : Nat) : Nat → List (List Int)
  | 0 => []
  | k + 1 => prR P a k ++ (if P a (a + 1 + k) = true then [[(a : Int), ((a + 1 + k : Nat) : Int)]] else [])
/-- The pairs with so many lesser digits. -/
def prA (P : Nat → Nat → Bool) : Nat → List (List Int)
  | 0 => []
  | a + 1 => prA P a ++ prR P a (9 - a)
def prs (P : Nat → Nat → Bool) : List (List Int) := prA P 10
theorem prR_yes {P : Nat → Nat → Bool} {a k : Nat} (h : P a (a + 1 + k) = true) : prR P a (k + 1) = prR P a k ++ [[(a : Int), ((a + 1 + k : Nat) : Int)]] := by rw [prR, if_pos h]
theorem prR_no {P : Nat → Nat → Bool} {a k : Nat} (h : P a (a + 1 + k) = false) : prR P a (k + 1) = prR P a k := by rw [prR, h]; simp
theorem prR_len (P : Nat → Nat → Bool) (a : Nat) : ∀ k, (prR P a k).length ≤ k
  | 0 => Nat.le_refl _
  | k + 1 => by
    have := prR_len P a k
    cases h : P a (a + 1 + k)
    · rw [prR_no h]; omega
    · rw [prR_yes h, List.length_append]; simp; omega
theorem prA_len (P : Nat → Nat → Bool) : ∀ a, (prA P a).length ≤ 10 * a
  | 0 => Nat.le_refl _
  | a + 1 => by
    have := prA_len P a
    have := prR_len P a (9 - a)
    rw [prA, List.length_append]
    omega
theorem prs_len (P : Nat → Nat → Bool) : (prs P).length ≤ 100 := prA_len P 10
theorem prR_two (P : Nat → Nat → Bool) (a : Nat) : ∀ k, ∀ l ∈ prR P a k, l.length = 2
  | 0, l, h => by cases h
  | k + 1, l, h => by
    cases hg : P a (a + 1 + k)
    · rw [prR_no hg] at h; exact prR_two P a k l h
    · rw [prR_yes hg] at h
      rcases List.mem_append.1 h with h | h
      · exact prR_two P a k l h
      · rw [List.mem_singleton] at h; rw [h]; rfl
theorem prA_two (P : Nat → Nat → Bool) : ∀ a, ∀ l ∈ prA P a, l.length = 2
  | 0, l, h => by cases h
  | a + 1, l, h => by
    rw [prA] at h
    rcases List.mem_append.1 h with h | h
    · exact prA_two P a l h
    · exact prR_two P a _ l h
theorem prs_at (P : Nat → Nat → Bool) (i : Nat) (h : i < (prs P).length) : (tl (prs P) i).length ≤ 1048576 := by
  rw [tl_eq h, prA_two P 10 _ (List.getElem_mem h)]
  decide
theorem prs_tot (P : Nat → Nat → Bool) : tot (tl (prs P)) (prs P).length ≤ 1000000 := by
  have h1 := tot_bound (tl (prs P)) 2 (prs P).length (fun i hi => by rw [tl_eq hi, prA_two P 10 _ (List.getElem_mem hi)]; exact Nat.le_refl 2)
  have h2 := prs_len P
  omega
theorem prs_congr {P Q : Nat → Nat → Bool} (h : ∀ a b, a < b → b < 10 → P a b = Q a b) : prs P = prs Q := by
  have hR : ∀ a k, a + 1 + k ≤ 10 → prR P a k = prR Q a k := by
    intro a k
    induction k with
    | zero => intro _; rfl
    | succ k ih => intro hk; rw [prR, prR, ih (by omega), h a (a + 1 + k) (by omega) (by omega)]
  have hA : ∀ a, a ≤ 10 → prA P a = prA Q a := by
    intro a
    induction a with
    | zero => intro _; rfl
    | succ a ih =>
      intro ha
      rw [prA, prA, ih (by omega)]
      by_cases e : a = 9
      · subst e; rfl
      · rw [hR a (9 - a) (by omega)]
  exact hA 10 (by omega)

/-! ### A list behind the others -/
theorem grow_rowI {B : Nat} {wr w9 w5 : World} {o v5 u : Value} {L : List (List Int)} {L' : List (List Int)} {U : Nat → Value} {l : List Int} {z : Obj} (h : RowF B wr o L.length U (tl L)) (x9 : Ext wr w9) (ha : RowI wr.heap.size w9 u l) (hu : RowI B w9 u l)
    (own5 : w5.ownsRow B 22 1 v5 (L.length + 1) ((List.range L.length).map U ++ [u])) (gr5 : (w9.alloc z).grownBy w5 o.ownBlock) (hL : L' = L ++ [l]) : RowF B w5 v5 L'.length (fun i => if i = L.length then u else U i) (tl L') := by
  subst hL
  have hz : Ext w9 (w9.alloc z) := (Ext.refl _).alloc _
  have hap : ∀ i, i < L.length → (U i).ownBlock = none ∨ (U i).ownBlock ≠ u.ownBlock := fun i hi => (h.2.1 i hi).apart2 ha (Nat.le_refl _)
  have huo : u.ownBlock = none ∨ u.ownBlock ≠ o.ownBlock := by
    rcases h.1.2 with ⟨rfl, _⟩ | ⟨g, cap, cur, rfl, _, hg, _⟩
    · cases hx : u.ownBlock with
      | none => exact .inl rfl
      | some b => exact .inr (by intro e; cases e)
    · exact ha.apart g (.inl (heapLt hg))
  have hs : ∀ i, i < L.length → (U i).ownBlock = none ∨ (U i).ownBlock ≠ o.ownBlock := fun i hi => by
    rcases h.outer i hi with h0 | h0
    · rw [h0]
      cases hx : (U i).ownBlock with
      | none => exact .inl rfl
      | some b => exact .inr (by intro e; cases e)
    · exact .inr fun e => h0 e.symm
  have h5 := RowF.snoc (T := tl L) (l := l) own5 (fun i hi => (((h.2.1 i hi).ext x9).ext hz).kept gr5 (hs i hi)) ((hu.ext hz).kept gr5 huo) h.2.2 hap
  rw [List.length_append]
  exact h5.congr fun i hi => tl_snoc L l i hi
theorem pair_row (w : World) (a b : Int) (n : Nat) (hn : n ≤ w.heap.size) : RowI n (w.alloc (.cells #[.int .i64 a, .int .i64 b] 3)) (.slice (some ⟨w.heap.size, 0, none⟩) 2 2) [a, b] := by
  refine ⟨rfl, .inr ⟨w.heap.size, 2, _, rfl, hn, heap_alloc_new w _, ?_⟩⟩
  exact ⟨by simp, by unfold maxLen; decide, rfl, rfl⟩

/-! ### The model's -/
def pM (m t : Int) (a b : Nat) : Bool := decide ((((b : Int) - (a : Int)) * t) % m = 0)

theorem pM_abs {m t : Int} {a b : Nat} (_hm : 2 ≤ m) : pM m t a b = decide (((b : Int) - (a : Int)) * (t.natAbs : Int) % m = 0) := by
  unfold pM
  refine decide_eq_decide.2 ?_
  rcases (by omega : (t.natAbs : Int) = t ∨ (t.natAbs : Int) = -t) with e | e <;> rw [e]
  rw [Int.mul_neg]
  constructor
  · intro h; exact Int.emod_eq_zero_of_dvd (Int.dvd_neg.2 (Int.dvd_of_emod_eq_zero h))
  · intro h; exact Int.emod_eq_zero_of_dvd (Int.dvd_neg.1 (Int.dvd_of_emod_eq_zero h))
theorem mul_bd9 {a b : Int} (h1 : 0 ≤ a) (h2 : a ≤ 9) (h3 : 0 ≤ b) (h4 : b ≤ 13) : 0 ≤ a * b ∧ a * b ≤ 117 := by
  refine ⟨Int.mul_nonneg h1 h3, ?_⟩
  have := Int.mul_le_mul h2 h4 h3 (by decide)
  omega
theorem cell_two_new (w : World) (A : Obj) (v : Value) (T : TypeId) : ∀ j u, [v][j]? = some u → ((w.alloc A).alloc (.cells #[v] T)).cell? ((⟨w.heap.size + 1, 0, none⟩ : Addr).add j) = some u := by
  intro j u h
  have := cell_one_new (w.alloc A) v T j u h
  rw [show (w.alloc A).heap.size = w.heap.size + 1 by simp] at this
  exact this
theorem oneV2 {v : Value} (h : v.oneCell' = true) : ∀ u ∈ [v], u.oneCell' = true := by intro u hu; rw [List.mem_singleton] at hu; rw [hu]; exact h

set_option maxRecDepth 100000 in
set_option maxHeartbeats 2000000 in
theorem ckMissed_any (t m : Int) (w : World) (hm : 2 ≤ m ∧ m ≤ 13) (ht : -13 ≤ t ∧ t ≤ 13) : Calls Try.prog 59 #[.int .i64 t, .int .i64 m] w (OneII (prs (pM m t)) w) := by
  obtain ⟨i0, hi, hz0, hzs, hzb⟩ := info_parts3 info_li
  have HI := Lib.hid (show Try.prog.info? 22 = some i0 ∧ i0.zero = some (.slice none 0 0) ∧ i0.size = 1 ∧ i0.bytes = 24 from ⟨hi, hz0, hzs, hzb⟩)
  clear hi hz0 hzs hzb
  obtain ⟨P, hP⟩ : ∃ P, P = pM m t := ⟨_, rfl⟩
  have HP := Lib.hid hP
  rw [← hP]
  clear hP
  have HL := Lib.hid (prs_len P)
  obtain ⟨L0, hL0⟩ : ∃ L, L = prs P := ⟨_, rfl⟩
  have HL0 := Lib.hid hL0
  rw [← hL0]
  clear hL0
  go_enter Try.func59, Try.ntmps59
  go_wp2
  go_loopw [5, 6] (fun o i wr => ∃ a : Nat, a ≤ 10 ∧ i = .int .i64 a ∧ (∃ U, RowF w.heap.size wr o (prA P a).length U (tl (prA P a))) ∧ Ext w wr) (fun _ i _ => 10 - (intOf i).toNat)
  case atStart => exact ⟨0, by decide, rfl, ⟨fun _ => .slice none 0 0, RowF.nil _ _ _ _⟩, Ext.refl _⟩
  case round =>
    obtain ⟨a, ha, rfl, ⟨U, hown⟩, hx⟩ := hrel
    have HO := Lib.hid hown
    clear hown
    obtain ⟨wo, rfl⟩ : ∃ wo, wo = wr := ⟨_, rfl⟩
    by_cases hlt : a < 10
    · have h9 : (a : Int) < 10 := by omega
      go_wp2
      clear h9
      go_loopw [5, 7] (fun o i wr => ∃ k : Nat, k + a ≤ 9 ∧ i = .int .i64 ((a + 1 + k : Nat) : Int) ∧ (∃ U, RowF w.heap.size wr o (prA P a ++ prR P a k).length U (tl (prA P a ++ prR P a k))) ∧ Ext w wr) (fun _ i _ => 10 - (intOf i).toNat)
      case atStart => exact ⟨0, by omega, by go_num, ⟨U, by rw [prR, List.append_nil]; exact HO.out⟩, hx⟩
      case round =>
        obtain ⟨k, hk, rfl, ⟨U2, hown2⟩, hx2⟩ := hrel
        have HO2 := Lib.hid hown2
        clear hown2
        have hll : (prA P a ++ prR P a k).length ≤ 1000 := by
          rw [List.length_append]
          have := prA_len P a
          have := prR_len P a k
          omega
        by_cases hlt2 : a + 1 + k < 10
        · have h9 : ((a + 1 + k : Nat) : Int) < 10 := by omega
          have HPA := Lib.hid (show P a (a + 1 + k) = decide ((((a + 1 + k : Nat) : Int) - (a : Int)) * t % m = 0) by rw [HP.out]; rfl)
          have HY := Lib.hid (fun h => prR_yes (P := P) (a := a) (k := k) h)
          have HN := Lib.hid (fun h => prR_no (P := P) (a := a) (k := k) h)
          obtain ⟨b, hb⟩ : ∃ b, b = a + 1 + k := ⟨_, rfl⟩
          rw [← hb] at HPA HY HN h9 ⊢
          have HB := Lib.hid hb
          have hab : a < b := by omega
          obtain ⟨L, hL⟩ : ∃ L, L = prA P a ++ prR P a k := ⟨_, rfl⟩
          rw [← hL] at HO2 hll
          have HLL := Lib.hid hL
          clear hb hL hlt2 hk HO hlt
          have HPE := Lib.hid (pM_abs (m := m) (t := t) (a := a) (b := b) hm.1)
          obtain ⟨d, hd⟩ : ∃ d, d = (b : Int) - (a : Int) := ⟨_, rfl⟩
          obtain ⟨T, hT⟩ : ∃ T, T = ((t.natAbs : Nat) : Int) := ⟨_, rfl⟩
          have hT13 : 0 ≤ T ∧ T ≤ 13 := by omega
          have hd9 : 1 ≤ d ∧ d ≤ 9 := by omega
          have hxb := mul_bd9 (a := d) (b := T) (by omega) hd9.2 hT13.1 hT13.2
          obtain ⟨x, hx9⟩ : ∃ x, x = d * T := ⟨_, rfl⟩
          rw [← hd, ← hT, ← hx9] at HPE
          rw [← hx9] at hxb
          have HAB := Lib.hid (show ∀ w, Calls Try.prog 83 #[.int .i64 t] w fun e w' => e = .returned (.int .i64 T) ∧ w = w' from fun w => by rw [hT]; exact absA_any t w (by omega) (by omega))
          have hbad : (b : Int) - (a : Int) = d := hd.symm
          have wd : IntKind.i64.wrap d = d := by simp only [IntKind.wrap_i64]; omega
          have hdx : d * T = x := hx9.symm
          have wx : IntKind.i64.wrap x = x := by simp only [IntKind.wrap_i64]; omega
          have q0 : Int.tmod x m = x % m := Int.tmod_eq_emod_of_nonneg hxb.1
          have hm0 : ¬ m = 0 := by omega
          have HM := Lib.hid hm
          have HPP := Lib.hid (show P a b = decide (x % m = 0) by rw [HP.out]; exact HPE.out)
          clear hd hT hx9 hm ht HPE hd9 hT13
          have HSZ := Lib.hid (show L.length + 1 ≤ maxLen ∧ (L.length + 1) * 24 ≤ 140737488355328 ∧ ∀ A B, w.heap.size ≤ ((wr.alloc A).alloc B).heap.size from ⟨by unfold maxLen; omega, by omega, fun A B => Nat.le_trans hx2.size (by simp; omega)⟩)
          have HKB := Lib.hid (show k + 1 + a ≤ 9 ∧ (b : Int) + 1 = ((a + 1 + (k + 1) : Nat) : Int) ∧ b < 10 from by have := HB.out; omega)
          by_cases hz : x % m = 0
          · have tz : (x % m == 0) = true := beq_iff_eq.2 hz
            have HV := Lib.hid (HY.out (by rw [HPP.out]; exact decide_eq_true hz))
            clear hz
            go_wp2_with (first | (go_at_call 83; refine (HAB.out _).mono ?_; rintro e w' ⟨rfl, rfl⟩) | (at_builtin; refine wpList_append_own _ rfl _ _ 36 rfl w.heap.size 22 i0 (.slice none 0 0) 1 24 Try.underlying36 HI.out.1 HI.out.2.1 HI.out.2.2.1 HI.out.2.2.2 rfl (by decide) _ _ _ rfl (World.ownsRow.alloc (World.ownsRow.alloc HO2.out.1 _) _) ⟨wr.heap.size + 1, 0, none⟩ 1 1 [.slice (some ⟨wr.heap.size, 0, none⟩) 2 2] rfl rfl (cell_two_new _ _ _ _) (oneV2 rfl) HSZ.out.1 HSZ.out.2.1 (HSZ.out.2.2 _ _) ?_; intro v5 w5 own5 gr5 _))
            have X5 : Ext w w5 := ext_grown ((hx2.alloc _).alloc _) gr5 (fun j hj => (World.ownsRow.lt HO2.out.1 j hj).1)
            have RN := Lib.hid (show ∃ U, RowF w.heap.size w5 v5 (prA P a ++ prR P a (k + 1)).length U (tl (prA P a ++ prR P a (k + 1))) from ⟨_, grow_rowI HO2.out ((Ext.refl wr).alloc _) (pair_row wr a b _ (Nat.le_refl _)) (pair_row wr a b _ hx2.size) own5 gr5 (by rw [HV.out, HLL.out, List.append_assoc])⟩)
            clear own5 gr5
            exact ⟨⟨k + 1, HKB.out.1, by rw [HKB.out.2.1], RN.out, X5⟩, by have := HKB.out.2.2; simp [intOf]; omega⟩
          · have tz : (x % m == 0) = false := beq_eq_false_iff_ne.2 hz
            have HV := Lib.hid (HN.out (by rw [HPP.out]; exact decide_eq_false hz))
            clear hz
            go_wp2_with (first | (go_at_call 83; refine (HAB.out _).mono ?_; rintro e w' ⟨rfl, rfl⟩))
            go_roundw
            case rel => exact ⟨k + 1, HKB.out.1, by rw [HKB.out.2.1], ⟨U2, by rw [HV.out, ← HLL.out]; exact HO2.out⟩, hx2⟩
            case measure => have := HKB.out.2.2; simp [intOf]; omega
        · have h9 : ¬ ((a + 1 + k : Nat) : Int) < 10 := by omega
          have hk9 : k = 9 - a := by omega
          have HV := Lib.hid (show prA P (a + 1) = prA P a ++ prR P a k by rw [prA, hk9])
          obtain ⟨b, hb⟩ : ∃ b, b = a + 1 + k := ⟨_, rfl⟩
          rw [← hb] at h9 ⊢
          clear hb hlt2 hk9 HO
          go_wp2
          exact ⟨⟨a + 1, by omega, by go_num, ⟨U2, by rw [HV.out]; exact HO2.out⟩, hx2⟩, by simp [intOf]; omega⟩
    · obtain rfl : a = 10 := by omega
      go_wp2
      go_ret
      exact ⟨_, U, rfl, by rw [HL0.out]; exact HO.out, hx⟩
end Go.Proofs.Ytdhcknknmloopaa
