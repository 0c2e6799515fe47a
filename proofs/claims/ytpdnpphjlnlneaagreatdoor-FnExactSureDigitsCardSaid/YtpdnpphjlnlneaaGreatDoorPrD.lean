/- Numbers by their ranks: their digits and their texts; the program's side. No conditions. -/
import Derived.Test.YtpdnpphjlnlneaaGreatDoorNm
import Derived.Test.YtpdnpphjlnlneaaGreatDoorDgTx
namespace Go.Proofs.YtpdnpphjlnlneaaGreatDoor
open Go.RowKit

/-- What is left of a rank behind so many digits. -/
def rkD (D r : Nat) : Nat → Nat
  | 0 => r
  | t + 1 => rkD D r t / D
theorem rkD_le (D r : Nat) : ∀ t, rkD D r t ≤ r
  | 0 => Nat.le_refl _
  | t + 1 => Nat.le_trans (Nat.div_le_self _ _) (rkD_le D r t)
/-- The digits of a rank. -/
def prD (D r n : Nat) : List Nat := (List.range n).map fun j => rkD D r (n - 1 - j) % D
theorem prD_len (D r n : Nat) : (prD D r n).length = n := by unfold prD; rw [List.length_map, List.length_range]
theorem prD_at (D r n j : Nat) (h : j < n) : (prD D r n)[j]? = some (rkD D r (n - 1 - j) % D) := by
  unfold prD
  rw [List.getElem?_map, List.getElem?_range h]; rfl
theorem prD_lt {D r n : Nat} (hD : 1 ≤ D) (hD2 : D ≤ 10) : ∀ q ∈ prD D r n, q < 10 := by
  intro q hq
  obtain ⟨j, _, rfl⟩ := List.mem_map.1 hq
  have := Nat.mod_lt (rkD D r (n - 1 - j)) (show 0 < D by omega)
  show rkD D r (n - 1 - j) % D < 10
  omega
theorem rem_nat (a b : Nat) (hb : 1 ≤ b) (w : World) : (binOp .rem 3 (.int .i64 (a : Int)) (.int .i64 (b : Int))).run Tryz.prog w = .ok (.int .i64 ((a % b : Nat) : Int)) w := by
  have hb0 : ¬ (b : Int) = 0 := by omega
  have hb1 : ¬ b = 0 := by omega
  have e : Int.tmod (a : Int) (b : Int) = ((a % b : Nat) : Int) := by rw [Int.tmod_eq_emod_of_nonneg (by omega)]; simp
  simp [go_sem, hb1, e]
theorem quo_nat (a b : Nat) (hb : 1 ≤ b) (ha : a ≤ 1000000) (w : World) : (binOp .quo 3 (.int .i64 (a : Int)) (.int .i64 (b : Int))).run Tryz.prog w = .ok (.int .i64 ((a / b : Nat) : Int)) w := by
  have hb1 : ¬ b = 0 := by omega
  have hle : a / b ≤ a := Nat.div_le_self _ _
  have e3 : (a : Int) / (b : Int) = ((a / b : Nat) : Int) := by simp
  have e : Int.tdiv (a : Int) (b : Int) = ((a / b : Nat) : Int) := by rw [Int.tdiv_eq_ediv_of_nonneg (by omega), e3]
  generalize a / b = c at hle e e3 ⊢
  have e2 : IntKind.i64.wrap (c : Int) = (c : Int) := by simp only [IntKind.wrap_i64]; omega
  simp [go_sem, hb1, e, e2]

set_option maxHeartbeats 1000000 in
theorem pinOf_any (D r n : Nat) (w : World) (hD : 1 ≤ D) (hD2 : D ≤ 10) (hr : r ≤ 100000) (hn : 1 ≤ n) (hn2 : n ≤ 4) : Calls Tryz.prog 89 #[.int .i64 r, .int .i64 D, .int .i64 n] w fun e w' => e = .returned (.string (dT (prD D r n))) ∧ Ext w w' := by
  obtain ⟨i0, hi, hz0, hzs, hzb⟩ := info_parts info_intP
  have HI := Lib.hid (show Tryz.prog.info? 3 = some i0 ∧ i0.zero = some (.int .i64 0) ∧ i0.size = 1 ∧ i0.bytes = 8 from ⟨hi, hz0, hzs, hzb⟩)
  clear hi hz0 hzs hzb
  have Wn : IntKind.i64.wrap ((n : Int) - 1) = (n : Int) - 1 := by simp only [IntKind.wrap_i64]; omega
  go_enter Tryz.func89, Tryz.ntmps89
  go_wp2_with (at_make; refine wpList_make_full _ rfl _ _ 42 rfl w.heap.size 3 i0 (.int .i64 0) 1 Tryz.underlying42 HI.out.1 HI.out.2.1 HI.out.2.2.1 .i64 .i64 _ _ n rfl rfl rfl rfl (by rw [HI.out.2.2.2]; omega) (by unfold maxLen; omega) (Nat.le_refl _) ?_; intro w1 hown hgr)
  have X1 : Ext w w1 := ext_grown (Ext.refl w) hgr (by intro k hk; cases hk)
  obtain ⟨xs1, hxs1⟩ : ∃ xs, xs = (madeCells (Value.int .i64 0).cells (n * 1)).toList := ⟨_, rfl⟩
  rw [← hxs1] at hown
  clear hxs1 hgr
  go_loopw [0, 8] (fun q i wr => ∃ (t : Nat) (x : Int), t ≤ n ∧ i = .int .i64 x ∧ x = (n : Int) - 1 - (t : Int) ∧ q = .int .i64 (rkD D r t : Nat) ∧ ∃ xs : List Value, wr.ownsRow w.heap.size 3 1 (.slice (some ⟨w.heap.size, 0, none⟩) n n) n xs ∧ (∀ j, j < n → n - t ≤ j → xs[j]? = some (.int .i64 ((rkD D r (n - 1 - j) % D : Nat) : Int))) ∧ Ext w wr) (fun _ i _ => (intOf i + 1).toNat)
  case atStart => exact ⟨0, _, Nat.zero_le _, rfl, by omega, rfl, xs1, hown, fun j h h2 => absurd h2 (by omega), X1⟩
  case round =>
    obtain ⟨t, x, ht, rfl, hxt, rfl, xs, hown, hxs, hx⟩ := hrel
    have HO := Lib.hid hown
    have HX := Lib.hid hxs
    clear hown hxs
    by_cases h0 : 0 ≤ x
    · obtain ⟨i, rfl⟩ : ∃ i : Nat, x = (i : Int) := Int.eq_ofNat_of_zero_le h0
      have hin : i < n := by omega
      have hti : n - 1 - i = t := by omega
      have HT := Lib.hid hti
      have hlen : xs.length = n := by have := HO.out.1; omega
      obtain ⟨u, hu⟩ : ∃ u, xs[i]? = some u := ⟨xs[i]'(by omega), List.getElem?_eq_getElem _⟩
      have hc3 := (HO.out.cellAt i (by omega)).trans hu
      have hf3 := HO.out.frozenAt i
      have hrl := rkD_le D r t
      have HS := Lib.hid (show rkD D r (t + 1) = rkD D r t / D from rfl)
      obtain ⟨R, hR⟩ : ∃ R, R = rkD D r t := ⟨_, rfl⟩
      rw [← hR] at hrl HS ⊢
      have HRE := Lib.hid hR
      have EQ : (R : Int) % (D : Int) = ((R % D : Nat) : Int) := by simp
      have EP : (R : Int) / (D : Int) = ((R / D : Nat) : Int) := by simp
      obtain ⟨Q, hQ⟩ : ∃ Q, Q = R % D := ⟨_, rfl⟩
      obtain ⟨P, hP⟩ : ∃ P, P = R / D := ⟨_, rfl⟩
      rw [← hQ] at EQ
      rw [← hP] at EP HS
      have WP : IntKind.i64.wrap (P : Int) = (P : Int) := by
        have : P ≤ R := by rw [hP]; exact Nat.div_le_self _ _
        simp only [IntKind.wrap_i64]; omega
      have HQ := Lib.hid hQ
      have hini : (i : Int) < (n : Int) := by omega
      have hPle : P ≤ 100000 := by rw [hP]; exact Nat.le_trans (Nat.div_le_self _ _) (by omega)
      have hDz : ¬ D = 0 := by omega
      have HXT := Lib.hid hxt
      clear hu hlen hR hQ hP hti hxt
      go_wp2
      go_roundw
      case rel =>
        refine ⟨t + 1, _, by have := HT.out; omega, rfl, by have := HXT.out; omega, by rw [HS.out], xs.set i (.int .i64 (Q : Int)), (HO.out.stored i _).1, ?_, hx.setCell (p := ⟨w.heap.size, i, none⟩) (Nat.le_refl _) _⟩
        intro j hj hjt
        by_cases e : j = i
        · subst e
          rw [List.getElem?_set_self (by have := HO.out.1; omega), HT.out, HQ.out, HRE.out]
        · rw [List.getElem?_set_ne (by omega)]
          exact HX.out j hj (by have := HT.out; omega)
      case measure => simp [intOf]
    · have htn : t = n := by omega
      have hxs2 : xs = pcs (prD D r n) := by
        apply List.ext_getElem?
        intro j
        by_cases hj : j < n
        · rw [HX.out j hj (by omega)]
          unfold pcs
          rw [List.getElem?_map, prD_at D r n j hj]
          rfl
        · rw [List.getElem?_eq_none (by have := HO.out.1; omega), List.getElem?_eq_none (by rw [pcs_len, prD_len]; omega)]
      have HPS := Lib.hid (show Ps wr (.slice (some ⟨w.heap.size, 0, none⟩) n n) (prD D r n) by
        have h1 := HO.out
        rw [hxs2] at h1
        have h2 : RowP w.heap.size wr (.slice (some ⟨w.heap.size, 0, none⟩) n n) (prD D r n) := by
          unfold RowP
          rw [prD_len]
          exact h1
        exact h2.ps (by rw [prD_len]; unfold maxLen; omega))
      clear hxs2 htn
      go_wp2_with fail
      refine (digitsText_any _ _ _ HPS.out (prD_lt hD hD2) (by rw [prD_len]; omega)).mono ?_
      rintro e w5 ⟨rfl, x5⟩
      go_wp2
      go_ret
      exact ⟨rfl, hx.trans x5⟩

/-! ### How many pins -/
def sfD (D r n k : Nat) : List Nat := (prD D r n).drop (n - k)
theorem sfD_0 (D r n : Nat) : sfD D r n 0 = [] := by unfold sfD; rw [Nat.sub_zero, List.drop_of_length_le (by rw [prD_len]; exact Nat.le_refl _)]
theorem sfD_all (D r n : Nat) : sfD D r n n = prD D r n := by unfold sfD; rw [Nat.sub_self, List.drop_zero]
theorem sfD_len (D r n k : Nat) (h : k ≤ n) : (sfD D r n k).length = k := by unfold sfD; rw [List.length_drop, prD_len]; omega
theorem sfD_succ (D r n k : Nat) (h : k < n) : sfD D r n (k + 1) = (rkD D r k % D) :: sfD D r n k := by
  unfold sfD
  have hl : n - (k + 1) < (prD D r n).length := by rw [prD_len]; omega
  have e := List.drop_eq_getElem_cons hl
  rw [e]
  congr 1
  · have h1 := prD_at D r n (n - (k + 1)) (by omega)
    rw [List.getElem?_eq_getElem hl] at h1
    injection h1 with h1
    rw [h1, show n - 1 - (n - (k + 1)) = k by omega]
  · rw [show n - (k + 1) + 1 = n - k by omega]
theorem dT_cons (d : Nat) (L : List Nat) : dg1T d ++ dT L = dT (d :: L) := by
  apply ByteArray.ext
  rw [ByteArray.data_append]
  unfold dT dA dg1T
  simp

end Go.Proofs.YtpdnpphjlnlneaaGreatDoor
