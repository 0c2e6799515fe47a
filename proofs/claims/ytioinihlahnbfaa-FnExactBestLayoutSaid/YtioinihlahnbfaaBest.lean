/- The program's least presses and sizes of one row, and the tests of counts, the program's and the model's. No conditions. -/
import Derived.Test.YtioinihlahnbfaaCost
import Derived.Test.YtioinihlahnbfaaOwnS
import Derived.Deep.MidRow
import Derived.Deep.QuietTactic
import Derived.BigQuiet
namespace Go.Proofs.Ytioinihlahnbfaa
open Go.RowKit

/-- v is a list of numbers. -/
def IntsA (w : World) (v : Value) (zs : List Int) : Prop :=
  zs.length ≤ maxLen ∧ ((zs = [] ∧ ∃ x cap, v = .slice x 0 cap) ∨ ∃ b off cap, v = .slice (some ⟨b, off, none⟩) zs.length cap ∧ b < w.heap.size ∧ ∀ j (h : j < zs.length), w.cell? ⟨b, off + j, none⟩ = some (.int .i64 zs[j]))
theorem IntsA.ext {w w' : World} {v : Value} {zs : List Int} (h : IntsA w v zs) (hx : Ext w w') : IntsA w' v zs := by
  refine ⟨h.1, h.2.imp id fun ⟨b, off, cap, h1, h2, h3⟩ => ⟨b, off, cap, h1, Nat.lt_of_lt_of_le h2 hx.size, fun j hj => (hx.cell (p := ⟨b, off + j, none⟩) h2).trans (h3 j hj)⟩⟩
theorem IntsA.at {w : World} {v : Value} {zs : List Int} (h : IntsA w v zs) : ∃ a cap, v = .slice a zs.length cap := by
  rcases h.2 with ⟨rfl, x, cap, rfl⟩ | ⟨b, off, cap, rfl, _⟩
  · exact ⟨x, cap, rfl⟩
  · exact ⟨_, _, rfl⟩
def cf (zs : List Int) (j : Nat) : Nat := (zs.getD j 0).toNat
def okC (z : Int) : Bool := decide (0 ≤ z) && decide (z ≤ 1000)
def gB (zs : List Int) : Bool := decide (zs.length = 26) && zs.all okC
theorem gB_len {zs : List Int} (h : gB zs = true) : zs.length = 26 := by unfold gB at h; simp only [Bool.and_eq_true, decide_eq_true_eq] at h; exact h.1
theorem gB_all {zs : List Int} (h : gB zs = true) (j : Nat) (hj : j < zs.length) : 0 ≤ zs[j] ∧ zs[j] ≤ 1000 := by
  unfold gB at h
  simp only [Bool.and_eq_true, List.all_eq_true] at h
  have := h.2 zs[j] (List.getElem_mem hj)
  unfold okC at this
  simpa using this
theorem gB_no {zs : List Int} (h : ¬ zs.length = 26) : gB zs = false := by unfold gB; rw [decide_eq_false h]; rfl
theorem gB_bad {zs : List Int} (j : Nat) (hj : j < zs.length) (h : okC zs[j] = false) : gB zs = false := by
  unfold gB
  have : zs.all okC = false := by rw [List.all_eq_false]; exact ⟨zs[j], List.getElem_mem hj, by simp [h]⟩
  rw [this, Bool.and_false]
theorem gB_yes {zs : List Int} (h : zs.length = 26) (h2 : ∀ j (hj : j < zs.length), okC zs[j] = true) : gB zs = true := by
  unfold gB
  have : zs.all okC = true := by
    rw [List.all_eq_true]
    intro x hx
    obtain ⟨j, hj, rfl⟩ := List.mem_iff_getElem.1 hx
    exact h2 j hj
  rw [this, decide_eq_true h]; rfl
theorem cf_eq {zs : List Int} (h : gB zs = true) (j : Nat) (hj : j < zs.length) : zs[j] = (cf zs j : Int) := by
  unfold cf
  rw [List.getD_eq_getElem?_getD, List.getElem?_eq_getElem hj]
  have := (gB_all h j hj).1
  show zs[j] = ((zs[j].toNat : Nat) : Int)
  omega
theorem cf_le {zs : List Int} (h : gB zs = true) (j : Nat) : cf zs j ≤ 1000 := by
  by_cases hj : j < zs.length
  · have h1 := cf_eq h j hj
    have h2 := gB_all h j hj
    omega
  · unfold cf
    rw [List.getD_eq_getElem?_getD, List.getElem?_eq_none (by omega)]
    exact Nat.zero_le _

theorem areCounts_any (v : Value) (zs : List Int) (w : World) (h : IntsA w v zs) : Calls Try.prog 34 #[v] w fun e w' => e = .returned (.bool (gB zs)) ∧ Ext w w' := by
  have HS := Lib.hid h
  have hlm := h.1
  unfold maxLen at hlm
  obtain ⟨a, cap, hv⟩ := h.at
  rw [hv] at HS ⊢
  clear hv h v
  by_cases h26 : zs.length = 26
  rotate_left
  · have H := Lib.hid (gB_no h26)
    have t1 : ((zs.length : Int) == 26) = false := by simp; omega
    have t2 : ((zs.length : Int) != 26) = true := by simp; omega
    clear h26
    go_enter Try.func34, Try.ntmps34
    go_wp2
    go_ret
    exact ⟨ret_bool H.out.symm, Ext.refl _⟩
  have H26 := Lib.hid h26
  rw [h26]
  clear h26
  go_enter Try.func34, Try.ntmps34
  go_wp2
  go_loopw [10] (fun i wr => ∃ k : Nat, k ≤ 26 ∧ i = .int .i64 k ∧ (∀ j (hj : j < zs.length), j < k → okC zs[j] = true) ∧ Ext w wr) (fun i _ => 26 - (intOf i).toNat)
  case atStart => exact ⟨0, Nat.zero_le _, rfl, fun j _ h => absurd h (by omega), Ext.refl _⟩
  case round =>
    obtain ⟨k, hk, rfl, hall, hx⟩ := hrel
    have HA := Lib.hid hall
    clear hall
    by_cases hlt : k < 26
    · have hlz : k < zs.length := by have := H26.out; omega
      rcases (HS.out.ext hx).2 with ⟨h3, _⟩ | ⟨b, off, cap', h4, hb, hc⟩
      · rw [h3] at hlz; exact absurd hlz (by simp)
      have ha : a = some ⟨b, off, none⟩ := by injection h4
      have e1 := hc k hlz
      clear hc h4 hb
      subst ha
      obtain ⟨z, hz⟩ : ∃ z, z = zs[k] := ⟨_, rfl⟩
      have HZ := Lib.hid hz
      rw [← hz] at e1
      clear hz
      by_cases h1 : z < 0
      · have H := Lib.hid (gB_bad k hlz (by rw [← HZ.out]; unfold okC; rw [decide_eq_false (by omega)]; rfl))
        go_wp2
        go_ret
        exact ⟨ret_bool H.out.symm, hx⟩
      by_cases h2 : 1000 < z
      · have H := Lib.hid (gB_bad k hlz (by rw [← HZ.out]; unfold okC; rw [decide_eq_false (show ¬ z ≤ 1000 by omega), Bool.and_false]))
        go_wp2
        go_ret
        exact ⟨ret_bool H.out.symm, hx⟩
      have HN := Lib.hid (show ∀ j (hj : j < zs.length), j < k + 1 → okC zs[j] = true from fun j hj hjk => by
        by_cases e : j = k
        · subst e
          unfold okC
          rw [← HZ.out, decide_eq_true (show 0 ≤ z by omega), decide_eq_true (show z ≤ 1000 by omega)]; rfl
        · exact HA.out j hj (by omega))
      go_wp2
      go_roundw
      case rel => exact ⟨k + 1, by omega, by go_num, HN.out, hx⟩
      case measure => simp [intOf]; omega
    · have H := Lib.hid (gB_yes H26.out (fun j hj => HA.out j hj (by have := H26.out; omega)))
      go_wp2
      go_ret
      exact ⟨ret_bool H.out.symm, hx⟩

theorem wrap64_nat {n : Nat} (h : n < 9223372036854775808) : wrap64 (n : Int) = (n : Int) := by
  unfold wrap64
  omega

theorem wrap64_add {a b : Nat} (h : a + b < 9223372036854775808) : wrap64 ((a : Int) + (b : Int)) = ((a + b : Nat) : Int) := by
  rw [← Int.natCast_add]
  exact wrap64_nat h
theorem small_add {a b : Nat} (ha : a ≤ 26000 * 26) (hb : b ≤ 26 * 1000) : a + b < 9223372036854775808 := by omega
theorem small_add2 {a b : Nat} (ha : a ≤ 26000 * 26 + 26 * 1000) (hb : b ≤ 1099511627776) : a + b < 9223372036854775808 := by omega

theorem meas27 {E : Nat} (h : E ≤ 26) : 27 - (intOf (Value.int IntKind.i64 ((E : Int) + 1))).toNat < 27 - (intOf (Value.int IntKind.i64 (E : Int))).toNat := by
  show 27 - ((E : Int) + 1).toNat < 27 - ((E : Int)).toNat
  omega
theorem min_val (a b : Nat) : Value.int .i64 (if (a : Int) < (b : Int) then (a : Int) else (b : Int)) = Value.int .i64 ((min b a : Nat) : Int) := by
  congr 1
  split <;> omega

/-! ### A row of twenty-seven numbers, by value -/
def row27 (t : Nat → Int) : List Value := (List.range 27).map fun j => .int .i64 (t j)
theorem row27_len (t : Nat → Int) : (row27 t).length = 27 := by simp [row27]
theorem row27_new (t : Nat → Int) (w w' : World) (hx : Ext (w.alloc (.cells (row27 t).toArray 47)) w') (e : Nat) (he : e < 27) : w'.cell? ⟨w.heap.size, e, none⟩ = some (.int .i64 (t e)) := by
  refine (hx.cell (p := ⟨w.heap.size, e, none⟩) (by simp)).trans ?_
  rw [cell_of_row _ w.heap.size e _ _ _ (heap_alloc_new w _), List.getElem?_toArray]
  unfold row27
  rw [List.getElem?_map, List.getElem?_range he]
  rfl

set_option maxRecDepth 100000 in
set_option maxHeartbeats 600000 in
theorem leastFrom_any (v : Value) (zs : List Int) (i k : Nat) (w : World) (h : IntsA w v zs) (hg : gB zs = true) (hi : i ≤ 26) : Calls Try.prog 45 #[v, .int .i64 i, .agg (row27 fun e => (eZ (dp (cf zs) k e) : Int)).toArray] w fun e w' => e = .returned (.int .i64 (eZ (dp (cf zs) (k + 1) i) : Int)) ∧ Ext w w' := by
  have HS := Lib.hid h
  have HG := Lib.hid hg
  have h26 := gB_len hg
  obtain ⟨a, cap, hv⟩ := h.at
  rw [hv, h26] at HS ⊢
  clear hv h v hg
  obtain ⟨c, hcc⟩ : ∃ c, c = cf zs := ⟨_, rfl⟩
  have HC := Lib.hid (show ∀ j, c j ≤ 1000 from fun j => by rw [hcc]; exact cf_le HG.out j)
  have HCC := Lib.hid hcc
  rw [← hcc]
  clear hcc
  have HD := Lib.hid (dp_pm HC.out k i hi)
  obtain ⟨R, hR⟩ : ∃ R, R = (row27 fun e => (eZ (dp c k e) : Int)).toArray := ⟨_, rfl⟩
  have HCE := Lib.hid (show ∀ (e : Nat) (w' : World), e < 27 → Ext (w.alloc (.cells R 47)) w' → w'.cell? ⟨w.heap.size, e, none⟩ = some (.int .i64 (eZ (dp c k e) : Int)) from fun e w' he hx => by rw [hR] at hx; exact row27_new _ w w' hx e he)
  have X0 : Ext w (w.alloc (.cells R 47)) := (Ext.refl _).alloc _
  have HRS := Lib.hid hR
  rw [← hR]
  clear hR
  go_enter Try.func45, Try.ntmps45
  go_wp2
  go_loopw [7, 8, 9] (fun l o e wr => ∃ m : Nat, m ≤ 26 - i ∧ l = .int .i64 (pm (fun e => eZ (dp c k e)) c i m : Int) ∧ o = .int .i64 (sm c i m : Int) ∧ e = .int .i64 ((i + m + 1 : Nat) : Int) ∧ Ext (w.alloc (.cells R 47)) wr) (fun _ _ e _ => 27 - (intOf e).toNat)
  case atStart => exact ⟨0, Nat.zero_le _, rfl, rfl, by go_num, Ext.refl _⟩
  case round =>
    obtain ⟨m, hm, rfl, rfl, rfl, hx⟩ := hrel
    obtain ⟨E, hE⟩ : ∃ E, E = i + m + 1 := ⟨_, rfl⟩
    have HE := Lib.hid hE
    rw [← hE]
    clear hE
    by_cases hlt : m < 26 - i
    · have hE26 : E ≤ 26 := by have := HE.out; omega
      have hEi : (E : Int) ≤ 26 := by omega
      have hE27 : (E : Int) < 27 := by omega
      have hlz : i + m < zs.length := by omega
      have himi : ((i + m : Nat) : Int) < 26 := by omega
      have him0 : (0 : Int) ≤ ((i + m : Nat) : Int) := by omega
      have hm1 : m + 1 ≤ 26 - i := by omega
      rcases (HS.out.ext (X0.trans hx)).2 with ⟨h3, _⟩ | ⟨b, off, cap', h4, hb, hc⟩
      · rw [h3] at hlz; exact absurd hlz (by simp)
      have ha : a = some ⟨b, off, none⟩ := by injection h4
      have e1 := hc (i + m) hlz
      rw [cf_eq HG.out (i + m) hlz, ← HCC.out] at e1
      have d1 := HCE.out E _ (by omega) hx
      have hcle := HC.out (i + m)
      have hsle := sm_le HC.out i m (by omega)
      have hdle : eZ (dp c k E) ≤ 1099511627776 := eZ_le (by have := dp_bd HC.out k E hE26; omega)
      have HSM := Lib.hid (show sm c i (m + 1) = sm c i m + (m + 1) * c (i + m) from rfl)
      have HPM := Lib.hid (show pm (fun e => eZ (dp c k e)) c i (m + 1) = min (pm (fun e => eZ (dp c k e)) c i m) (sm c i (m + 1) + eZ (dp c k E)) by rw [pm, HE.out])
      clear hc h4 hb
      subst ha
      obtain ⟨C, hC⟩ : ∃ C, C = c (i + m) := ⟨_, rfl⟩
      obtain ⟨S, hS⟩ : ∃ S, S = sm c i m := ⟨_, rfl⟩
      obtain ⟨Dv, hDv⟩ : ∃ D, D = eZ (dp c k E) := ⟨_, rfl⟩
      obtain ⟨Pv, hPv⟩ : ∃ P, P = pm (fun e => eZ (dp c k e)) c i m := ⟨_, rfl⟩
      obtain ⟨M, hM⟩ : ∃ M, M = (m + 1) * C := ⟨_, rfl⟩
      have hMle : M ≤ 26 * 1000 := by rw [hM]; exact Nat.mul_le_mul (by omega) (by omega)
      rw [← hC] at e1 HSM
      rw [← hS] at hsle HSM
      rw [← hDv] at d1 hdle HPM
      rw [← hPv] at HPM
      rw [← hM] at HSM
      rw [← hS, ← hPv]
      have Wa : IntKind.i64.wrap ((E : Int) - 1) = ((i + m : Nat) : Int) := by simp only [IntKind.wrap_i64]; have := HE.out; omega
      have Wb : IntKind.i64.wrap ((E : Int) - (i : Int)) = ((m + 1 : Nat) : Int) := by simp only [IntKind.wrap_i64]; have := HE.out; omega
      have hCM : (C : Int) * ((m : Int) + 1) = (M : Int) := by rw [hM, Int.natCast_mul, Int.mul_comm]; rfl
      have Wc : wrap64 ((C : Int) * ((m : Int) + 1)) = (M : Int) := by rw [hCM]; exact wrap64_nat (by omega)
      obtain ⟨S2, hS2⟩ : ∃ S2, S2 = S + M := ⟨_, rfl⟩
      have hSle : S ≤ 26000 * 26 := Nat.le_trans hsle (Nat.mul_le_mul_left _ (by omega))
      have Wd : wrap64 ((S : Int) + (M : Int)) = (S2 : Int) := by rw [hS2]; exact wrap64_add (small_add hSle hMle)
      obtain ⟨T2, hT2⟩ : ∃ T2, T2 = S2 + Dv := ⟨_, rfl⟩
      have We : wrap64 ((S2 : Int) + (Dv : Int)) = (T2 : Int) := by rw [hT2]; exact wrap64_add (small_add2 (hS2 ▸ Nat.add_le_add hSle hMle) hdle)
      have HW := Lib.hid (And.intro Wc (And.intro Wd We))
      have HS2 := Lib.hid hS2
      have HT2 := Lib.hid hT2
      clear hC hS hDv hPv hM hCM Wc Wd We hS2 hT2 hMle hSle hsle hdle hcle
      go_wp2
      rw [HW.out.1, HW.out.2.1, HW.out.2.2]
      refine ⟨⟨m + 1, hm1, ?_, by rw [HSM.out, ← HS2.out], by rw [HE.out]; go_num, hx⟩, meas27 hE26⟩
      rw [HPM.out, HSM.out, ← HS2.out, ← HT2.out]
      exact min_val T2 Pv
    · obtain rfl : m = 26 - i := by omega
      have hEn : ¬ (E : Int) ≤ 26 := by have := HE.out; omega
      go_wp2
      go_ret
      exact ⟨by rw [HD.out]; rfl, X0.trans hx⟩

theorem ne_beq {a b : Nat} (h : ¬ a = b) : ((a : Int) == (b : Int)) = false := by simp; omega
theorem eq_eZ {s d t : Nat} (ht : t < 1000000000) (hd : d = 1000000000 ∨ d < 1000000000) : s + eZ d = t ↔ s + d = t := by
  rcases hd with h | h
  · subst h
    rw [eZ_no]
    omega
  · rw [eZ_lt h]

set_option maxRecDepth 100000 in
set_option maxHeartbeats 600000 in
theorem bestSize_any (v : Value) (zs : List Int) (i k : Nat) (w : World) (h : IntsA w v zs) (hg : gB zs = true) (hi : i ≤ 26) (hfin : dp (cf zs) (k + 1) i < 1000000000) : Calls Try.prog 36 #[v, .int .i64 i, .agg (row27 fun e => (eZ (dp (cf zs) k e) : Int)).toArray, .int .i64 (eZ (dp (cf zs) (k + 1) i) : Int)] w fun e w' => e = .returned (.int .i64 (size (cf zs) k i : Int)) ∧ Ext w w' := by
  have HS := Lib.hid h
  have HG := Lib.hid hg
  have h26 := gB_len hg
  obtain ⟨a, cap, hv⟩ := h.at
  rw [hv, h26] at HS ⊢
  clear hv h v hg
  obtain ⟨c, hcc⟩ : ∃ c, c = cf zs := ⟨_, rfl⟩
  have HC := Lib.hid (show ∀ j, c j ≤ 1000 from fun j => by rw [hcc]; exact cf_le HG.out j)
  have HCC := Lib.hid hcc
  rw [← hcc]
  clear hcc
  rw [eZ_lt (show dp c (k + 1) i < 1000000000 by rw [HCC.out]; exact hfin)]
  obtain ⟨t, htt⟩ : ∃ t, t = dp c (k + 1) i := ⟨_, rfl⟩
  have ht9 : t < 1000000000 := by rw [htt, HCC.out]; exact hfin
  have HSO := Lib.hid (size_ok HC.out k i hi (by rw [← htt]; exact ht9)).1
  have HSZ := Lib.hid (show fsz (dp c k) c t i (26 - i) 0 = size c k i by rw [htt]; rfl)
  rw [← htt]
  clear htt hfin
  obtain ⟨R, hR⟩ : ∃ R, R = (row27 fun e => (eZ (dp c k e) : Int)).toArray := ⟨_, rfl⟩
  have HCE := Lib.hid (show ∀ (e : Nat) (w' : World), e < 27 → Ext (w.alloc (.cells R 47)) w' → w'.cell? ⟨w.heap.size, e, none⟩ = some (.int .i64 (eZ (dp c k e) : Int)) from fun e w' he hx => by rw [hR] at hx; exact row27_new _ w w' hx e he)
  have X0 : Ext w (w.alloc (.cells R 47)) := (Ext.refl _).alloc _
  have HRS := Lib.hid hR
  rw [← hR]
  clear hR
  go_enter Try.func36, Try.ntmps36
  go_wp2
  go_loopw [9, 10] (fun o e wr => ∃ m : Nat, m ≤ 26 - i ∧ fsz (dp c k) c t i (26 - i - m) m = size c k i ∧ o = .int .i64 (sm c i m : Int) ∧ e = .int .i64 ((i + m + 1 : Nat) : Int) ∧ Ext (w.alloc (.cells R 47)) wr) (fun _ e _ => 27 - (intOf e).toNat)
  case atStart => exact ⟨0, Nat.zero_le _, HSZ.out, rfl, by go_num, Ext.refl _⟩
  case round =>
    obtain ⟨m, hm, hfs, rfl, rfl, hx⟩ := hrel
    have HFS := Lib.hid hfs
    clear hfs
    obtain ⟨E, hE⟩ : ∃ E, E = i + m + 1 := ⟨_, rfl⟩
    have HE := Lib.hid hE
    rw [← hE]
    clear hE
    by_cases hlt : m < 26 - i
    · have hE26 : E ≤ 26 := by have := HE.out; omega
      have hEi : (E : Int) ≤ 26 := by omega
      have hE27 : (E : Int) < 27 := by omega
      have hlz : i + m < zs.length := by omega
      have himi : ((i + m : Nat) : Int) < 26 := by omega
      have him0 : (0 : Int) ≤ ((i + m : Nat) : Int) := by omega
      have hm1 : m + 1 ≤ 26 - i := by omega
      rcases (HS.out.ext (X0.trans hx)).2 with ⟨h3, _⟩ | ⟨b, off, cap', h4, hb, hc⟩
      · rw [h3] at hlz; exact absurd hlz (by simp)
      have ha : a = some ⟨b, off, none⟩ := by injection h4
      have e1 := hc (i + m) hlz
      rw [cf_eq HG.out (i + m) hlz, ← HCC.out] at e1
      have d1 := HCE.out E _ (by omega) hx
      have hcle := HC.out (i + m)
      have hsle := sm_le HC.out i m (by omega)
      have hdle : eZ (dp c k E) ≤ 1099511627776 := eZ_le (by have := dp_bd HC.out k E hE26; omega)
      have HSM := Lib.hid (show sm c i (m + 1) = sm c i m + (m + 1) * c (i + m) from rfl)
      have HEQ := Lib.hid (eq_eZ (s := sm c i (m + 1)) (d := dp c k E) ht9 (by have := dp_bd HC.out k E hE26; omega))
      have HF1 := Lib.hid (show 26 - i - m = (26 - i - (m + 1)) + 1 by omega)
      clear hc h4 hb
      subst ha
      obtain ⟨C, hC⟩ : ∃ C, C = c (i + m) := ⟨_, rfl⟩
      obtain ⟨S, hS⟩ : ∃ S, S = sm c i m := ⟨_, rfl⟩
      obtain ⟨Dv, hDv⟩ : ∃ D, D = eZ (dp c k E) := ⟨_, rfl⟩
      obtain ⟨M, hM⟩ : ∃ M, M = (m + 1) * C := ⟨_, rfl⟩
      have hMle : M ≤ 26 * 1000 := by rw [hM]; exact Nat.mul_le_mul (by omega) (by omega)
      rw [← hC] at e1 HSM
      rw [← hS] at hsle HSM
      rw [← hDv] at d1 hdle HEQ
      rw [← hM] at HSM
      rw [← hS]
      have Wa : IntKind.i64.wrap ((E : Int) - 1) = ((i + m : Nat) : Int) := by simp only [IntKind.wrap_i64]; have := HE.out; omega
      have Wb : IntKind.i64.wrap ((E : Int) - (i : Int)) = ((m + 1 : Nat) : Int) := by simp only [IntKind.wrap_i64]; have := HE.out; omega
      have hCM : (C : Int) * ((m : Int) + 1) = (M : Int) := by rw [hM, Int.natCast_mul, Int.mul_comm]; rfl
      have Wc : wrap64 ((C : Int) * ((m : Int) + 1)) = (M : Int) := by rw [hCM]; exact wrap64_nat (by omega)
      obtain ⟨S2, hS2⟩ : ∃ S2, S2 = S + M := ⟨_, rfl⟩
      have hSle : S ≤ 26000 * 26 := Nat.le_trans hsle (Nat.mul_le_mul_left _ (by omega))
      have Wd : wrap64 ((S : Int) + (M : Int)) = (S2 : Int) := by rw [hS2]; exact wrap64_add (small_add hSle hMle)
      obtain ⟨T2, hT2⟩ : ∃ T2, T2 = S2 + Dv := ⟨_, rfl⟩
      have We : wrap64 ((S2 : Int) + (Dv : Int)) = (T2 : Int) := by rw [hT2]; exact wrap64_add (small_add2 (hS2 ▸ Nat.add_le_add hSle hMle) hdle)
      have HW := Lib.hid (And.intro Wc (And.intro Wd We))
      have HS2 := Lib.hid hS2
      have HT2 := Lib.hid hT2
      clear hC hS hDv hM hCM Wc Wd We hS2 hT2 hMle hSle hsle hdle hcle
      by_cases hT : T2 = t
      · have HIT := Lib.hid (show size c k i = m + 1 by rw [← HFS.out, HF1.out]; exact fsz_hit (by rw [← HE.out]; exact HEQ.out.1 (by rw [HSM.out, ← HS2.out, ← HT2.out]; exact hT)))
        have t1 : (wrap64 (wrap64 ((S : Int) + wrap64 ((C : Int) * ((m : Int) + 1))) + (Dv : Int)) == (t : Int)) = true := by rw [HW.out.1, HW.out.2.1, HW.out.2.2, hT]; simp
        clear hT
        go_wp2
        go_ret
        exact ⟨by rw [HIT.out]; go_num, X0.trans hx⟩
      · have HMI := Lib.hid (show fsz (dp c k) c t i (26 - i - (m + 1)) (m + 1) = size c k i by rw [← HFS.out, HF1.out, fsz_miss (by rw [← HE.out]; exact fun he => hT (by rw [HT2.out, HS2.out, ← HSM.out]; exact HEQ.out.2 he))])
        have t1 : (wrap64 (wrap64 ((S : Int) + wrap64 ((C : Int) * ((m : Int) + 1))) + (Dv : Int)) == (t : Int)) = false := by rw [HW.out.1, HW.out.2.1, HW.out.2.2]; exact ne_beq hT
        clear hT
        go_wp2
        rw [HW.out.1, HW.out.2.1]
        exact ⟨⟨m + 1, hm1, HMI.out, by rw [HSM.out, ← HS2.out], by rw [HE.out]; go_num, hx⟩, meas27 hE26⟩
    · obtain rfl : m = 26 - i := by omega
      exact absurd HFS.out (by rw [Nat.sub_self]; exact fun he => by have h1 := HSO.out; rw [← he] at h1; exact absurd h1 (Nat.not_succ_le_zero 0))

end Go.Proofs.Ytioinihlahnbfaa
