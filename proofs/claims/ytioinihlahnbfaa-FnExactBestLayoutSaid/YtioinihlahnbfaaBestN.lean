/- The model's table of least presses, made. No conditions. -/
import Derived.Test.YtioinihlahnbfaaBestM
namespace Go.Proofs.Ytioinihlahnbfaa
open Go.RowKit

/-- All rows, in memory of the call's own. -/
def ResM (c : Nat → Nat) (n : Nat) (w : World) (e : Ending) (w' : World) : Prop := ∃ vo U, e = .returned vo ∧ Rows2 w.heap.size w' vo c (n + 1) U ∧ Ext w w'
theorem fill_first (c : Nat → Nat) (e : Nat) : (if e < 26 then (1000000000 : Int) else 0) = (dp c 0 e : Int) := by
  rw [dp]
  by_cases h : e < 26
  · rw [if_pos h, if_pos h]; rfl
  · rw [if_neg h, if_neg h]; rfl

/-- The row while the sums of a place are gone through. -/
def rowM (c : Nat → Nat) (K i m e : Nat) : Int := if e = i then (dm (dp c K) c i m : Int) else if e < i then (dp c (K + 1) e : Int) else 0

theorem rowM_next (c : Nat → Nat) (K i m : Nat) (e : Nat) : (if e = i then (dm (dp c K) c i (m + 1) : Int) else rowM c K i m e) = rowM c K i (m + 1) e := by
  unfold rowM
  by_cases h : e = i
  · rw [if_pos h, if_pos h]
  · rw [if_neg h, if_neg h, if_neg h]
theorem rowM_end (c : Nat → Nat) (K i e : Nat) : rowM c K i (26 - i) e = if e < i + 1 then (dp c (K + 1) e : Int) else 0 := by
  unfold rowM
  by_cases h : e = i
  · subst h
    rw [if_pos rfl, if_pos (by omega)]; rfl
  · rw [if_neg h]
    by_cases h2 : e < i
    · rw [if_pos h2, if_pos (by omega)]
    · rw [if_neg h2, if_neg (by omega)]
theorem meas28 {E : Nat} (h : E ≤ 26) : 28 - (intOf (Value.int IntKind.i64 ((E : Int) + 1))).toNat < 28 - (intOf (Value.int IntKind.i64 (E : Int))).toNat := by
  show 28 - ((E : Int) + 1).toNat < 28 - ((E : Int)).toNat
  omega
theorem leastN_any (a b : Nat) (w : World) : Calls Try.prog 44 #[.int .i64 (a : Int), .int .i64 (b : Int)] w fun e w' => e = .returned (.int .i64 ((min a b : Nat) : Int)) ∧ w = w' :=
  (least_any a b w).mono fun e w' h => ⟨h.1.trans (by congr 2; split <;> omega), h.2⟩
theorem wrapI_add {a b : Nat} (h : a + b < 9223372036854775808) : IntKind.i64.wrap ((a : Int) + (b : Int)) = ((a + b : Nat) : Int) := by
  simp only [IntKind.wrap_i64]
  omega
theorem small26 {a : Nat} (h : a ≤ 26 * 1000) : a < 9223372036854775808 := by omega

set_option maxRecDepth 100000 in
set_option maxHeartbeats 4000000 in
theorem prBest_any (v : Value) (zs : List Int) (n : Nat) (w : World) (h : IntsA w v zs) (hg : gB zs = true) (hn : n ≤ 8) : Calls Try.prog 33 #[v, .int .i64 n] w (ResM (cf zs) n w) := by
  have HS := Lib.hid h
  have HG := Lib.hid hg
  have h26 := gB_len hg
  obtain ⟨a, cap, hv⟩ := h.at
  rw [hv, h26] at HS ⊢
  clear hv h v hg
  obtain ⟨c, hcc⟩ : ∃ c, c = cf zs := ⟨_, rfl⟩
  have HC := Lib.hid (show ∀ j, c j ≤ 1000 from fun j => by rw [hcc]; exact cf_le HG.out j)
  have HCC := Lib.hid hcc
  rw [← hcc]
  clear hcc
  obtain ⟨i0, hi, hz0, hzs, hzb⟩ := info_parts info_intB
  have HI := Lib.hid (show Try.prog.info? 3 = some i0 ∧ i0.zero = some (.int .i64 0) ∧ i0.size = 1 ∧ i0.bytes = 8 from ⟨hi, hz0, hzs, hzb⟩)
  clear hi hz0 hzs hzb
  obtain ⟨j0, hi, hz0, hzs, hzb⟩ := info_parts info_lsI
  have HJ := Lib.hid (show Try.prog.info? 31 = some j0 ∧ j0.zero = some (.slice none 0 0) ∧ j0.size = 1 ∧ j0.bytes = 24 from ⟨hi, hz0, hzs, hzb⟩)
  clear hi hz0 hzs hzb
  go_enter Try.func33, Try.ntmps33
  go_wp2_with (at_make; refine wpList_make_full _ rfl _ _ 31 rfl w.heap.size 3 i0 (.int .i64 0) 1 Try.underlying31 HI.out.1 HI.out.2.1 HI.out.2.2.1 .i64 .i64 _ _ 27 rfl rfl rfl rfl (by rw [HI.out.2.2.2]; omega) (by unfold maxLen; omega) (Nat.le_refl _) ?_; intro w1 hown1 hgr1)
  have X1 : Ext w w1 := ext_grown (Ext.refl w) hgr1 (by intro k hk; cases hk)
  have R1 := Lib.hid (RowT.made hown1 rfl)
  clear hown1 hgr1
  go_loopw [7] (fun q wr => ∃ k : Nat, k ≤ 26 ∧ q = .int .i64 k ∧ RowT w.heap.size wr w.heap.size (fun e => if e < k then 1000000000 else 0) ∧ Ext w wr) (fun q _ => 26 - (intOf q).toNat)
  case atStart => exact ⟨0, Nat.zero_le _, rfl, R1.out.congr (fun e _ => by rw [if_neg (by omega)]), X1⟩
  case round =>
    obtain ⟨k, hk, rfl, hT, hx⟩ := hrel
    have HT := Lib.hid hT
    clear hT
    by_cases hlt : k < 26
    · have c0 := HT.out.at k (by omega)
      have f0 := HT.out.fr k
      have hki : (k : Int) < 27 := by omega
      have hk27 : k < 27 := by omega
      have HN := Lib.hid ((HT.out.set k 1000000000).congr (t' := fun e => if e < k + 1 then 1000000000 else 0) (fun e _ => by
        by_cases h1 : e = k
        · rw [if_pos h1, if_pos (by omega)]
        · rw [if_neg h1]
          by_cases h2 : e < k
          · rw [if_pos h2, if_pos (by omega)]
          · rw [if_neg h2, if_neg (by omega)]))
      go_wp2
      go_roundw
      case rel => exact ⟨k + 1, by omega, by go_num, HN.out, hx.setCell (Nat.le_refl _) _⟩
      case measure => simp [intOf]; omega
    · have hk26 : k = 26 := by omega
      have HT0 := Lib.hid (HT.out.congr (t' := fun e => (dp c 0 e : Int)) (fun e _ => by rw [hk26]; exact fill_first c e))
      have hkk : ¬ (k : Int) < 26 := by omega
      clear hk26 hk hlt HT
      generalize k = k0 at hkk ⊢
      have HNIL := Lib.hid (show Rows2 w.heap.size wr (.slice none 0 0) c 0 (fun _ => 0) from ⟨World.ownsRow_nil _ _ _ _, fun k hk => absurd hk (by omega)⟩)
      go_wp2_with (at_builtin; refine wpList_append_own _ rfl _ _ 44 rfl w.heap.size 31 j0 (.slice none 0 0) 1 24 Try.underlying44 HJ.out.1 HJ.out.2.1 HJ.out.2.2.1 HJ.out.2.2.2 rfl (by decide) _ _ _ rfl (World.ownsRow.alloc HNIL.out.1 _) ⟨_, 0, none⟩ 1 1 [.slice (some ⟨w.heap.size, 0, none⟩) 27 27] rfl rfl (cell_one_new _ _ _) (by intro u hu; simp at hu; subst hu; rfl) (by unfold maxLen; omega) (by omega) (by have := hx.size; simp; omega) ?_; intro v5 w5 own5 gr5 _)
      have X5 : Ext w w5 := ext_grown (hx.alloc _) gr5 (fun j hj => by cases hj)
      have RS := Lib.hid (Rows2.snoc HNIL.out HT0.out own5 gr5)
      clear own5 gr5
      go_wp2
      go_loopw [5, 8] (fun o q wy => ∃ (L : Nat) (U : Nat → Nat), 1 ≤ L ∧ L ≤ n + 1 ∧ q = .int .i64 L ∧ Rows2 w.heap.size wy o c L U ∧ Ext w wy) (fun _ q _ => n + 2 - (intOf q).toNat)
      case atStart => exact ⟨1, _, Nat.le_refl _, by omega, rfl, RS.out, X5⟩
      case round =>
        obtain ⟨L, U, hL1, hL, rfl, hRS, hx2⟩ := hrel
        obtain ⟨w0, rfl⟩ : ∃ w0, w0 = wr := ⟨_, rfl⟩
        have HRS := Lib.hid hRS
        obtain ⟨ao, co, rfl⟩ := hRS.shape
        clear hRS
        by_cases hle : L ≤ n
        · obtain ⟨K, hLK⟩ : ∃ K, L = K + 1 := ⟨L - 1, by omega⟩
          have HLK := Lib.hid hLK
          obtain ⟨go, rfl, _, hgo, co1⟩ := HRS.out.at K (by omega)
          have HCO := Lib.hid co1
          have HKR := Lib.hid (HRS.out.2 K (by omega))
          obtain ⟨gk, hgk⟩ : ∃ g, g = U K := ⟨_, rfl⟩
          rw [← hgk] at HKR HCO
          have hgkl : gk < w0.heap.size := HKR.out.lt.2
          clear hgk co1
          have hLi : (L : Int) ≤ (n : Int) := by omega
          have Wm : IntKind.i64.wrap ((L : Int) - 1) = (K : Int) := by simp only [IntKind.wrap_i64]; omega
          have hKL : K < L := by omega
          have hKLi : (K : Int) < (L : Int) := by omega
          have hL8 : L ≤ 9 := by omega
          clear hLK
          go_wp2_with (at_make; refine wpList_make_full _ rfl _ _ 31 rfl w.heap.size 3 i0 (.int .i64 0) 1 Try.underlying31 HI.out.1 HI.out.2.1 HI.out.2.2.1 .i64 .i64 _ _ 27 rfl rfl rfl rfl (by rw [HI.out.2.2.2]; omega) (by unfold maxLen; omega) hx2.size ?_; intro w3 hown3 hgr3)
          have X3 : Ext w0 w3 := ext_grown (Ext.refl w0) hgr3 (by intro k hk; cases hk)
          have R3 := Lib.hid (RowT.made hown3 rfl)
          clear hown3 hgr3
          go_loopw [10] (fun q wz => ∃ i : Nat, i ≤ 27 ∧ q = .int .i64 i ∧ RowT w.heap.size wz w0.heap.size (fun e => if e < i then (dp c L e : Int) else 0) ∧ Ext w0 wz) (fun q _ => 27 - (intOf q).toNat)
          case atStart => exact ⟨0, Nat.zero_le _, rfl, R3.out.congr (fun e _ => by rw [if_neg (by omega)]), X3⟩
          case round =>
            obtain ⟨i, hi, rfl, hT, hx4⟩ := hrel
            have HT := Lib.hid hT
            clear hT
            by_cases hi27 : i < 27
            · have c0 := HT.out.at i hi27
              have f0 := HT.out.fr i
              have hii : (i : Int) < 27 := by omega
              have hi26 : (i : Int) ≤ 26 := by omega
              have HT1 := Lib.hid (HT.out.set i 1000000000)
              go_wp2
              go_loopw [11, 12] (fun sq mq wz => ∃ m : Nat, m ≤ 26 - i ∧ sq = .int .i64 (sm c i m : Int) ∧ mq = .int .i64 ((m + 1 : Nat) : Int) ∧ RowT w.heap.size wz w0.heap.size (rowM c K i m) ∧ Ext w0 wz) (fun _ mq _ => 28 - (intOf mq).toNat)
              case atStart => exact ⟨0, Nat.zero_le _, rfl, rfl, HT1.out.congr (fun e _ => by unfold rowM; rw [HLK.out]; rfl), hx4.setCell (Nat.le_refl _) _⟩
              case round =>
                obtain ⟨m, hm, rfl, rfl, hT5, hx5⟩ := hrel
                have HT5 := Lib.hid hT5
                clear hT5
                obtain ⟨E, hE⟩ : ∃ E, E = m + 1 := ⟨_, rfl⟩
                have HE := Lib.hid hE
                rw [← hE]
                obtain ⟨F, hF⟩ : ∃ F, F = i + E := ⟨_, rfl⟩
                have HF := Lib.hid hF
                by_cases hlt : m < 26 - i
                · have hFE : (i : Int) + (E : Int) = (F : Int) := by omega
                  have WF0 : IntKind.i64.wrap (F : Int) = (F : Int) := by simp only [IntKind.wrap_i64]; omega
                  have hF26 : (F : Int) ≤ 26 := by omega
                  have hF27 : (F : Int) < 27 := by omega
                  have hlz : i + m < zs.length := by omega
                  have hmi : ((i + m : Nat) : Int) < 26 := by omega
                  have hm1 : m + 1 ≤ 26 - i := by omega
                  have WF : wrap64 ((F : Int) - 1) = ((i + m : Nat) : Int) := by unfold wrap64; omega
                  have WF2 : IntKind.i64.wrap ((F : Int) - 1) = ((i + m : Nat) : Int) := by simp only [IntKind.wrap_i64]; omega
                  rcases (HS.out.ext (hx2.trans hx5)).2 with ⟨h3, _⟩ | ⟨b, off, cap', h4, hb, hc⟩
                  · rw [h3] at hlz; exact absurd hlz (by simp)
                  have ha : a = some ⟨b, off, none⟩ := by injection h4
                  have e1 := hc (i + m) hlz
                  rw [cf_eq HG.out (i + m) hlz, ← HCC.out] at e1
                  have d0 := (hx5.cell (p := ⟨go, K, none⟩) hgo).trans HCO.out
                  have d1 := (HKR.out.ext hx5).at F (by omega)
                  have c1 := HT5.out.at i hi27
                  have f1 := HT5.out.fr i
                  have hcle := HC.out (i + m)
                  have hsle := sm_le HC.out i m (by omega)
                  have hdle : dp c K F ≤ 1000000000 := by have := dp_bd HC.out K F (by omega); omega
                  have HSM := Lib.hid (show sm c i (m + 1) = sm c i m + (m + 1) * c (i + m) from rfl)
                  have HDM := Lib.hid (show dm (dp c K) c i (m + 1) = min (dm (dp c K) c i m) (sm c i (m + 1) + dp c K F) by rw [dm, hF, hE]; rfl)
                  have HRM := Lib.hid (rowM_next c K i m)
                  have hrc : rowM c K i m i = (dm (dp c K) c i m : Int) := by unfold rowM; rw [if_pos rfl]
                  rw [hrc] at c1
                  obtain ⟨Cv, hC⟩ : ∃ C, C = c (i + m) := ⟨_, rfl⟩
                  obtain ⟨S, hS⟩ : ∃ S, S = sm c i m := ⟨_, rfl⟩
                  obtain ⟨Dv, hDv⟩ : ∃ D, D = dp c K F := ⟨_, rfl⟩
                  obtain ⟨Pv, hPv⟩ : ∃ P, P = dm (dp c K) c i m := ⟨_, rfl⟩
                  obtain ⟨M, hM⟩ : ∃ M, M = E * Cv := ⟨_, rfl⟩
                  have hMle : M ≤ 26 * 1000 := by rw [hM]; exact Nat.mul_le_mul (by omega) (by omega)
                  have hSle : S ≤ 26000 * 26 := by rw [hS]; exact Nat.le_trans hsle (Nat.mul_le_mul_left _ (by omega))
                  rw [← hC] at e1 HSM
                  rw [← hS] at HSM
                  rw [← hDv] at d1 hdle HDM
                  rw [← hPv] at c1 HDM
                  rw [← hE, ← hM] at HSM
                  rw [← hS]
                  obtain ⟨S2, hS2⟩ : ∃ S2, S2 = S + M := ⟨_, rfl⟩
                  obtain ⟨T2, hT2⟩ : ∃ T2, T2 = S2 + Dv := ⟨_, rfl⟩
                  have hCM : (E : Int) * (Cv : Int) = (M : Int) := by rw [hM, Int.natCast_mul]
                  have HW := Lib.hid (show wrap64 ((S : Int) + wrap64 ((E : Int) * (Cv : Int))) = (S2 : Int) by rw [hCM, wrap64_nat (small26 hMle), hS2]; exact wrap64_add (small_add hSle hMle))
                  have hW2 : IntKind.i64.wrap ((S2 : Int) + (Dv : Int)) = (T2 : Int) := by rw [hT2]; exact wrapI_add (small_add2 (hS2 ▸ Nat.add_le_add hSle hMle) (Nat.le_trans hdle (by decide)))
                  have HS2 := Lib.hid hS2
                  have HT2 := Lib.hid hT2
                  clear hc h4 hb hcle hsle hdle hC hS hDv hPv hM hMle hSle hS2 hT2 hCM hrc hE hF
                  subst ha
                  go_wp2
                  rw [HW.out]
                  go_region_with (go_at_call 44; refine (leastN_any Pv T2 _).mono ?_; rintro e w' ⟨rfl, rfl⟩)
                  all_goals go_wp2
                  all_goals go_roundw
                  all_goals first | exact meas28 (by have := HE.out; omega) | exact ⟨m + 1, hm1, by rw [← HE.out, HSM.out, ← HS2.out], by rw [HE.out]; go_num, ((HT5.out.set i ((min Pv T2 : Nat) : Int)).congr (t' := rowM c K i (m + 1)) (fun e _ => by rw [← HRM.out e, HDM.out, ← HE.out, HSM.out, ← HS2.out, ← HT2.out])).ext (Ext.refl _).drew, (hx5.setCell (p := ⟨w0.heap.size, i, none⟩) (Nat.le_refl _) _).drew⟩
                · have hme : m = 26 - i := by omega
                  have hFE : (i : Int) + (E : Int) = (F : Int) := by omega
                  have hF27 : ¬ (F : Int) ≤ 26 := by omega
                  have WFA : IntKind.i64.wrap ((i : Int) + (E : Int)) = (F : Int) := by simp only [IntKind.wrap_i64]; omega
                  have WF0 : IntKind.i64.wrap (F : Int) = (F : Int) := by simp only [IntKind.wrap_i64]; omega
                  have HEND := Lib.hid (HT5.out.congr (t' := fun e => if e < i + 1 then (dp c L e : Int) else 0) (fun e _ => by rw [HLK.out, hme]; exact rowM_end c K i e))
                  clear hE hF hFE hme
                  go_wp2
                  go_roundw
                  case rel => exact ⟨i + 1, by omega, by go_num, HEND.out, hx5⟩
                  case measure => simp [intOf]; omega
            · have hie : i = 27 := by omega
              have HROW := Lib.hid (HT.out.congr (t' := fun e => (dp c L e : Int)) (fun e he => by rw [hie, if_pos he]))
              have hin : ¬ (i : Int) ≤ 26 := by omega
              have HRS4 := Lib.hid (HRS.out.ext hx4)
              clear hie hi hi27
              go_wp2_with (at_builtin; refine wpList_append_own _ rfl _ _ 44 rfl w.heap.size 31 j0 (.slice none 0 0) 1 24 Try.underlying44 HJ.out.1 HJ.out.2.1 HJ.out.2.2.1 HJ.out.2.2.2 rfl (by decide) _ _ _ rfl (World.ownsRow.alloc HRS4.out.1 _) ⟨_, 0, none⟩ 1 1 [.slice (some ⟨w0.heap.size, 0, none⟩) 27 27] rfl rfl (cell_one_new _ _ _) (by intro u hu; simp at hu; subst hu; rfl) (by unfold maxLen; omega) (by omega) (by have := (hx2.trans hx4).size; simp; omega) ?_; intro v7 w7 own7 gr7 _)
              have X7 : Ext w w7 := ext_grown ((hx2.trans hx4).alloc _) gr7 (fun j hj => (World.ownsRow.lt HRS4.out.1 j hj).1)
              have RS7 := Lib.hid (Rows2.snoc HRS4.out HROW.out own7 gr7)
              clear own7 gr7
              go_wp2
              go_roundw
              case rel => exact ⟨L + 1, _, by omega, by omega, by go_num, RS7.out, X7⟩
              case measure => simp [intOf]; omega
        · obtain rfl : L = n + 1 := by omega
          have hLn : ¬ (((n + 1 : Nat) : Int)) ≤ (n : Int) := by omega
          go_wp2
          go_ret
          exact ⟨_, U, rfl, HRS.out, hx2⟩

end Go.Proofs.Ytioinihlahnbfaa
