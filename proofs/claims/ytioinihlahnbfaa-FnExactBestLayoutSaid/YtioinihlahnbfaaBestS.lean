/- The model's best layout. No conditions. -/
import Derived.Test.YtioinihlahnbfaaBestN
namespace Go.Proofs.Ytioinihlahnbfaa
open Go.RowKit

set_option maxRecDepth 100000 in
set_option maxHeartbeats 4000000 in
theorem spec_best (v : Value) (zs : List Int) (n : Int) (w : World) (h : IntsA w v zs) : Calls Try.prog 15 #[v, .int .i64 n] w (ResB (bV zs n) (bN zs n) (bOk zs n) w) := by
  have HS := Lib.hid h
  have hlm := h.1
  unfold maxLen at hlm
  obtain ⟨a, cap, hv⟩ := h.at
  rw [hv] at HS ⊢
  clear hv h v
  by_cases h26 : zs.length = 26
  rotate_left
  · have H := Lib.hid (show bOk zs n = false from bOk_no (fun h => h26 (gB_len h.1)))
    have t1 : ((zs.length : Int) == 26) = false := by simp; omega
    have t2 : ((zs.length : Int) != 26) = true := by simp; omega
    clear h26
    go_enter Try.func15, Try.ntmps15
    go_wp2
    go_ret3
    exact ⟨_, ret_3 (bN_no H.out).symm H.out.symm, by rw [bV_no H.out]; exact RowI.nil _ _, Ext.refl _⟩
  have H26 := Lib.hid h26
  rw [h26] at HS ⊢
  clear h26 hlm
  cases hall : zs.all okC
  · have H := Lib.hid (show bOk zs n = false from bOk_no (fun h => by have := h.1; unfold gB at this; rw [hall, Bool.and_false] at this; cases this))
    go_enter Try.func15, Try.ntmps15
    go_wp2_with (go_at_call 32; refine (all_any _ _ _ HS.out).mono ?_; rintro e w1 ⟨rfl, x1⟩; rw [hall])
    go_ret3
    exact ⟨_, ret_3 (bN_no H.out).symm H.out.symm, by rw [bV_no H.out]; exact RowI.nil _ _, x1⟩
  have hg : gB zs = true := by unfold gB; rw [hall, decide_eq_true H26.out]; rfl
  cases hin : inB n 1 8
  · have H := Lib.hid (show bOk zs n = false from bOk_no (fun h => by unfold inB at hin; rw [decide_eq_true h.2.1, decide_eq_true h.2.2] at hin; cases hin))
    go_enter Try.func15, Try.ntmps15
    go_wp2_with (first | (go_at_call 32; refine (all_any _ _ _ HS.out).mono ?_; rintro e w1 ⟨rfl, x1⟩; rw [hall]) | (go_at_call 21; refine (in_any _ _ _ _).mono ?_; rintro e w' ⟨rfl, rfl⟩; rw [hin]))
    go_ret3
    exact ⟨_, ret_3 (bN_no H.out).symm H.out.symm, by rw [bV_no H.out]; exact RowI.nil _ _, x1⟩
  have hbb : 1 ≤ n ∧ n ≤ 8 := by unfold inB at hin; simpa using hin
  obtain ⟨m, rfl⟩ := Int.eq_ofNat_of_zero_le (show 0 ≤ n by omega)
  have HG := Lib.hid hg
  have HB := Lib.hid (bOk_yes hg hbb.1 hbb.2)
  have hm1 : 1 ≤ m := by omega
  have hm8 : m ≤ 8 := by omega
  clear hbb hg
  obtain ⟨c, hcc⟩ : ∃ c, c = cf zs := ⟨_, rfl⟩
  have HC := Lib.hid (show ∀ j, c j ≤ 1000 from fun j => by rw [hcc]; exact cf_le HG.out j)
  have HCC := Lib.hid hcc
  clear hcc
  obtain ⟨i0, hi, hz0, hzs, hzb⟩ := info_parts info_intB
  have HI := Lib.hid (show Try.prog.info? 3 = some i0 ∧ i0.zero = some (.int .i64 0) ∧ i0.size = 1 ∧ i0.bytes = 8 from ⟨hi, hz0, hzs, hzb⟩)
  clear hi hz0 hzs hzb
  have HF0 := Lib.hid (show dp c m 0 < 1000000000 by have := dp_fin HC.out (m - 1) 0 (by omega); rwa [show m - 1 + 1 = m by omega] at this)
  have HSL := Lib.hid (szs_len c m 0)
  go_enter Try.func15, Try.ntmps15
  go_wp2_with (first | (go_at_call 32; refine (all_any _ _ _ HS.out).mono ?_; rintro e w1 ⟨rfl, x1⟩; rw [hall]) | (go_at_call 21; refine (in_any _ _ _ _).mono ?_; rintro e w' ⟨rfl, rfl⟩; rw [hin]) | (go_at_call 33; refine (prBest_any _ zs m _ (HS.out.ext x1) HG.out hm8).mono ?_; rintro e w2 ⟨vo, U, rfl, r2, x2⟩; rw [← HCC.out] at r2; have R2 := Lib.hid r2; obtain ⟨ao, co, rfl⟩ := r2.shape; clear r2))
  have X2 : Ext w w2 := x1.trans x2
  go_loopw [8, 9, 10] (fun o fr kv wr => ∃ (k i : Nat) (ts : List Int), k ≤ m ∧ kv = .int .i64 k ∧ fr = .int .i64 i ∧ i ≤ 26 ∧ ts ++ szs c k i = szs c m 0 ∧ (0 < k → dp c k i < 1000000000) ∧ RowI w2.heap.size wr o ts ∧ Ext w2 wr) (fun _ _ kv _ => (intOf kv).toNat)
  case atStart => exact ⟨m, 0, [], Nat.le_refl _, rfl, rfl, by omega, rfl, fun _ => HF0.out, RowI.nil _ _, Ext.refl _⟩
  case round =>
    obtain ⟨k, i, ts, hk, rfl, rfl, hi26, hG, hfin, hR, hx⟩ := hrel
    have HGG := Lib.hid hG
    have HR := Lib.hid hR
    have HM := Lib.hid (R2.out.ext hx)
    by_cases h0 : k = 0
    · subst h0
      have HFN := Lib.hid (show ts = szs c m 0 by rw [← HGG.out]; show ts = ts ++ []; rw [List.append_nil])
      obtain ⟨go, rfl, _, _, c0⟩ := HM.out.at m (by omega)
      have c1 := (HM.out.2 m (by omega)).at 0 (by omega)
      have hmi : (m : Int) < (m : Int) + 1 := by omega
      go_wp2
      go_quiet (fail)
      go_wp2
      go_ret3
      exact ⟨_, ret_3 (by rw [bN_yes HB.out, HCC.out]) HB.out.symm, by rw [bV_yes HB.out, ← HCC.out, ← HFN.out]; exact HR.out.down X2.size, ext_drewN (X2.trans hx) _⟩
    · obtain ⟨K, hK⟩ : ∃ K, k = K + 1 := ⟨k - 1, by omega⟩
      have HKK := Lib.hid hK
      have HFI := Lib.hid (show dp c (K + 1) i < 1000000000 by have := hfin (by omega); rw [← hK]; exact this)
      obtain ⟨hs1, hs2, hs3⟩ := size_ok HC.out K i hi26 HFI.out
      have HS1 := Lib.hid hs1
      have HS2 := Lib.hid hs2
      have HS3 := Lib.hid hs3
      obtain ⟨go, rfl, _, hgo, ck⟩ := HM.out.at k (by omega)
      obtain ⟨go', hgo', _, _, cK⟩ := HM.out.at K (by omega)
      obtain rfl : go = go' := by injection hgo' with h; injection h
      clear hgo'
      have HKC := Lib.hid ck
      have HKC1 := Lib.hid cK
      have HK0 := Lib.hid (HM.out.2 k (by omega))
      have HK1 := Lib.hid (HM.out.2 K (by omega))
      obtain ⟨gk, hgk⟩ : ∃ g, g = U k := ⟨_, rfl⟩
      obtain ⟨gK, hgK⟩ : ∃ g, g = U K := ⟨_, rfl⟩
      rw [← hgk] at HK0 HKC
      rw [← hgK] at HK1 HKC1
      have hgkl : gk < wr.heap.size := HK0.out.lt.2
      have hgKl : gK < wr.heap.size := HK1.out.lt.2
      clear hgk hgK ck cK
      obtain ⟨t, htt⟩ : ∃ t, t = dp c (K + 1) i := ⟨_, rfl⟩
      have ht9 : t < 1000000000 := by rw [htt]; exact HFI.out
      have HTT := Lib.hid (show dp c k i = t by rw [htt, hK])
      have HSZ := Lib.hid (show fsz (dp c K) c t i (26 - i) 0 = size c K i by rw [htt]; rfl)
      have Wm : IntKind.i64.wrap ((k : Int) - 1) = (K : Int) := by simp only [IntKind.wrap_i64]; omega
      have hKm : (K : Int) < (m : Int) + 1 := by omega
      have hkm : (k : Int) < (m : Int) + 1 := by omega
      have hi27i : (i : Int) < 27 := by omega
      have hk0 : (0 : Int) < (k : Int) := by omega
      have hts : ts.length ≤ 8 := by have e := congrArg List.length HGG.out; rw [List.length_append, HSL.out] at e; omega
      clear hK h0 hfin hG hR hs1 hs2 hs3 htt
      go_wp2
      go_loopw [8, 9, 11, 12] (fun oq fq sq mq wz => ∃ m2 : Nat, m2 ≤ 26 - i ∧ fsz (dp c K) c t i (26 - i - m2) m2 = size c K i ∧ RowI w2.heap.size wz oq ts ∧ fq = .int .i64 i ∧ sq = .int .i64 (sm c i m2 : Int) ∧ mq = .int .i64 ((m2 + 1 : Nat) : Int) ∧ Ext wr wz) (fun _ _ _ mq _ => 28 - (intOf mq).toNat)
      case atStart => exact ⟨0, Nat.zero_le _, HSZ.out, HR.out, rfl, rfl, rfl, Ext.refl _⟩
      case round =>
        obtain ⟨m2, hm, hfs, hR5, rfl, rfl, rfl, hx5⟩ := hrel
        have HR5 := Lib.hid hR5
        have HFS := Lib.hid hfs
        clear hR5 hfs
        obtain ⟨E, hE⟩ : ∃ E, E = m2 + 1 := ⟨_, rfl⟩
        have HE := Lib.hid hE
        rw [← hE]
        obtain ⟨F, hF⟩ : ∃ F, F = i + E := ⟨_, rfl⟩
        have HF := Lib.hid hF
        by_cases hlt : m2 < 26 - i
        · have hFE : (i : Int) + (E : Int) = (F : Int) := by omega
          have WF0 : IntKind.i64.wrap (F : Int) = (F : Int) := by simp only [IntKind.wrap_i64]; omega
          have hF26 : (F : Int) ≤ 26 := by omega
          have hF27 : (F : Int) < 27 := by omega
          have hlz : i + m2 < zs.length := by have := H26.out; omega
          have hmi : ((i + m2 : Nat) : Int) < 26 := by omega
          have hm1 : m2 + 1 ≤ 26 - i := by omega
          have WF : wrap64 ((F : Int) - 1) = ((i + m2 : Nat) : Int) := by unfold wrap64; omega
          have WF2 : IntKind.i64.wrap ((F : Int) - 1) = ((i + m2 : Nat) : Int) := by simp only [IntKind.wrap_i64]; omega
          rcases (HS.out.ext ((X2.trans hx).trans hx5)).2 with ⟨h3, _⟩ | ⟨b, off, cap', h4, hb, hc⟩
          · rw [h3] at hlz; exact absurd hlz (by simp)
          have ha : a = some ⟨b, off, none⟩ := by injection h4
          have e1 := hc (i + m2) hlz
          rw [cf_eq HG.out (i + m2) hlz, ← HCC.out] at e1
          have d0 := (hx5.cell (p := ⟨go, k, none⟩) hgo).trans HKC.out
          have d1 := (hx5.cell (p := ⟨go, K, none⟩) hgo).trans HKC1.out
          have d2 := (HK0.out.ext hx5).at i (by omega)
          have d3 := (HK1.out.ext hx5).at F (by omega)
          rw [HTT.out] at d2
          have hcle := HC.out (i + m2)
          have hsle := sm_le HC.out i m2 (by omega)
          have hdle : dp c K F ≤ 1000000000 := by have := dp_bd HC.out K F (by omega); omega
          have HSM := Lib.hid (show sm c i (m2 + 1) = sm c i m2 + (m2 + 1) * c (i + m2) from rfl)
          have HF1 := Lib.hid (show 26 - i - m2 = (26 - i - (m2 + 1)) + 1 by omega)
          have HFX := Lib.hid (show i + m2 + 1 = F by omega)
          obtain ⟨Cv, hC⟩ : ∃ C, C = c (i + m2) := ⟨_, rfl⟩
          obtain ⟨S, hS⟩ : ∃ S, S = sm c i m2 := ⟨_, rfl⟩
          obtain ⟨Dv, hDv⟩ : ∃ D, D = dp c K F := ⟨_, rfl⟩
          obtain ⟨M, hM⟩ : ∃ M, M = E * Cv := ⟨_, rfl⟩
          have hMle : M ≤ 26 * 1000 := by rw [hM]; exact Nat.mul_le_mul (by omega) (by omega)
          have hSle : S ≤ 26000 * 26 := by rw [hS]; exact Nat.le_trans hsle (Nat.mul_le_mul_left _ (by omega))
          have HDV := Lib.hid hDv
          rw [← hC] at e1 HSM
          rw [← hS] at HSM
          rw [← hDv] at d3 hdle
          rw [← hE, ← hM] at HSM
          rw [← hS]
          obtain ⟨S2, hS2⟩ : ∃ S2, S2 = S + M := ⟨_, rfl⟩
          obtain ⟨T2, hT2⟩ : ∃ T2, T2 = S2 + Dv := ⟨_, rfl⟩
          have hCM : (E : Int) * (Cv : Int) = (M : Int) := by rw [hM, Int.natCast_mul]
          have Wc : wrap64 ((S : Int) + wrap64 ((E : Int) * (Cv : Int))) = (S2 : Int) := by rw [hCM, wrap64_nat (small26 hMle), hS2]; exact wrap64_add (small_add hSle hMle)
          have We : wrap64 ((S2 : Int) + (Dv : Int)) = (T2 : Int) := by rw [hT2]; exact wrap64_add (small_add2 (hS2 ▸ Nat.add_le_add hSle hMle) (Nat.le_trans hdle (by decide)))
          have HW := Lib.hid (And.intro Wc We)
          have HS2' := Lib.hid hS2
          have HT2 := Lib.hid hT2
          have hW2 : IntKind.i64.wrap ((S2 : Int) + (Dv : Int)) = (T2 : Int) := by rw [hT2]; exact wrapI_add (small_add2 (hS2 ▸ Nat.add_le_add hSle hMle) (Nat.le_trans hdle (by decide)))
          clear hc h4 hb hcle hsle hdle hC hS hDv hM hMle hSle hS2 hT2 hCM hE hF Wc We
          subst ha
          by_cases hT : T2 = t
          · have HIT := Lib.hid (show size c K i = E by rw [← HFS.out, HF1.out]; refine (fsz_hit ?_).trans HE.out.symm; exact (by rw [HFX.out, ← HE.out, HSM.out, ← HS2'.out, ← HDV.out, ← HT2.out]; exact hT))
            have t1 : ((T2 : Int) == (t : Int)) = true := by rw [hT]; simp
            clear hT
            go_wp2
            rw [HW.out.1]
            go_quiet (fail)
            have HX9 := ext_drewN (hx.trans hx5) nq
            have HR9 := Lib.hid (HR5.out.ext (ext_drewN (Ext.refl _) nq))
            go_wp2_with (at_builtin; refine wpList_append_own _ rfl _ _ 31 rfl w2.heap.size 3 i0 (.int .i64 0) 1 8 Try.underlying31 HI.out.1 HI.out.2.1 HI.out.2.2.1 HI.out.2.2.2 rfl (by decide) _ _ _ rfl (World.ownsRow.alloc HR9.out _) ⟨_, 0, none⟩ 1 1 [.int .i64 (E : Int)] rfl rfl (cell_one_new _ _ _) (oneIB _) (by unfold maxLen; omega) (by omega) (by have := (hx.trans hx5).size; simp; omega) ?_; intro v5 w6 own6 gr6 _)
            have X6 : Ext w2 w6 := ext_grown (HX9.alloc _) gr6 (fun j hj => (World.ownsRow.lt HR9.out j hj).1)
            have RN := Lib.hid (show RowI w2.heap.size w6 v5 (ts ++ [(E : Int)]) from by
              unfold RowI
              rw [List.length_append, List.map_append]
              exact own6)
            clear own6 gr6
            go_wp2
            go_roundw
            case rel => exact ⟨K, F, ts ++ [(E : Int)], by have := HKK.out; omega, rfl, by go_num, by omega, by rw [List.append_assoc, ← HGG.out, HKK.out, HF.out, ← HIT.out]; rfl, fun _ => by rw [HF.out, ← HIT.out]; exact HS3.out, RN.out, X6⟩
            case measure => simp [intOf]; have := HKK.out; omega
          · have HMI := Lib.hid (show fsz (dp c K) c t i (26 - i - (m2 + 1)) (m2 + 1) = size c K i by rw [← HFS.out, HF1.out, fsz_miss (by rw [HFX.out, ← HE.out, HSM.out, ← HS2'.out, ← HDV.out, ← HT2.out]; exact hT)])
            have t1 : ((T2 : Int) == (t : Int)) = false := ne_beq hT
            clear hT
            go_wp2
            rw [HW.out.1]
            go_quiet (fail)
            go_wp2
            exact ⟨⟨m2 + 1, hm1, HMI.out, HR5.out.ext (ext_drewN (Ext.refl _) _), rfl, by rw [← HE.out, HSM.out, ← HS2'.out], by rw [HE.out]; go_num, ext_drewN hx5 _⟩, meas28 (by have := HE.out; omega)⟩
        · obtain rfl : m2 = 26 - i := by omega
          exact absurd HFS.out (by rw [Nat.sub_self]; exact fun he => by have h1 := HS1.out; rw [← he] at h1; exact absurd h1 (Nat.not_succ_le_zero 0))

end Go.Proofs.Ytioinihlahnbfaa
