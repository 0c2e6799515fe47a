/- The first common text of two: both sides. No conditions. -/
import Derived.Test.YtmpajijnpoekgabCmnN
namespace Go.Proofs.Ytmpajijnpoekgab
open Go.RowKit

theorem u8_of {L : Nat} (h : L < 256) : (L.toUInt8).toNat = L := by simp; omega
theorem encL : ∀ n : Nat, n < 128 → Utf8.encode (n : Int) = bT [n.toUInt8] := of_decide_eq_true (by kernel_rfl)
theorem bT_app (u v : List UInt8) : bT u ++ bT v = bT (u ++ v) := by
  apply ByteArray.ext
  rw [ByteArray.data_append]
  unfold bT
  simp
theorem mem_bd {n : Nat} {s : ByteArray} (h : isT n s = true) {z : UInt8} (hz : z ∈ s.data.toList) : 97 ≤ z.toNat ∧ z.toNat ≤ 122 := by
  obtain ⟨i, hi, rfl⟩ := List.getElem_of_mem hz
  have hi2 : i < s.size := by simpa using hi
  have := isT_bd h i hi2
  have e : s.data.toList[i] = s[i] := rfl
  rw [e]
  exact this
/-- The step to the next letter of the first common text. -/
theorem cm_step {a b : ByteArray} {I K : Nat} {z : UInt8} {d : List UInt8} (hI : I ≤ a.size) (hK : K ≤ b.size) (h : cm a b I K = z :: d) :
    nq a z I < a.size ∧ nq b z K < b.size ∧ lcN a b (nq a z I + 1) (nq b z K + 1) + 1 = lcN a b I K ∧ cm a b (nq a z I + 1) (nq b z K + 1) = d ∧ ∀ L, L < z → nq a L I < a.size → nq b L K < b.size → lcN a b (nq a L I + 1) (nq b L K + 1) + 1 ≠ lcN a b I K := by
  unfold cm at h
  obtain ⟨a', b', e1, e2, e3, e4, e5⟩ := com_step h
  rw [nq_aft' hI] at e1
  rw [nq_aft' hK] at e2
  by_cases h1 : nq a z I < a.size
  · rw [if_pos h1] at e1
    injection e1 with e1
    by_cases h2 : nq b z K < b.size
    · rw [if_pos h2] at e2
      injection e2 with e2
      subst e1 e2
      refine ⟨h1, h2, e3, e4, fun L hL k1 k2 => ?_⟩
      exact e5 L hL _ _ (by rw [nq_aft' hI, if_pos k1]) (by rw [nq_aft' hK, if_pos k2])
    · rw [if_neg h2] at e2; cases e2
  · rw [if_neg h1] at e1; cases e1
theorem cm_mem {a b : ByteArray} {I K : Nat} {z : UInt8} {d : List UInt8} (h : cm a b I K = z :: d) : z ∈ a.data.toList := by
  unfold cm at h
  have hs := (com_fst' (a.data.toList.drop I) (b.data.toList.drop K)).1
  rw [h] at hs
  exact List.mem_of_mem_drop (hs.subset (by simp))

set_option maxHeartbeats 2000000 in
theorem fcS_any (a b : ByteArray) (w : World) (ha : a.size ≤ maxLen) (hb : b.size ≤ maxLen) : Calls Try.prog 37 #[.string a, .string b] w fun e w' => e = .returned (.tuple #[.string (fcV a b), .bool (fcOk a b)]) ∧ Ext w w' := by
  have HP := Lib.hid (fun w => bkPair_any a b w ha hb)
  rw [show (isT 20 a && isT 20 b) = fcOk a b from rfl] at HP
  cases h : fcOk a b
  · have HV := Lib.hid (fc_no h)
    rw [h] at HP
    go_enter Try.func37, Try.ntmps37
    go_wp2_with (go_at_call 72; refine (HP.out _).mono ?_; rintro e w1 ⟨rfl, rfl⟩)
    go_ret2
    exact ⟨ret_sBc HV.out.symm rfl, Ext.refl _⟩
  have HV := Lib.hid (fc_yes h)
  have hh : (isT 20 a && isT 20 b) = true := h
  rw [h] at HP
  rw [Bool.and_eq_true] at hh
  have hz1 : a.size ≤ 20 := isT_size hh.1
  have hz2 : b.size ≤ 20 := isT_size hh.2
  have HTA := Lib.hid hh.1
  clear hh h
  go_enter Try.func37, Try.ntmps37
  go_wp2_with (first | (go_at_call 72; refine (HP.out _).mono ?_; rintro e w1 ⟨rfl, rfl⟩))
  refine (common_any a b _ hz1 hz2).mono ?_
  rintro e w2 ⟨v, U, rfl, hg, x2⟩
  obtain ⟨ga, cap, rfl⟩ := hg.shape
  obtain ⟨g, rfl, _, _, hcell⟩ := hg.at 0 (by omega)
  have HGR := Lib.hid hg
  have HCE := Lib.hid hcell
  have HX2 := Lib.hid x2
  clear hg hcell x2
  go_wp2
  obtain ⟨N, hN⟩ : ∃ N, N = a.size + 1 := ⟨_, rfl⟩
  obtain ⟨M, hM⟩ : ∃ M, M = b.size + 1 := ⟨_, rfl⟩
  rw [← hN, ← hM] at HGR HCE
  rw [← hN]
  have HN := Lib.hid hN
  have HM := Lib.hid hM
  clear hN hM
  go_loopw [7, 8, 9] (fun o i k wr => ∃ (I K : Nat) (u : List UInt8), I ≤ a.size ∧ K ≤ b.size ∧ i = .int .i64 I ∧ k = .int .i64 K ∧ o = .string (bT u) ∧ u ++ cm a b I K = cm a b 0 0 ∧ Ext w2 wr) (fun _ i _ _ => a.size - (intOf i).toNat)
  case atStart => exact ⟨0, 0, [], Nat.zero_le _, Nat.zero_le _, rfl, rfl, rfl, rfl, Ext.refl _⟩
  case round =>
    obtain ⟨I, K, u, hI, hK, rfl, rfl, rfl, hu, hx⟩ := hrel
    have HU := Lib.hid hu
    have HX := Lib.hid hx
    have hul : u.length ≤ 20 := by
      have h1 := congrArg List.length hu
      rw [List.length_append] at h1
      have h2 := cm_len a b 0 0
      omega
    have cO := HCE.out wr hx I (by have := HN.out; omega)
    have cI := ((HGR.out.ext hx).inner I (by have := HN.out; omega)).at K (by have := HM.out; omega)
    have hIN : (I : Int) < (N : Int) := by have := HN.out; omega
    have hKM : (K : Int) < (M : Int) := by have := HM.out; omega
    have hln := lcN_max a b I K
    have HLC := Lib.hid (lcN_cm a b I K)
    obtain ⟨X0, hX0⟩ : ∃ X, X = U I := ⟨_, rfl⟩
    rw [← hX0] at cO cI
    obtain ⟨C0, hC0⟩ : ∃ C, C = lcN a b I K := ⟨_, rfl⟩
    rw [← hC0] at cI hln HLC
    have HC0 := Lib.hid hC0
    have HX0 := Lib.hid hX0
    clear hu hx hX0 hC0
    cases hcm : cm a b I K with
    | nil =>
      have h0 : C0 = 0 := by rw [HLC.out, hcm]; rfl
      have HV2 := Lib.hid (show bT u = fcV a b by
        rw [HV.out, ← HU.out, hcm, List.append_nil])
      subst h0
      clear hcm
      go_wp2
      go_ret2
      exact ⟨ret_sBc HV2.out rfl, HX2.out.trans HX.out⟩
    | cons z d =>
      have hc1 : 0 < C0 := by rw [HLC.out, hcm]; simp
      have hc1i : (0 : Int) < (C0 : Int) := by omega
      obtain ⟨q1, q2, q3, q4, q5⟩ := cm_step hI hK hcm
      have hzb := mem_bd HTA.out (cm_mem hcm)
      have HQ1 := Lib.hid q1
      have HQ2 := Lib.hid q2
      have HQ3 := Lib.hid q3
      have HQ5 := Lib.hid q5
      have HU2 := Lib.hid (show (u ++ [z]) ++ cm a b (nq a z I + 1) (nq b z K + 1) = cm a b 0 0 by
        rw [q4, ← HU.out, hcm, List.append_assoc]; rfl)
      obtain ⟨zn, hzn⟩ : ∃ zn, zn = z.toNat := ⟨_, rfl⟩
      have HZN := Lib.hid hzn
      rw [← hzn] at hzb
      have hz97 : 97 ≤ zn := hzb.1
      have hz122 : zn ≤ 122 := hzb.2
      obtain ⟨wo, hwo⟩ : ∃ wo, wo = wr := ⟨_, rfl⟩
      rw [← hwo] at HX cO cI ⊢
      clear q1 q2 q3 q4 q5 hcm hzb hzn hwo
      go_wp2
      go_loopw [7, 8, 9, 10] (fun o i k t wr => ∃ L : Nat, 97 ≤ L ∧ L ≤ zn ∧ t = .int .u8 (L : Int) ∧ i = .int .i64 I ∧ k = .int .i64 K ∧ o = .string (bT u) ∧ Ext w2 wr) (fun _ _ _ t _ => 123 - (intOf t).toNat)
      case atStart => exact ⟨97, Nat.le_refl _, hz97, rfl, rfl, rfl, rfl, HX.out⟩
      case round =>
        obtain ⟨L, hL1, hL2, rfl, rfl, rfl, rfl, hx⟩ := hrel
        have HX3 := Lib.hid hx
        have hLi : (L : Int) ≤ 122 := by omega
        obtain ⟨l, hl⟩ : ∃ l, l = L.toUInt8 := ⟨_, rfl⟩
        have hlL : (L : Int) = (l.toNat : Int) := by rw [hl, u8_of (by omega)]
        have HNA := Lib.hid (fun w => bkNext_any a I l (L : Int) w hI hz1 hlL)
        have HNB := Lib.hid (fun w => bkNext_any b K l (L : Int) w hK hz2 hlL)
        have hx1 := nq_bd (z := l) hI
        have hy1 := nq_bd (z := l) hK
        obtain ⟨X, hX⟩ : ∃ X, X = nq a l I := ⟨_, rfl⟩
        obtain ⟨Y, hY⟩ : ∃ Y, Y = nq b l K := ⟨_, rfl⟩
        rw [← hX] at HNA hx1
        rw [← hY] at HNB hy1
        have HXE := Lib.hid hX
        have HYE := Lib.hid hY
        have HLE := Lib.hid hl
        have HLL := Lib.hid hlL
        have Wu : IntKind.u8.wrap ((L : Int) + 1) = (L : Int) + 1 := IntWalk.u8_in _ (by omega)
        clear hx hl hlL hX hY
        by_cases hA : ¬ X < a.size
        · have hAi : ¬ (X : Int) < (a.size : Int) := by omega
          have hAd : decide ((X : Int) < (a.size : Int)) = false := decide_eq_false hAi
          have hAl : (a.size : Int) ≤ (X : Int) := by omega
          have hAn : a.size ≤ X := by omega
          have hAm : ¬ X < a.size := by omega
          have hAe : decide (X < a.size) = false := decide_eq_false hAm
          have hLz : L < zn := by
            rcases Nat.lt_or_ge L zn with h | h
            · exact h
            · have e : l = z := UInt8.toNat_inj.1 (by have := HLL.out; have := HZN.out; omega)
              rw [HXE.out, e] at hA
              exact absurd HQ1.out hA
          clear hA
          go_wp2_with fail
          refine (HNA.out _).mono ?_
          rintro e w5 ⟨rfl, rfl⟩
          go_wp2_with fail
          refine (HNB.out _).mono ?_
          rintro e w5 ⟨rfl, rfl⟩
          go_wp2
          go_quiet (fail)
          go_wp2
          go_roundw
          case rel => exact ⟨L + 1, by omega, by omega, by rw [show ((L + 1 : Nat) : Int) = (L : Int) + 1 by omega], rfl, rfl, rfl, ext_drewN HX3.out _⟩
          case measure => simp [intOf]; omega
        replace hA : X < a.size := Decidable.not_not.1 hA
        have hAi : (X : Int) < (a.size : Int) := by omega
        by_cases hB : ¬ Y < b.size
        · have hBi : ¬ (Y : Int) < (b.size : Int) := by omega
          have hBd : decide ((Y : Int) < (b.size : Int)) = false := decide_eq_false hBi
          have hBm : ¬ Y < b.size := by omega
          have hBe : decide (Y < b.size) = false := decide_eq_false hBm
          have hAe : decide (X < a.size) = true := decide_eq_true hA
          have hAd : decide ((X : Int) < (a.size : Int)) = true := decide_eq_true hAi
          have hLz : L < zn := by
            rcases Nat.lt_or_ge L zn with h | h
            · exact h
            · have e : l = z := UInt8.toNat_inj.1 (by have := HLL.out; have := HZN.out; omega)
              rw [HYE.out, e] at hB
              exact absurd HQ2.out hB
          clear hB
          go_wp2_with fail
          refine (HNA.out _).mono ?_
          rintro e w5 ⟨rfl, rfl⟩
          go_wp2_with fail
          refine (HNB.out _).mono ?_
          rintro e w5 ⟨rfl, rfl⟩
          go_wp2
          go_quiet (fail)
          go_wp2
          go_roundw
          case rel => exact ⟨L + 1, by omega, by omega, by rw [show ((L + 1 : Nat) : Int) = (L : Int) + 1 by omega], rfl, rfl, rfl, ext_drewN HX3.out _⟩
          case measure => simp [intOf]; omega
        replace hB : Y < b.size := Decidable.not_not.1 hB
        have hBi : (Y : Int) < (b.size : Int) := by omega
        obtain ⟨X1, hX1⟩ : ∃ X1, X1 = X + 1 := ⟨_, rfl⟩
        obtain ⟨Y1, hY1⟩ : ∃ Y1, Y1 = Y + 1 := ⟨_, rfl⟩
        have WX : IntKind.i64.wrap ((X : Int) + 1) = (X1 : Int) := by simp only [IntKind.wrap_i64]; omega
        have WY : IntKind.i64.wrap ((Y : Int) + 1) = (Y1 : Int) := by simp only [IntKind.wrap_i64]; omega
        have WX1 : IntKind.i64.wrap (X1 : Int) = (X1 : Int) := by simp only [IntKind.wrap_i64]; omega
        have WY1 : IntKind.i64.wrap (Y1 : Int) = (Y1 : Int) := by simp only [IntKind.wrap_i64]; omega
        have CX : (X : Int) + 1 = (X1 : Int) := by omega
        have CY : (Y : Int) + 1 = (Y1 : Int) := by omega
        have hX1N : X1 < N := by have := HN.out; omega
        have hY1M : Y1 < M := by have := HM.out; omega
        have hX1i : (X1 : Int) < (N : Int) := by omega
        have hY1i : (Y1 : Int) < (M : Int) := by omega
        have cO1 := HCE.out wr HX3.out X1 hX1N
        have cI1 := ((HGR.out.ext HX3.out).inner X1 hX1N).at Y1 hY1M
        have cO2 := HCE.out wr HX3.out I (by have := HN.out; omega)
        have cI2 := ((HGR.out.ext HX3.out).inner I (by have := HN.out; omega)).at K (by have := HM.out; omega)
        rw [← HX0.out] at cO2 cI2
        rw [← HC0.out] at cI2
        have hdl := lcN_max a b X1 Y1
        obtain ⟨D, hD⟩ : ∃ D, D = lcN a b X1 Y1 := ⟨_, rfl⟩
        rw [← hD] at cI1 hdl
        obtain ⟨U1, hU1⟩ : ∃ U1, U1 = U X1 := ⟨_, rfl⟩
        rw [← hU1] at cI1 cO1
        have WD : IntKind.i64.wrap ((D : Int) + 1) = (D : Int) + 1 := by simp only [IntKind.wrap_i64]; omega
        have HDE := Lib.hid hD
        have HX1 := Lib.hid hX1
        have HY1 := Lib.hid hY1
        clear hD hU1 hX1 hY1
        by_cases hLz : L < zn
        · have hne : (D : Int) + 1 ≠ (C0 : Int) := by
            have h1 := HQ5.out l (by rw [UInt8.lt_iff_toNat_lt]; have := HLL.out; have := HZN.out; omega) (by rw [← HXE.out]; exact hA) (by rw [← HYE.out]; exact hB)
            rw [← HXE.out, ← HYE.out, ← HX1.out, ← HY1.out, ← HDE.out, ← HC0.out] at h1
            omega
          have hneb : ((D : Int) + 1 == (C0 : Int)) = false := beq_eq_false_iff_ne.2 hne
          clear cO cI hA hB
          go_wp2_with fail
          refine (HNA.out _).mono ?_
          rintro e w5 ⟨rfl, rfl⟩
          go_wp2_with fail
          refine (HNB.out _).mono ?_
          rintro e w5 ⟨rfl, rfl⟩
          go_wp2
          go_quiet (fail)
          go_wp2
          go_roundw
          case rel => exact ⟨L + 1, by omega, by omega, by rw [show ((L + 1 : Nat) : Int) = (L : Int) + 1 by omega], rfl, rfl, rfl, ext_drewN HX3.out _⟩
          case measure => simp [intOf]; omega
        · have hlz : l = z := UInt8.toNat_inj.1 (by have := HLL.out; have := HZN.out; omega)
          have heq : (D : Int) + 1 = (C0 : Int) := by
            have h1 := HQ3.out
            rw [← hlz, ← HXE.out, ← HYE.out, ← HX1.out, ← HY1.out, ← HDE.out, ← HC0.out] at h1
            omega
          have heqb : ((D : Int) + 1 == (C0 : Int)) = true := beq_iff_eq.2 heq
          have HU3 := Lib.hid (show (u ++ [z]) ++ cm a b X1 Y1 = cm a b 0 0 by
            have h1 := HU2.out
            rw [← hlz, ← HXE.out, ← HYE.out, ← HX1.out, ← HY1.out] at h1
            rw [← hlz]
            exact h1)
          have HE : Utf8.encode (L : Int) = bT [z] := by rw [encL L (by omega), ← HLE.out, hlz]
          have Wc : IntKind.i32.wrap (L : Int) = (L : Int) := by simp only [IntKind.wrap_i32]; omega
          have HT := Lib.hid (bT_app u [z])
          have hTz : (bT u).size ≤ 20 := by rw [bT_size]; exact hul
          have hzz : (bT [z]).size = 1 := rfl
          obtain ⟨T, hT⟩ : ∃ T, T = bT u := ⟨_, rfl⟩
          obtain ⟨Q, hQ⟩ : ∃ Q, Q = bT [z] := ⟨_, rfl⟩
          rw [← hT] at HT hTz ⊢
          rw [← hQ] at HT hzz HE
          clear cO cI hA hB hT hQ hlz
          go_wp2_with fail
          refine (HNA.out _).mono ?_
          rintro e w5 ⟨rfl, rfl⟩
          go_wp2_with fail
          refine (HNB.out _).mono ?_
          rintro e w5 ⟨rfl, rfl⟩
          go_wp2
          go_quiet (fail)
          go_wp2
          exact ⟨⟨X1, Y1, u ++ [z], by have := HX1.out; omega, by have := HY1.out; omega, rfl, rfl, by rw [HT.out], HU3.out, ext_drewN HX3.out _⟩, by simp [intOf]; have := HX1.out; omega⟩
end Go.Proofs.Ytmpajijnpoekgab
