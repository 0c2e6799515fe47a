/- How many pins have just some keys: the model's. No conditions. -/
import Derived.Test.YtmpajijnpoekgaaWorn
namespace Go.Proofs.Ytmpajijnpoekgaa
open Go.RowKit

set_option maxHeartbeats 2000000 in
theorem wnS_any (s : ByteArray) (n : Int) (w : World) (hs : s.size ≤ maxLen) : Calls Try.prog 36 #[.string s, .int .i64 n] w fun e w' => e = .returned (.tuple #[.int .i64 (wnV s n), .bool (wnG s n)]) ∧ Ext w w' := by
  cases h1 : isDg 1 10 s
  · have HG := Lib.hid (wnG_s (n := n) (wnB_d h1))
    have HV := Lib.hid (wnV_no HG.out)
    go_enter Try.func36, Try.ntmps36
    go_wp2_with (go_at_call 71; refine (piDig_any _ _ _ _ hs).mono ?_; rintro e w' ⟨rfl, rfl⟩; rw [h1])
    go_ret2
    exact ⟨ret_iBw HV.out.symm HG.out.symm, Ext.refl _⟩
  cases h2 : inW n 2 4
  · have HG := Lib.hid (wnG_n (s := s) h2)
    have HV := Lib.hid (wnV_no HG.out)
    go_enter Try.func36, Try.ntmps36
    go_wp2_with (first | (go_at_call 71; refine (piDig_any _ _ _ _ hs).mono ?_; rintro e w' ⟨rfl, rfl⟩; rw [h1]) | (go_at_call 55; refine (inW_any _ _ _ _).mono ?_; rintro e w' ⟨rfl, rfl⟩; rw [h2]))
    go_ret2
    exact ⟨ret_iBw HV.out.symm HG.out.symm, Ext.refl _⟩
  obtain ⟨n1, n2⟩ := inW_bd2 h2
  obtain ⟨m, rfl⟩ : ∃ m : Nat, n = (m : Int) := Int.eq_ofNat_of_zero_le (by omega)
  have hz := isDg_size h1
  have HD := Lib.hid h1
  have H2 := Lib.hid h2
  go_enter Try.func36, Try.ntmps36
  go_wp2_with (first | (go_at_call 71; refine (piDig_any _ _ _ _ hs).mono ?_; rintro e w' ⟨rfl, rfl⟩; rw [h1]) | (go_at_call 55; refine (inW_any _ _ _ _).mono ?_; rintro e w' ⟨rfl, rfl⟩; rw [h2]))
  clear h1 h2
  go_loopw [6] (fun i wr => ∃ k : Nat, k + 1 ≤ s.size ∧ i = .int .i64 ((k + 1 : Nat) : Int) ∧ incK s (k + 1) = true ∧ Ext w wr) (fun i _ => s.size - (intOf i).toNat)
  case atStart => exact ⟨0, by omega, rfl, rfl, Ext.refl _⟩
  case round =>
    obtain ⟨k, hk, rfl, hw, hx⟩ := hrel
    have HW := Lib.hid hw
    clear hw
    by_cases hlt : k + 1 < s.size
    · have HY := Lib.hid (fun h => incK_yes HW.out hlt h)
      have HN := Lib.hid (fun h => wnV_no (wnG_s (n := (m : Int)) (wnB_n (incK_bad hlt h) hlt)))
      have HN2 := Lib.hid (fun h => wnG_s (n := (m : Int)) (wnB_n (incK_bad hlt h) hlt))
      have ik : ∀ w, (Instr.index 9 (.string s) (.int .i64 (k : Int))).run Try.prog w = .ok (.int .u8 (s[k]'(by omega)).toNat) w := fun w => ixS s k (by omega) w
      have ik1 : ∀ w, (Instr.index 9 (.string s) (.int .i64 ((k + 1 : Nat) : Int))).run Try.prog w = .ok (.int .u8 (s[k + 1]'hlt).toNat) w := fun w => ixS s (k + 1) hlt w
      obtain ⟨k1, hk1⟩ : ∃ k1, k1 = k + 1 := ⟨_, rfl⟩
      have hk1s : k1 < s.size := by omega
      obtain ⟨a, ha⟩ : ∃ a : Nat, a = (s[k]'(by omega)).toNat := ⟨_, rfl⟩
      obtain ⟨b, hb⟩ : ∃ b : Nat, b = (s[k + 1]'hlt).toNat := ⟨_, rfl⟩
      rw [← ha] at ik HY HN HN2
      rw [← hb] at ik1 HY HN HN2
      rw [← hk1] at ik1
      have hkm : (k1 : Int) - 1 = (k : Int) := by omega
      have Wk : IntKind.i64.wrap ((k1 : Int) - 1) = (k : Int) := by simp only [IntKind.wrap_i64]; omega
      rw [← hk1]
      have HKK := Lib.hid hk1
      have hk1n : k1 ≤ 40 := by omega
      clear ha hb hk1 hlt hk
      by_cases hg : a < b
      · have hgi : ¬ (b : Int) ≤ (a : Int) := by omega
        have HV := Lib.hid (HY.out hg)
        clear hg
        go_wp2
        go_quiet (fail)
        go_wp2
        go_roundw
        case rel => exact ⟨k + 1, by have := HKK.out; omega, by have := HKK.out; rw [show ((k + 1 + 1 : Nat) : Int) = (k1 : Int) + 1 by omega], HV.out, ext_drewN hx _⟩
        case measure => simp [intOf]; omega
      · have hgi : (b : Int) ≤ (a : Int) := by omega
        have HV := Lib.hid (HN.out hg)
        have HG := Lib.hid (HN2.out hg)
        clear hg
        go_wp2
        go_quiet (fail)
        go_wp2
        go_ret2
        exact ⟨ret_iBw HV.out.symm HG.out.symm, ext_drewN hx _⟩
    · have hG := wnG_y (wnB_y (s := s) HD.out ((show k + 1 = s.size by omega) ▸ HW.out)) H2.out
      have HG := Lib.hid hG
      have HV := Lib.hid (wnV_yes hG)
      have hend : ¬ ((k + 1 : Nat) : Int) < (s.size : Int) := by omega
      obtain ⟨i0, hi, hz0, hzs, hzb⟩ := infoB info_inA
      have HI := Lib.hid (show Try.prog.info? 3 = some i0 ∧ i0.zero = some (.int .i64 0) ∧ i0.size = 1 ∧ i0.bytes = 8 from ⟨hi, hz0, hzs, hzb⟩)
      obtain ⟨K1, hK1e⟩ : ∃ K1, K1 = s.size + 1 := ⟨_, rfl⟩
      have HK1 := Lib.hid hK1e
      have K1i : (s.size : Int) + 1 = (K1 : Int) := by omega
      have WK1 : IntKind.i64.wrap ((s.size : Int) + 1) = (K1 : Int) := by simp only [IntKind.wrap_i64]; omega
      have WK2 : IntKind.i64.wrap (K1 : Int) = (K1 : Int) := by simp only [IntKind.wrap_i64]; omega
      have hK11 : K1 ≤ 11 := by omega
      have hK12 : 2 ≤ K1 := by omega
      have hm4 : m ≤ 4 := by omega
      have hsz10 : s.size ≤ 10 := by omega
      have hsz1 : 1 ≤ s.size := by omega
      obtain ⟨kk, hkk⟩ : ∃ kk, kk = k + 1 := ⟨_, rfl⟩
      rw [← hkk] at hend ⊢
      clear hi hz0 hzs hzb hK1e hG hkk n1 n2 hlt hk hz
      go_wp2_with (first | (at_make; refine wpList_make_full _ rfl _ _ 53 rfl wr.heap.size 3 i0 (.int .i64 0) 1 Try.underlying53 HI.out.1 HI.out.2.1 HI.out.2.2.1 .i64 .i64 _ _ K1 rfl rfl rfl rfl (by rw [HI.out.2.2.2]; omega) (by unfold maxLen; omega) (Nat.le_refl _) ?_; intro w1 hown hgr; have X1 : Ext wr w1 := ext_grown (Ext.refl wr) hgr (by intro k hk; cases hk); have R1 := Lib.hid (RowN.made hown rfl); have c0 := R1.out.at 0 (by omega); have f0 := R1.out.fr 0; clear hown hgr))
      have R2 := Lib.hid ((R1.out.set 0 1).congr (t' := fun u => (dpW s.size 0 u : Int)) (fun u _ => by
        show (if u = 0 then (1 : Int) else 0) = ((if u = 0 then 1 else 0 : Nat) : Int)
        split <;> rfl))
      have X2 : Ext wr (w1.setCell ⟨wr.heap.size, 0, none⟩ (.int .i64 1)) := X1.setCell (Nat.le_refl _) _
      obtain ⟨w2, hw2⟩ : ∃ w2, w2 = w1.setCell ⟨wr.heap.size, 0, none⟩ (.int .i64 1) := ⟨_, rfl⟩
      rw [← hw2] at R2 X2 ⊢
      obtain ⟨B, hB⟩ : ∃ B, B = wr.heap.size := ⟨_, rfl⟩
      rw [← hB] at R2 ⊢
      have HB := Lib.hid hB
      clear hw2 R1 c0 f0 hB X1 hend
      go_loopw [1, 7] (fun l v wz => ∃ t, t ≤ m ∧ l = .int .i64 ((m : Int) - (t : Int)) ∧ ∃ g, v = .slice (some ⟨g, 0, none⟩) K1 K1 ∧ RowN K1 B wz g (fun u => (dpW s.size t u : Int)) ∧ Ext wr wz) (fun l _ _ => (intOf l).toNat)
      case atStart => exact ⟨0, Nat.zero_le _, by simp, B, rfl, R2.out, X2⟩
      case round =>
        obtain ⟨t, ht, rfl, g, rfl, hR, hx2⟩ := hrel
        have HR := Lib.hid hR
        clear hR
        by_cases htm : t < m
        · have hlp : 0 < (m : Int) - (t : Int) := by omega
          go_wp2_with (first | (at_make; refine wpList_make_full _ rfl _ _ 53 rfl wr.heap.size 3 i0 (.int .i64 0) 1 Try.underlying53 HI.out.1 HI.out.2.1 HI.out.2.2.1 .i64 .i64 _ _ K1 rfl rfl rfl rfl (by rw [HI.out.2.2.2]; omega) (by unfold maxLen; omega) (Nat.le_refl _) ?_; intro w3 hown hgr; have X3 : Ext wr w3 := ext_grown (Ext.refl wr) hgr (by intro k hk; cases hk); have R3 := Lib.hid (RowN.made hown rfl); clear hown hgr))
          obtain ⟨wo, hwo⟩ : ∃ wo, wo = wr := ⟨_, rfl⟩
          rw [← hwo] at HR hx2 X3 R3 ⊢
          obtain ⟨C, hC⟩ : ∃ C, C = wo.heap.size := ⟨_, rfl⟩
          rw [← hC] at R3 ⊢
          have HC := Lib.hid hC
          have HWO := Lib.hid hwo
          clear hC hwo
          have R4 := Lib.hid (R3.out.congr (t' := fun u => (paW s.size t 0 u : Int)) (fun u _ => by rw [paW_0]; rfl))
          go_loopw [49] (fun q wy => ∃ j : Nat, j ≤ K1 ∧ q = .int .i64 (j : Int) ∧ RowN K1 C wy C (fun u => (paW s.size t j u : Int)) ∧ Ext wo wy) (fun q _ => K1 - (intOf q).toNat)
          case atStart => exact ⟨0, Nat.zero_le _, rfl, R4.out, X3⟩
          case round =>
            obtain ⟨j, hj, rfl, hN, hx4⟩ := hrel
            have HN := Lib.hid hN
            clear hN
            by_cases hjl : j < K1
            · have hji : (j : Int) < (K1 : Int) := by omega
              have cW := (HR.out.ext hx4).at j hjl
              have cN := HN.out.at j hjl
              have fN := HN.out.fr j
              have b1 := dpW_bd s.size (by omega) t (by omega) j (by omega)
              have b2 := paW_bd s.size (by omega) t (by omega) j (by omega) j (by omega)
              have b3 := paW_bd s.size (by omega) t (by omega) j (by omega) (j + 1) (by omega)
              have HS1 := Lib.hid (paW_self s.size t j)
              have HS2 := Lib.hid (paW_next s.size t j)
              have HS3 := Lib.hid (fun u => paW_other s.size t j u)
              obtain ⟨x, hx5⟩ : ∃ x, x = dpW s.size t j := ⟨_, rfl⟩
              obtain ⟨y, hy5⟩ : ∃ y, y = paW s.size t j j := ⟨_, rfl⟩
              obtain ⟨y2, hy6⟩ : ∃ y, y = paW s.size t j (j + 1) := ⟨_, rfl⟩
              rw [← hx5] at cW b1 HS1 HS2
              rw [← hy5] at cN b2 HS1
              rw [← hy6] at b3 HS2
              have m1 : j * x ≤ 11 * x := Nat.mul_le_mul_right _ (by omega)
              have m2 : (s.size - j) * x ≤ 11 * x := Nat.mul_le_mul_right _ (by omega)
              obtain ⟨P, hP⟩ : ∃ P, P = j * x := ⟨_, rfl⟩
              obtain ⟨P2, hP2⟩ : ∃ P, P = (s.size - j) * x := ⟨_, rfl⟩
              rw [← hP] at m1 HS1
              rw [← hP2] at m2 HS2
              have E1 : (x : Int) * (j : Int) = (P : Int) := by rw [hP, Nat.mul_comm]; simp
              have WP : IntKind.i64.wrap (P : Int) = (P : Int) := by simp only [IntKind.wrap_i64]; omega
              have W1 : IntKind.i64.wrap ((x : Int) * (j : Int)) = (P : Int) := by rw [E1]; exact WP
              have W2 : IntKind.i64.wrap ((y : Int) + (P : Int)) = (y : Int) + (P : Int) := by simp only [IntKind.wrap_i64]; omega
              have HY6 := Lib.hid hy6
              by_cases hu : j < s.size
              · have hui : (j : Int) < (s.size : Int) := by omega
                have hj1 : j + 1 < K1 := by have := HK1.out; omega
                obtain ⟨L, hL⟩ : ∃ L, L = s.size - j := ⟨_, rfl⟩
                have EL : (s.size : Int) - (j : Int) = (L : Int) := by omega
                have WL : IntKind.i64.wrap ((s.size : Int) - (j : Int)) = (L : Int) := by simp only [IntKind.wrap_i64]; omega
                have hL10 : L ≤ 10 := by omega
                have E2 : (x : Int) * (L : Int) = (P2 : Int) := by rw [hP2, hL, Nat.mul_comm]; simp
                have WP2 : IntKind.i64.wrap (P2 : Int) = (P2 : Int) := by simp only [IntKind.wrap_i64]; omega
                have W3 : IntKind.i64.wrap ((x : Int) * (L : Int)) = (P2 : Int) := by rw [E2]; exact WP2
                have W4 : IntKind.i64.wrap ((y2 : Int) + (P2 : Int)) = (y2 : Int) + (P2 : Int) := by simp only [IntKind.wrap_i64]; omega
                have N4 := Lib.hid (HN.out.set j ((y : Int) + (P : Int)))
                have c4 := N4.out.at (j + 1) hj1
                rw [if_neg (by omega), ← HY6.out] at c4
                have f4 := N4.out.fr (j + 1)
                have N5 := Lib.hid ((N4.out.set (j + 1) ((y2 : Int) + (P2 : Int))).congr (t' := fun u => (paW s.size t (j + 1) u : Int)) (fun u _ => by
                  by_cases e1 : u = j + 1
                  · subst e1; rw [if_pos rfl, HS2.out]; simp
                  · rw [if_neg e1]
                    by_cases e2 : u = j
                    · subst e2; rw [if_pos rfl, HS1.out]; simp
                    · rw [if_neg e2, HS3.out u e2 e1]))
                have X5 := Lib.hid (show Ext wo ((wr.setCell ⟨C, j, none⟩ (.int .i64 ((y : Int) + (P : Int)))).setCell ⟨C, j + 1, none⟩ (.int .i64 ((y2 : Int) + (P2 : Int)))) from (hx4.setCell (p := ⟨C, j, none⟩) (Nat.le_of_eq HC.out.symm) _).setCell (p := ⟨C, j + 1, none⟩) (Nat.le_of_eq HC.out.symm) _)
                obtain ⟨j1, hj1e⟩ : ∃ j1, j1 = j + 1 := ⟨_, rfl⟩
                have Cj : (j : Int) + 1 = (j1 : Int) := by omega
                have Wj : IntKind.i64.wrap ((j : Int) + 1) = (j1 : Int) := by simp only [IntKind.wrap_i64]; omega
                have j1i : (j1 : Int) < (K1 : Int) := by omega
                have j1l : j1 < K1 := by omega
                rw [← hj1e] at c4 f4 N5 X5
                have HJ := Lib.hid hj1e
                clear hx5 hy5 hy6 hP hP2 hL hj1e hu hj1 m1 m2
                go_wp2
                go_roundw
                case rel => exact ⟨j1, by have := HJ.out; omega, by first | rfl | go_num, N5.out, X5.out⟩
                case measure => simp [intOf]; have := HJ.out; omega
              · have hui : ¬ (j : Int) < (s.size : Int) := by omega
                have N5 := Lib.hid ((HN.out.set j ((y : Int) + (P : Int))).congr (t' := fun u => (paW s.size t (j + 1) u : Int)) (fun u hu2 => by
                  by_cases e2 : u = j
                  · subst e2; rw [if_pos rfl, HS1.out]; simp
                  · rw [if_neg e2, HS3.out u e2 (by have := HK1.out; omega)]))
                have X5 := Lib.hid (show Ext wo (wr.setCell ⟨C, j, none⟩ (.int .i64 ((y : Int) + (P : Int)))) from hx4.setCell (p := ⟨C, j, none⟩) (Nat.le_of_eq HC.out.symm) _)
                clear hx5 hy5 hy6 hP hP2 hu m1 m2
                go_wp2
                go_roundw
                case rel => exact ⟨j + 1, by omega, by go_num, N5.out, X5.out⟩
                case measure => simp [intOf]; omega
            · have N6 := Lib.hid ((show RowN K1 B wr C (fun u => (paW s.size t j u : Int)) from ⟨HN.out.1, HN.out.2.imp id fun ⟨g, c, cur, a1, a2, a3⟩ => ⟨g, c, cur, a1, by have := HC.out; have := HB.out; have := hx2.size; omega, a3⟩⟩).congr (t' := fun u => (dpW s.size (t + 1) u : Int)) (fun u hu => by
                rw [show j = s.size + 1 by have := HK1.out; omega, paW_all s.size t u (by have := HK1.out; omega)]))
              have hjn : ¬ (j : Int) < (K1 : Int) := by omega
              have X6 := Lib.hid (hx2.trans hx4)
              go_wp2
              go_roundw
              case rel => exact ⟨t + 1, by omega, by first | rfl | (congr 1; omega), C, rfl, N6.out, X6.out⟩
              case measure => simp [intOf]; omega
        · have hlp : ¬ 0 < (m : Int) - (t : Int) := by omega
          obtain rfl : t = m := by omega
          have cK := HR.out.at s.size (by have := HK1.out; omega)
          have HE := Lib.hid (dpW_cw s.size (by omega) t (by omega))
          have hsK : (s.size : Int) < (K1 : Int) := by omega
          go_wp2
          go_ret2
          exact ⟨ret_iBw (by rw [HV.out, HE.out]) HG.out.symm, by first | exact ext_drewN (hx.trans hx2) _ | exact hx.trans hx2⟩
end Go.Proofs.Ytmpajijnpoekgaa
