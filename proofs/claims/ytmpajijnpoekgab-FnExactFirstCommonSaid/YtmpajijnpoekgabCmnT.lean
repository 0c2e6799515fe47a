/- The model's table of common lengths. No conditions. -/
import Derived.Test.YtmpajijnpoekgabGrid
import Derived.Test.YtmpajijnpoekgabCmn
namespace Go.Proofs.Ytmpajijnpoekgab
open Go.RowKit

def lcN (a b : ByteArray) (i j : Nat) : Nat := lcs (a.data.toList.drop i) (b.data.toList.drop j)
theorem lcN_cm (a b : ByteArray) (i j : Nat) : lcN a b i j = (cm a b i j).length := lcs_com' _ _
theorem lcN_endA (a b : ByteArray) (i j : Nat) (h : a.size ≤ i) : lcN a b i j = 0 := by rw [lcN_cm, cm_endA a b i j h]; rfl
theorem lcN_endB (a b : ByteArray) (i j : Nat) (h : b.size ≤ j) : lcN a b i j = 0 := by rw [lcN_cm, cm_endB a b i j h]; rfl
theorem lcN_max (a b : ByteArray) (i j : Nat) : lcN a b i j ≤ a.size := by rw [lcN_cm]; exact cm_len a b i j
theorem lcN_yes {a b : ByteArray} {i j : Nat} (h : i < a.size) (k : j < b.size) (e : sg a i = sg b j) : lcN a b i j = max (max (lcN a b (i + 1) j) (lcN a b i (j + 1))) (lcN a b (i + 1) (j + 1) + 1) := by
  unfold lcN
  rw [dropAt a i h, dropAt b j k, lcs_cons, if_pos e]
theorem lcN_no {a b : ByteArray} {i j : Nat} (h : i < a.size) (k : j < b.size) (e : sg a i ≠ sg b j) : lcN a b i j = max (lcN a b (i + 1) j) (lcN a b i (j + 1)) := by
  unfold lcN
  rw [dropAt a i h, dropAt b j k, lcs_cons, if_neg e]
theorem most_nat (a b : Nat) (w : World) : Calls Try.prog 102 #[.int .i64 a, .int .i64 b] w fun e w' => e = .returned (.int .i64 (max a b : Nat)) ∧ w = w' := by
  by_cases h : a < b
  · have HR := Lib.hid (show max a b = b by omega)
    have hi : (a : Int) < (b : Int) := by omega
    have hi2 : ¬ (b : Int) < (a : Int) := by omega
    go_enter Try.func102, Try.ntmps102
    go_wp2
    go_ret
    exact ⟨by rw [HR.out]; rfl, rfl⟩
  · by_cases h2 : a = b
    · subst h2
      have HR := Lib.hid (show max a a = a by omega)
      go_enter Try.func102, Try.ntmps102
      go_wp2
      go_ret
      exact ⟨by rw [HR.out]; rfl, rfl⟩
    · have HR := Lib.hid (show max a b = a by omega)
      have hi : (b : Int) < (a : Int) := by omega
      have hi2 : ¬ (a : Int) < (b : Int) := by omega
      go_enter Try.func102, Try.ntmps102
      go_wp2
      go_ret
      exact ⟨by rw [HR.out]; rfl, rfl⟩
/-- The table while it is filled. -/
def tC (a b : ByteArray) (I J r c : Nat) : Int := if I ≤ r ∨ r + 1 = I ∧ J ≤ c then (lcN a b r c : Int) else 0
theorem tC_start (a b : ByteArray) (r c : Nat) : (0 : Int) = tC a b a.size b.size r c := by
  unfold tC
  by_cases h : a.size ≤ r ∨ r + 1 = a.size ∧ b.size ≤ c
  · rw [if_pos h]
    rcases h with h | h
    · rw [lcN_endA a b r c h]; rfl
    · rw [lcN_endB a b r c h.2]; rfl
  · rw [if_neg h]
theorem tC_next (a b : ByteArray) (i r c : Nat) : tC a b (i + 1) 0 r c = tC a b i b.size r c := by
  unfold tC
  by_cases h : i ≤ r
  · rw [if_pos (by omega), if_pos (.inl h)]
  · rw [if_neg (by omega)]
    by_cases h2 : r + 1 = i ∧ b.size ≤ c
    · rw [if_pos (.inr h2), lcN_endB a b r c h2.2]; rfl
    · rw [if_neg (by omega)]
theorem tC_set (a b : ByteArray) (i j r c : Nat) (x : Int) (hx : x = (lcN a b i j : Int)) : (if r = i ∧ c = j then x else tC a b (i + 1) (j + 1) r c) = tC a b (i + 1) j r c := by
  by_cases h : r = i ∧ c = j
  · rw [if_pos h, hx, h.1, h.2]
    unfold tC
    rw [if_pos (by omega)]
  · rw [if_neg h]
    unfold tC
    by_cases h2 : i + 1 ≤ r ∨ r + 1 = i + 1 ∧ j + 1 ≤ c
    · rw [if_pos h2, if_pos (by omega)]
    · rw [if_neg h2, if_neg (by omega)]
theorem tC_all (a b : ByteArray) (r c : Nat) : tC a b 0 b.size r c = (lcN a b r c : Int) := by
  unfold tC
  rw [if_pos (by omega)]
/-- A table of the call's own. -/
def ResC (a b : ByteArray) (w : World) (e : Ending) (w' : World) : Prop := ∃ v U, e = .returned v ∧ Grid (b.size + 1) w.heap.size w' v (a.size + 1) U (fun r c => (lcN a b r c : Int)) ∧ Ext w w'

set_option maxRecDepth 100000 in
set_option maxHeartbeats 4000000 in
theorem common_any (a b : ByteArray) (w : World) (ha : a.size ≤ 20) (hb : b.size ≤ 20) : Calls Try.prog 76 #[.string a, .string b] w (ResC a b w) := by
  obtain ⟨i0, hi, hz0, hzs, hzb⟩ := infoB info_inA
  have HI := Lib.hid (show Try.prog.info? 3 = some i0 ∧ i0.zero = some (.int .i64 0) ∧ i0.size = 1 ∧ i0.bytes = 8 from ⟨hi, hz0, hzs, hzb⟩)
  clear hi hz0 hzs hzb
  obtain ⟨n, hn⟩ : ∃ n, n = b.size + 1 := ⟨_, rfl⟩
  have hn21 : n ≤ 21 := by omega
  have hn0 : 0 < n := by omega
  have HNN := Lib.hid hn
  have hni : (b.size : Int) + 1 = (n : Int) := by omega
  have Wn : IntKind.i64.wrap ((b.size : Int) + 1) = (n : Int) := by simp only [IntKind.wrap_i64]; omega
  go_enter Try.func76, Try.ntmps76
  go_wp2
  clear hn
  go_loopw [5, 6] (fun o q wr => ∃ (k : Nat) (U : Nat → Nat), k ≤ a.size + 1 ∧ q = .int .i64 k ∧ Grid n w.heap.size wr o k U (fun _ _ => 0) ∧ Ext w wr) (fun _ q _ => a.size + 1 - (intOf q).toNat)
  case atStart => exact ⟨0, fun _ => 0, Nat.zero_le _, rfl, Grid.nil _ _ _ _ _, Ext.refl _⟩
  case round =>
    obtain ⟨k, U, hk, rfl, hg, hx⟩ := hrel
    have HG := Lib.hid hg
    clear hg
    by_cases hle : k ≤ a.size
    · have hlei : (k : Int) ≤ (a.size : Int) := by omega
      go_wp2_with (first | (at_make; refine wpList_make_full _ rfl _ _ 58 rfl wr.heap.size 3 i0 (.int .i64 0) 1 Try.underlying58 HI.out.1 HI.out.2.1 HI.out.2.2.1 .i64 .i64 _ _ n rfl rfl rfl rfl (by rw [HI.out.2.2.2]; omega) (by unfold maxLen; omega) (Nat.le_refl _) ?_; intro w2 hown2 hgr2; have X2 : Ext wr w2 := ext_grown (Ext.refl wr) hgr2 (by intro k hk; cases hk); have hR2 := RowN.made hown2 rfl; have R2 := Lib.hid (show RowN n w.heap.size w2 wr.heap.size (fun _ => 0) from ⟨hR2.1, hR2.2.imp id fun ⟨g, c, cur, a1, a2, a3⟩ => ⟨g, c, cur, a1, Nat.le_trans hx.size a2, a3⟩⟩); have HFR := Lib.hid (fun q (hq : q < k) => show U q ≠ wr.heap.size from fun e => by have := (HG.out.inner q hq).lt.2; omega); clear hR2 hown2 hgr2) | (at_builtin; refine app_row rfl _ _ rfl w n w.heap.size _ _ k U (fun _ _ => 0) wr.heap.size (fun _ => 0) rfl (by exact HG.out.ext X2) (by exact R2.out) (by exact HFR.out) (by exact hx.trans X2) (Nat.le_refl _) (hx.trans X2).size (by omega) rfl ?_; intro v5 w5 g5 x5; have G5 := Lib.hid (g5.congr (T' := fun _ _ => 0) (fun r c _ _ => by split <;> rfl)); clear g5))
      go_roundw
      case rel => exact ⟨k + 1, _, by omega, by go_num, G5.out, x5⟩
      case measure => simp [intOf] <;> omega
    · obtain rfl : k = a.size + 1 := by omega
      obtain ⟨a5, c5, rfl⟩ := HG.out.shape
      obtain ⟨g5, rfl, hB5, hg5, _⟩ := HG.out.at 0 (by omega)
      have HG0 := Lib.hid (HG.out.congr (T' := tC a b a.size b.size) (fun r c _ _ => tC_start a b r c))
      have hki : ¬ ((a.size + 1 : Nat) : Int) ≤ (a.size : Int) := by omega
      obtain ⟨N, hN⟩ : ∃ N, N = a.size + 1 := ⟨_, rfl⟩
      have hNa : N ≤ 21 := by omega
      have HNA := Lib.hid hN
      rw [← hN] at HG0 hki ⊢
      clear hN hk hle HG
      have Wa1 : IntKind.i64.wrap ((a.size : Int) - 1) = (a.size : Int) - 1 := by simp only [IntKind.wrap_i64]; omega
      have Wb1 : IntKind.i64.wrap ((b.size : Int) - 1) = (b.size : Int) - 1 := by simp only [IntKind.wrap_i64]; omega
      go_wp2
      go_loopw [7] (fun q wy => ∃ (I : Nat) (x : Int), I ≤ a.size ∧ q = .int .i64 x ∧ x = (I : Int) - 1 ∧ Grid n w.heap.size wy (.slice (some ⟨g5, 0, none⟩) N c5) N U (tC a b I b.size) ∧ Ext w wy) (fun q _ => (intOf q + 1).toNat)
      case atStart => exact ⟨a.size, _, Nat.le_refl _, rfl, by first | rfl | omega, HG0.out, hx⟩
      case round =>
        obtain ⟨I, x, hI, rfl, hxI, hT, hx1⟩ := hrel
        have HT := Lib.hid hT
        clear hT
        by_cases h0 : 0 ≤ x
        · obtain ⟨i, rfl⟩ : ∃ i : Nat, x = (i : Int) := Int.eq_ofNat_of_zero_le h0
          obtain rfl : I = i + 1 := by omega
          have hiN : i < N := by have := HNA.out; omega
          have hia : i < a.size := by omega
          have hiNi : (i : Int) < (N : Int) := by omega
          have cU : wr.cell? ⟨g5, i, none⟩ = some (.slice (some ⟨U i, 0, none⟩) n n) := by
            obtain ⟨g, e, _, _, hc⟩ := HT.out.at i hiN
            have e : g5 = g := by injection e with e; injection e
            rw [e]
            exact hc _ (Ext.refl _) i hiN
          clear hxI hI h0
          go_wp2
          go_loopw [9] (fun q wz => ∃ (J : Nat) (y : Int), J ≤ b.size ∧ q = .int .i64 y ∧ y = (J : Int) - 1 ∧ Grid n w.heap.size wz (.slice (some ⟨g5, 0, none⟩) N c5) N U (tC a b (i + 1) J) ∧ Ext w wz) (fun q _ => (intOf q + 1).toNat)
          case atStart => exact ⟨b.size, _, Nat.le_refl _, rfl, by first | rfl | omega, HT.out, by first | exact hx1 | exact ext_drewN hx1 _⟩
          case round =>
            obtain ⟨J, y, hJ, rfl, hyJ, hT2, hx2⟩ := hrel
            have HT2 := Lib.hid hT2
            clear hT2
            by_cases h1 : 0 ≤ y
            · obtain ⟨j, rfl⟩ : ∃ j : Nat, y = (j : Int) := Int.eq_ofNat_of_zero_le h1
              obtain rfl : J = j + 1 := by omega
              have hjb : j < b.size := by omega
              have hjn : j < n := by have := HNN.out; omega
              have hjni : (j : Int) < (n : Int) := by omega
              clear hyJ hJ h1
              have hUB : w.heap.size ≤ U i := (HT2.out.inner i hiN).lt.1
              have cS := (HT2.out.inner i hiN).at j hjn
              have fS := (HT2.out.inner i hiN).fr j
              have ii : ∀ w, (Instr.index 9 (.string a) (.int .i64 (i : Int))).run Try.prog w = .ok (.int .u8 ((sg a i).toNat : Int)) w := fun w => ixB a i hia w
              have ij : ∀ w, (Instr.index 9 (.string b) (.int .i64 (j : Int))).run Try.prog w = .ok (.int .u8 ((sg b j).toNat : Int)) w := fun w => ixB b j hjb w
              obtain ⟨i1, hi1⟩ : ∃ i1, i1 = i + 1 := ⟨_, rfl⟩
              obtain ⟨j1, hj1⟩ : ∃ j1, j1 = j + 1 := ⟨_, rfl⟩
              have Wi : IntKind.i64.wrap ((i : Int) + 1) = (i1 : Int) := by simp only [IntKind.wrap_i64]; omega
              have Wj : IntKind.i64.wrap ((j : Int) + 1) = (j1 : Int) := by simp only [IntKind.wrap_i64]; omega
              have Wi1 : IntKind.i64.wrap (i1 : Int) = (i1 : Int) := by simp only [IntKind.wrap_i64]; omega
              have Wj1 : IntKind.i64.wrap (j1 : Int) = (j1 : Int) := by simp only [IntKind.wrap_i64]; omega
              have Ci : (i : Int) + 1 = (i1 : Int) := by omega
              have Cj : (j : Int) + 1 = (j1 : Int) := by omega
              have i1a : i1 < N := by have := HNA.out; omega
              have j1a : j1 < n := by have := HNN.out; omega
              have i1i : (i1 : Int) < (N : Int) := by omega
              have j1i : (j1 : Int) < (n : Int) := by omega
              have cU2 : wr.cell? ⟨g5, i1, none⟩ = some (.slice (some ⟨U i1, 0, none⟩) n n) := by
                obtain ⟨g, e, _, _, hc⟩ := HT2.out.at i1 i1a
                have e : g5 = g := by injection e with e; injection e
                rw [e]
                exact hc _ (Ext.refl _) i1 i1a
              have eE : tC a b (i + 1) (j + 1) i1 j = (lcN a b i1 j : Int) := by unfold tC; rw [if_pos (by omega)]
              have eR : tC a b (i + 1) (j + 1) i j1 = (lcN a b i j1 : Int) := by unfold tC; rw [if_pos (by omega)]
              have eD : tC a b (i + 1) (j + 1) i1 j1 = (lcN a b i1 j1 : Int) := by unfold tC; rw [if_pos (by omega)]
              have cE := (HT2.out.inner i1 i1a).at j hjn
              rw [eE] at cE
              have cR := (HT2.out.inner i hiN).at j1 j1a
              rw [eR] at cR
              have m1 := lcN_max a b i1 j
              have m2 := lcN_max a b i j1
              have m3 := lcN_max a b i1 j1
              obtain ⟨X, hX⟩ : ∃ X, X = lcN a b i1 j := ⟨_, rfl⟩
              obtain ⟨Y, hY⟩ : ∃ Y, Y = lcN a b i j1 := ⟨_, rfl⟩
              obtain ⟨Z, hZ⟩ : ∃ Z, Z = lcN a b i1 j1 := ⟨_, rfl⟩
              rw [← hX] at m1 cE
              rw [← hY] at m2 cR
              rw [← hZ] at m3
              obtain ⟨M, hM⟩ : ∃ M, M = max X Y := ⟨_, rfl⟩
              have HMO := Lib.hid (fun w => most_nat X Y w)
              rw [← hM] at HMO
              have HSET := Lib.hid (fun (wz : World) (hz : Ext wr wz) (v : Int) (hv : v = (lcN a b i j : Int)) => show Grid n w.heap.size (wz.setCell ⟨U i, j, none⟩ (.int .i64 v)) (.slice (some ⟨g5, 0, none⟩) N c5) N U (tC a b (i + 1) j) ∧ Ext w (wz.setCell ⟨U i, j, none⟩ (.int .i64 v)) from
                ⟨((HT2.out.ext hz).set i j hiN v).congr (fun r c _ _ => tC_set a b i j r c v hv), (hx2.trans hz).setCell hUB _⟩)
              by_cases he : sg a i = sg b j
              · have hei : ((sg a i).toNat : Int) = ((sg b j).toNat : Int) := by rw [he]
                have heb : (((sg a i).toNat : Int) == ((sg b j).toNat : Int)) = true := beq_iff_eq.2 hei
                have G1 := HT2.out.set i j hiN (M : Int)
                have c1U : (wr.setCell ⟨U i, j, none⟩ (.int .i64 (M : Int))).cell? ⟨g5, i1, none⟩ = some (.slice (some ⟨U i1, 0, none⟩) n n) := by
                  obtain ⟨g, e, _, _, hc⟩ := G1.at i1 i1a
                  have e : g5 = g := by injection e with e; injection e
                  rw [e]
                  exact hc _ (Ext.refl _) i1 i1a
                have c1S := (G1.inner i hiN).at j hjn
                rw [if_pos ⟨rfl, rfl⟩] at c1S
                have f1S := (G1.inner i hiN).fr j
                have c1D := (G1.inner i1 i1a).at j1 j1a
                rw [if_neg (by omega), eD, ← hZ] at c1D
                have HSE := Lib.hid (fun (wz : World) (hz : Ext (wr.setCell ⟨U i, j, none⟩ (.int .i64 (M : Int))) wz) (v : Int) (hv : v = (lcN a b i j : Int)) => show Grid n w.heap.size (wz.setCell ⟨U i, j, none⟩ (.int .i64 v)) (.slice (some ⟨g5, 0, none⟩) N c5) N U (tC a b (i + 1) j) ∧ Ext w (wz.setCell ⟨U i, j, none⟩ (.int .i64 v)) from
                  ⟨((G1.ext hz).set i j hiN v).congr (fun r c _ _ => by
                    rw [← tC_set a b i j r c v hv]
                    by_cases e1 : r = i ∧ c = j
                    · rw [if_pos e1, if_pos e1]
                    · rw [if_neg e1, if_neg e1, if_neg e1]), ((hx2.setCell (p := ⟨U i, j, none⟩) hUB (.int .i64 (M : Int))).trans hz).setCell hUB _⟩)
                obtain ⟨Z1, hZ1⟩ : ∃ Z1, Z1 = Z + 1 := ⟨_, rfl⟩
                have CZ : (Z : Int) + 1 = (Z1 : Int) := by omega
                have WZ : IntKind.i64.wrap ((Z : Int) + 1) = (Z1 : Int) := by simp only [IntKind.wrap_i64]; omega
                have WZ1 : IntKind.i64.wrap (Z1 : Int) = (Z1 : Int) := by simp only [IntKind.wrap_i64]; omega
                obtain ⟨L, hL⟩ : ∃ L, L = max M Z1 := ⟨_, rfl⟩
                have HM2 := Lib.hid (fun w => most_nat M Z1 w)
                rw [← hL] at HM2
                have HLL := Lib.hid (show (L : Int) = (lcN a b i j : Int) by rw [hL, hM, hX, hY, hZ1, hZ, lcN_yes hia hjb he, hi1, hj1])
                clear he hX hY hZ hi1 hj1 hM hL hZ1 m1 m2 m3 eE eR eD G1
                go_wp2
                go_region_with (go_at_call 102; refine (HMO.out _).mono ?_; rintro e w' ⟨rfl, rfl⟩)
                all_goals go_wp2
                all_goals go_quiet (fail)
                all_goals go_wp2
                all_goals go_region_with (go_at_call 102; refine (HM2.out _).mono ?_; rintro e w' ⟨rfl, rfl⟩)
                all_goals go_wp2
                all_goals first | exact ⟨⟨j, _, by omega, rfl, by omega, (HSE.out _ (ext_drewN (Ext.refl _) _) _ HLL.out).1, (HSE.out _ (ext_drewN (Ext.refl _) _) _ HLL.out).2⟩, by simp [intOf]⟩ | exact ⟨⟨j, _, by omega, rfl, by omega, ((HSE.out _ (ext_drewN (Ext.refl _) _) _ HLL.out).1).ext (Ext.refl _).drew, ((HSE.out _ (ext_drewN (Ext.refl _) _) _ HLL.out).2).drew⟩, by simp [intOf]⟩
              · have hei : ¬ ((sg a i).toNat : Int) = ((sg b j).toNat : Int) := fun h => he (UInt8.toNat_inj.1 (by omega))
                have heb : (((sg a i).toNat : Int) == ((sg b j).toNat : Int)) = false := beq_eq_false_iff_ne.2 hei
                have HSE := Lib.hid (HSET.out wr (Ext.refl _) M (by rw [hM, hX, hY, lcN_no hia hjb he, hi1, hj1]))
                clear he hX hY hZ hi1 hj1 hM m1 m2 m3 eE eR eD
                go_wp2
                go_region_with (go_at_call 102; refine (HMO.out _).mono ?_; rintro e w' ⟨rfl, rfl⟩)
                all_goals go_wp2
                all_goals go_quiet (fail)
                all_goals go_wp2
                all_goals exact ⟨⟨j, _, by omega, rfl, by omega, HSE.out.1.ext (ext_drewN (Ext.refl _) _), ext_drewN HSE.out.2 _⟩, by simp [intOf]⟩
            · obtain rfl : J = 0 := by omega
              have HT3 := Lib.hid (HT2.out.congr (T' := tC a b i b.size) (fun r c _ _ => tC_next a b i r c))
              go_wp2
              exact ⟨⟨i, _, by omega, rfl, by omega, HT3.out, hx2⟩, by simp [intOf]⟩
        · obtain rfl : I = 0 := by omega
          have HT3 := Lib.hid (HT.out.congr (T' := fun r c => (lcN a b r c : Int)) (fun r c _ _ => tC_all a b r c))
          rw [HNN.out] at HT3
          have HT4 := Lib.hid (show Grid (b.size + 1) w.heap.size wr (.slice (some ⟨g5, 0, none⟩) N c5) (a.size + 1) U (fun r c => (lcN a b r c : Int)) by rw [← HNA.out]; exact HT3.out)
          go_wp2
          go_ret
          exact ⟨_, U, rfl, HT4.out, hx1⟩
end Go.Proofs.Ytmpajijnpoekgab
