/- The model's table of distances. No conditions. -/
import Derived.Test.YtnoidabmbckfkabGrid
import Derived.Test.YtnoidabmbckfkabLev
import Derived.Test.YtnoidabmbckfkabCol
import Derived.Deep.RegionWith
namespace Go.Proofs.Ytnoidabmbckfkab
open Go.RowKit

theorem least_anyB (a b : Int) (w : World) : Calls Try.prog 95 #[.int .i64 a, .int .i64 b] w fun e w' => e = .returned (.int .i64 (if a < b then a else b)) ∧ w = w' := by
  by_cases h : a < b
  · rw [if_pos h]
    go_enter Try.func95, Try.ntmps95
    go_wp2
    go_ret
    exact ⟨rfl, rfl⟩
  · rw [if_neg h]
    go_enter Try.func95, Try.ntmps95
    go_wp2
    go_ret
    exact ⟨rfl, rfl⟩
theorem least_nat (a b : Nat) (w : World) : Calls Try.prog 95 #[.int .i64 a, .int .i64 b] w fun e w' => e = .returned (.int .i64 (min a b : Nat)) ∧ w = w' := by
  refine (least_anyB _ _ _).mono ?_
  rintro e w' ⟨rfl, rfl⟩
  refine ⟨?_, rfl⟩
  have : (if (a : Int) < (b : Int) then (a : Int) else (b : Int)) = ((min a b : Nat) : Int) := by split <;> omega
  rw [this]
/-- The table while it is filled. -/
def tG (a b : ByteArray) (I J r c : Nat) : Int := if I ≤ r ∨ r + 1 = I ∧ J ≤ c then (lv a b r c : Int) else 0
theorem tG_start (a b : ByteArray) (r c : Nat) (h : r < a.size + 1) (h2 : c < b.size + 1) : (0 : Int) = tG a b (a.size + 1) (b.size + 1) r c := by unfold tG; rw [if_neg (by omega)]
theorem tG_next (a b : ByteArray) (i r c : Nat) (h2 : c < b.size + 1) : tG a b (i + 1) 0 r c = tG a b i (b.size + 1) r c := by
  unfold tG
  by_cases h : i + 1 ≤ r ∨ r + 1 = i + 1 ∧ 0 ≤ c
  · rw [if_pos h, if_pos (by omega)]
  · rw [if_neg h, if_neg (by omega)]
theorem tG_set (a b : ByteArray) (i j r c : Nat) (x : Int) (hx : x = (lv a b i j : Int)) : (if r = i ∧ c = j then x else tG a b (i + 1) (j + 1) r c) = tG a b (i + 1) j r c := by
  by_cases h : r = i ∧ c = j
  · rw [if_pos h, hx, h.1, h.2]
    unfold tG
    rw [if_pos (by omega)]
  · rw [if_neg h]
    unfold tG
    by_cases h2 : i + 1 ≤ r ∨ r + 1 = i + 1 ∧ j + 1 ≤ c
    · rw [if_pos h2, if_pos (by omega)]
    · rw [if_neg h2, if_neg (by omega)]
theorem tG_all (a b : ByteArray) (r c : Nat) : tG a b 0 (b.size + 1) r c = (lv a b r c : Int) := by
  unfold tG
  rw [if_pos (by omega)]
def gU (h : Nat) (U : Nat → Nat) : Prop := ∀ k, h ≤ U k
/-- A table of the call's own. -/
def ResG (a b : ByteArray) (w : World) (e : Ending) (w' : World) : Prop := ∃ v U, e = .returned v ∧ Grid (b.size + 1) w.heap.size w' v (a.size + 1) U (fun r c => (lv a b r c : Int)) ∧ Ext w w'

set_option maxRecDepth 100000 in
set_option maxHeartbeats 4000000 in
theorem table_any (a b : ByteArray) (w : World) (ha : a.size ≤ 20) (hb : b.size ≤ 20) : Calls Try.prog 86 #[.string a, .string b] w (ResG a b w) := by
  obtain ⟨i0, hi, hz0, hzs, hzb⟩ := infoB info_inA
  have HI := Lib.hid (show Try.prog.info? 3 = some i0 ∧ i0.zero = some (.int .i64 0) ∧ i0.size = 1 ∧ i0.bytes = 8 from ⟨hi, hz0, hzs, hzb⟩)
  clear hi hz0 hzs hzb
  obtain ⟨n, hn⟩ : ∃ n, n = b.size + 1 := ⟨_, rfl⟩
  have hn21 : n ≤ 21 := by omega
  have hn0 : 0 < n := by omega
  have HNN := Lib.hid hn
  have hni : (b.size : Int) + 1 = (n : Int) := by omega
  have Wn : IntKind.i64.wrap ((b.size : Int) + 1) = (n : Int) := by simp only [IntKind.wrap_i64]; omega
  go_enter Try.func86, Try.ntmps86
  go_wp2
  clear hn
  go_loopw [5, 6] (fun o q wr => ∃ (k : Nat) (U : Nat → Nat), k ≤ a.size + 1 ∧ q = .int .i64 k ∧ Grid n w.heap.size wr o k U (fun _ _ => 0) ∧ Ext w wr) (fun _ q _ => a.size + 1 - (intOf q).toNat)
  case atStart => exact ⟨0, fun _ => 0, Nat.zero_le _, rfl, Grid.nil _ _ _ _ _, Ext.refl _⟩
  case round =>
    obtain ⟨k, U, hk, rfl, hg, hx⟩ := hrel
    have HG := Lib.hid hg
    clear hg
    by_cases hle : k ≤ a.size
    · have hlei : (k : Int) ≤ (a.size : Int) := by omega
      go_wp2_with (first | (at_make; refine wpList_make_full _ rfl _ _ 42 rfl wr.heap.size 3 i0 (.int .i64 0) 1 Try.underlying42 HI.out.1 HI.out.2.1 HI.out.2.2.1 .i64 .i64 _ _ n rfl rfl rfl rfl (by rw [HI.out.2.2.2]; omega) (by unfold maxLen; omega) (Nat.le_refl _) ?_; intro w2 hown2 hgr2; have X2 : Ext wr w2 := ext_grown (Ext.refl wr) hgr2 (by intro k hk; cases hk); have hR2 := RowN.made hown2 rfl; have R2 := Lib.hid (show RowN n w.heap.size w2 wr.heap.size (fun _ => 0) from ⟨hR2.1, hR2.2.imp id fun ⟨g, c, cur, a1, a2, a3⟩ => ⟨g, c, cur, a1, Nat.le_trans hx.size a2, a3⟩⟩); have HFR := Lib.hid (fun q (hq : q < k) => show U q ≠ wr.heap.size from fun e => by have := (HG.out.inner q hq).lt.2; omega); clear hR2 hown2 hgr2) | (at_builtin; refine app_row rfl _ _ rfl w n w.heap.size _ _ k U (fun _ _ => 0) wr.heap.size (fun _ => 0) rfl (by exact HG.out.ext X2) (by exact R2.out) (by exact HFR.out) (by exact hx.trans X2) (Nat.le_refl _) (hx.trans X2).size (by omega) rfl ?_; intro v5 w5 g5 x5; have G5 := Lib.hid (g5.congr (T' := fun _ _ => 0) (fun r c _ _ => by split <;> rfl)); clear g5))
      go_roundw
      case rel => exact ⟨k + 1, _, by omega, by go_num, G5.out, x5⟩
      case measure => simp [intOf] <;> omega
    · obtain rfl : k = a.size + 1 := by omega
      obtain ⟨a5, c5, rfl⟩ := HG.out.shape
      obtain ⟨g5, rfl, hB5, hg5, _⟩ := HG.out.at 0 (by omega)
      have HG0 := Lib.hid (HG.out.congr (T' := tG a b (a.size + 1) (b.size + 1)) (fun r c hr hc => tG_start a b r c hr (by rw [← HNN.out]; exact hc)))
      have hki : ¬ ((a.size + 1 : Nat) : Int) ≤ (a.size : Int) := by omega
      obtain ⟨N, hN⟩ : ∃ N, N = a.size + 1 := ⟨_, rfl⟩
      have hNa : N ≤ 21 := by omega
      have HNA := Lib.hid hN
      rw [← hN] at HG0 hki ⊢
      clear hN hk hle HG
      go_wp2
      go_loopw [7] (fun q wy => ∃ (I : Nat) (x : Int), I ≤ N ∧ q = .int .i64 x ∧ x = (I : Int) - 1 ∧ Grid n w.heap.size wy (.slice (some ⟨g5, 0, none⟩) N c5) N U (tG a b I (b.size + 1)) ∧ Ext w wy) (fun q _ => (intOf q + 1).toNat)
      case atStart => exact ⟨N, _, Nat.le_refl _, rfl, by have := HNA.out; omega, by rw [HNA.out] at HG0 ⊢; exact HG0.out, hx⟩
      case round =>
        obtain ⟨I, x, hI, rfl, hxI, hT, hx1⟩ := hrel
        have HT := Lib.hid hT
        clear hT
        by_cases h0 : 0 ≤ x
        · obtain ⟨i, rfl⟩ : ∃ i : Nat, x = (i : Int) := Int.eq_ofNat_of_zero_le h0
          obtain rfl : I = i + 1 := by omega
          have hiN : i < N := by omega
          have hiNi : (i : Int) < (N : Int) := by omega
          have cU : wr.cell? ⟨g5, i, none⟩ = some (.slice (some ⟨U i, 0, none⟩) n n) := by
            obtain ⟨g, e, _, _, hc⟩ := HT.out.at i hiN
            have e : g5 = g := by injection e with e; injection e
            rw [e]
            exact hc _ (Ext.refl _) i hiN
          clear hxI hI h0
          go_wp2
          go_loopw [9] (fun q wz => ∃ (J : Nat) (y : Int), J ≤ n ∧ q = .int .i64 y ∧ y = (J : Int) - 1 ∧ Grid n w.heap.size wz (.slice (some ⟨g5, 0, none⟩) N c5) N U (tG a b (i + 1) J) ∧ Ext w wz) (fun q _ => (intOf q + 1).toNat)
          case atStart => exact ⟨n, _, Nat.le_refl _, rfl, by omega, by rw [HNN.out]; rw [HNN.out] at HT; exact HT.out, hx1⟩
          case round =>
            obtain ⟨J, y, hJ, rfl, hyJ, hT2, hx2⟩ := hrel
            have HT2 := Lib.hid hT2
            clear hT2
            by_cases h1 : 0 ≤ y
            · obtain ⟨j, rfl⟩ : ∃ j : Nat, y = (j : Int) := Int.eq_ofNat_of_zero_le h1
              obtain rfl : J = j + 1 := by omega
              have hjn : j < n := by omega
              have hjni : (j : Int) < (n : Int) := by omega
              clear hyJ hJ h1
              have hUB : w.heap.size ≤ U i := (HT2.out.inner i hiN).lt.1
              have cS := (HT2.out.inner i hiN).at j hjn
              have fS := (HT2.out.inner i hiN).fr j
              have HSET := Lib.hid (fun (wz : World) (hz : Ext wr wz) (v : Int) (hv : v = (lv a b i j : Int)) => show Grid n w.heap.size (wz.setCell ⟨U i, j, none⟩ (.int .i64 v)) (.slice (some ⟨g5, 0, none⟩) N c5) N U (tG a b (i + 1) j) ∧ Ext w (wz.setCell ⟨U i, j, none⟩ (.int .i64 v)) from
                ⟨((HT2.out.ext hz).set i j hiN v).congr (fun r c _ _ => tG_set a b i j r c v hv), (hx2.trans hz).setCell hUB _⟩)
              by_cases hin : i = a.size
              · have HL := Lib.hid (show ((b.size : Int) - (j : Int)) = (lv a b i j : Int) by rw [hin, lv_end]; have := HNN.out; omega)
                have hinb : ((i : Int) == (a.size : Int)) = true := beq_iff_eq.2 (by omega)
                clear hin
                go_wp2
                go_roundw
                case rel => exact ⟨j, _, by omega, rfl, by omega, (HSET.out _ (Ext.refl _) _ HL.out).1, (HSET.out _ (Ext.refl _) _ HL.out).2⟩
                case measure => simp [intOf]
              · have hina : i < a.size := by have := HNA.out; omega
                have hinI : ¬ (i : Int) = (a.size : Int) := by omega
                have hinb : ((i : Int) == (a.size : Int)) = false := beq_eq_false_iff_ne.2 hinI
                by_cases hjb : j = b.size
                · have HL := Lib.hid (show ((a.size : Int) - (i : Int)) = (lv a b i j : Int) by rw [hjb, lv_end2]; omega)
                  have hjnB : ((j : Int) == (b.size : Int)) = true := beq_iff_eq.2 (by omega)
                  clear hjb
                  go_wp2
                  go_roundw
                  case rel => exact ⟨j, _, by omega, rfl, by omega, (HSET.out _ (Ext.refl _) _ HL.out).1, (HSET.out _ (Ext.refl _) _ HL.out).2⟩
                  case measure => simp [intOf]
                · have hjnb : j < b.size := by have := HNN.out; omega
                  have hjnI : ¬ (j : Int) = (b.size : Int) := by omega
                  have hjnB : ((j : Int) == (b.size : Int)) = false := beq_eq_false_iff_ne.2 hjnI
                  have ii : ∀ w, (Instr.index 9 (.string a) (.int .i64 (i : Int))).run Try.prog w = .ok (.int .u8 ((sg a i).toNat : Int)) w := fun w => ixB a i hina w
                  have ij : ∀ w, (Instr.index 9 (.string b) (.int .i64 (j : Int))).run Try.prog w = .ok (.int .u8 ((sg b j).toNat : Int)) w := fun w => ixB b j hjnb w
                  obtain ⟨i1, hi1⟩ : ∃ i1, i1 = i + 1 := ⟨_, rfl⟩
                  obtain ⟨j1, hj1⟩ : ∃ j1, j1 = j + 1 := ⟨_, rfl⟩
                  have Wi : IntKind.i64.wrap ((i : Int) + 1) = (i1 : Int) := by simp only [IntKind.wrap_i64]; omega
                  have Wj : IntKind.i64.wrap ((j : Int) + 1) = (j1 : Int) := by simp only [IntKind.wrap_i64]; omega
                  have Wi1 : IntKind.i64.wrap (i1 : Int) = (i1 : Int) := by simp only [IntKind.wrap_i64]; omega
                  have Wj1 : IntKind.i64.wrap (j1 : Int) = (j1 : Int) := by simp only [IntKind.wrap_i64]; omega
                  have Ci : (i : Int) + 1 = (i1 : Int) := by omega
                  have Cj : (j : Int) + 1 = (j1 : Int) := by omega
                  have i1a : i1 < N := by have := HNA.out; omega
                  have j1a : j1 < n := by have := HNN.out; omega
                  have i1i : (i1 : Int) < (N : Int) := by omega
                  have j1i : (j1 : Int) < (n : Int) := by omega
                  have cU2 : wr.cell? ⟨g5, i1, none⟩ = some (.slice (some ⟨U i1, 0, none⟩) n n) := by
                    obtain ⟨g, e, _, _, hc⟩ := HT2.out.at i1 i1a
                    have e : g5 = g := by injection e with e; injection e
                    rw [e]
                    exact hc _ (Ext.refl _) i1 i1a
                  have cD := (HT2.out.inner i1 i1a).at j1 j1a
                  rw [show tG a b (i + 1) (j + 1) i1 j1 = (lv a b i1 j1 : Int) by unfold tG; rw [if_pos (by omega)]] at cD
                  have cE := (HT2.out.inner i1 i1a).at j hjn
                  rw [show tG a b (i + 1) (j + 1) i1 j = (lv a b i1 j : Int) by unfold tG; rw [if_pos (by omega)]] at cE
                  have cR := (HT2.out.inner i hiN).at j1 j1a
                  rw [show tG a b (i + 1) (j + 1) i j1 = (lv a b i j1 : Int) by unfold tG; rw [if_pos (by omega)]] at cR
                  have HL := Lib.hid (show lv a b i j = min (min (lv a b i1 j) (lv a b i j1) + 1) (lv a b i1 j1 + if sg a i = sg b j then 0 else 1) by rw [hi1, hj1]; exact lv_model hina hjnb)
                  have m1 := lv_max a b i1 j
                  have m2 := lv_max a b i j1
                  have m3 := lv_max a b i1 j1
                  obtain ⟨X, hX⟩ : ∃ X, X = lv a b i1 j := ⟨_, rfl⟩
                  obtain ⟨Y, hY⟩ : ∃ Y, Y = lv a b i j1 := ⟨_, rfl⟩
                  obtain ⟨Z, hZ⟩ : ∃ Z, Z = lv a b i1 j1 := ⟨_, rfl⟩
                  rw [← hX] at HL m1 cE
                  rw [← hY] at HL m2 cR
                  rw [← hZ] at HL m3 cD
                  obtain ⟨M, hM⟩ : ∃ M, M = min X Y := ⟨_, rfl⟩
                  have hM20 : M ≤ 20 := by omega
                  have hX20 : X ≤ 20 := by omega
                  have hY20 : Y ≤ 20 := by omega
                  have hZ20 : Z ≤ 20 := by omega
                  rw [← hM] at HL
                  have HM := Lib.hid hM
                  obtain ⟨M1, hM1⟩ : ∃ M1, M1 = M + 1 := ⟨_, rfl⟩
                  have CM : (M : Int) + 1 = (M1 : Int) := by omega
                  have WM : IntKind.i64.wrap ((M : Int) + 1) = (M1 : Int) := by simp only [IntKind.wrap_i64]; omega
                  have WM1 : IntKind.i64.wrap (M1 : Int) = (M1 : Int) := by simp only [IntKind.wrap_i64]; omega
                  obtain ⟨Z1, hZ1⟩ : ∃ Z1, Z1 = Z + 1 := ⟨_, rfl⟩
                  have CZ : (Z : Int) + 1 = (Z1 : Int) := by omega
                  have WZ : IntKind.i64.wrap ((Z : Int) + 1) = (Z1 : Int) := by simp only [IntKind.wrap_i64]; omega
                  have WZ1 : IntKind.i64.wrap (Z1 : Int) = (Z1 : Int) := by simp only [IntKind.wrap_i64]; omega
                  have WZ0 : IntKind.i64.wrap (Z : Int) = (Z : Int) := by simp only [IntKind.wrap_i64]; omega
                  rw [← hM1] at HL
                  clear hX hY hZ hi1 hj1 hM hM1 m1 m2 m3
                  by_cases he : ((sg a i).toNat : Int) = ((sg b j).toNat : Int)
                  · have heb : (((sg a i).toNat : Int) == ((sg b j).toNat : Int)) = true := beq_iff_eq.2 he
                    rw [if_pos (sg_eq.2 he)] at HL
                    clear he
                    have HL2 := Lib.hid (show ((min M1 Z : Nat) : Int) = (lv a b i j : Int) by rw [HL.out, Nat.add_zero])
                    clear HL hZ1
                    go_wp2
                    go_quiet (first | (exact Calls.quiet_of_same ((least_nat X Y _).mono fun e w' h => ⟨(h.1.trans (by rw [← HM.out]) : e = Ending.returned (.int .i64 (M : Int))), h.2.symm⟩)))
                    go_wp2
                    go_quiet (fail)
                    go_wp2_with (go_at_call 95; refine (least_nat M1 Z _).mono ?_; rintro e w9 ⟨rfl, rfl⟩)
                    exact ⟨⟨j, _, by omega, rfl, by omega, (HSET.out _ (ext_drewN (Ext.refl _) _) _ HL2.out).1, (HSET.out _ (ext_drewN (Ext.refl _) _) _ HL2.out).2⟩, by simp [intOf]⟩
                  · have heb : (((sg a i).toNat : Int) == ((sg b j).toNat : Int)) = false := beq_eq_false_iff_ne.2 he
                    rw [if_neg (fun h => he (sg_eq.1 h))] at HL
                    clear he
                    rw [← hZ1] at HL
                    have HL2 := Lib.hid (show ((min M1 Z1 : Nat) : Int) = (lv a b i j : Int) by rw [HL.out])
                    clear HL hZ1
                    go_wp2
                    go_quiet (first | (exact Calls.quiet_of_same ((least_nat X Y _).mono fun e w' h => ⟨(h.1.trans (by rw [← HM.out]) : e = Ending.returned (.int .i64 (M : Int))), h.2.symm⟩)))
                    go_wp2
                    go_quiet (fail)
                    go_wp2_with (go_at_call 95; refine (least_nat M1 Z1 _).mono ?_; rintro e w9 ⟨rfl, rfl⟩)
                    exact ⟨⟨j, _, by omega, rfl, by omega, (HSET.out _ (ext_drewN (Ext.refl _) _) _ HL2.out).1, (HSET.out _ (ext_drewN (Ext.refl _) _) _ HL2.out).2⟩, by simp [intOf]⟩
            · obtain rfl : J = 0 := by omega
              have HT3 := Lib.hid (HT2.out.congr (T' := tG a b i (b.size + 1)) (fun r c _ hc => tG_next a b i r c (by rw [← HNN.out]; exact hc)))
              go_wp2
              exact ⟨⟨i, _, by omega, rfl, by omega, HT3.out, hx2⟩, by simp [intOf]⟩
        · obtain rfl : I = 0 := by omega
          have HT3 := Lib.hid (HT.out.congr (T' := fun r c => (lv a b r c : Int)) (fun r c _ _ => tG_all a b r c))
          rw [HNN.out] at HT3
          have HT4 := Lib.hid (show Grid (b.size + 1) w.heap.size wr (.slice (some ⟨g5, 0, none⟩) N c5) (a.size + 1) U (fun r c => (lv a b r c : Int)) by rw [← HNA.out]; exact HT3.out)
          go_wp2
          go_ret
          exact ⟨_, U, rfl, HT4.out, hx1⟩
end Go.Proofs.Ytnoidabmbckfkab
