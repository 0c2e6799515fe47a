/- How many right numbers there are: the model's answer. No conditions. -/
import Derived.Test.YtdhcknknmloopaaCtr
namespace Go.Proofs.Ytdhcknknmloopaa
open Go.RowKit

def crV (m : Int) (zs : List Int) : Int := if isSch m zs = true then eE zs m.toNat 0 0 else 0
theorem crV_no {m : Int} {zs : List Int} (h : isSch m zs = false) : crV m zs = 0 := by unfold crV; rw [h]; rfl
theorem crV_yes {m : Nat} {zs : List Int} (h : isSch (m : Int) zs = true) : crV (m : Int) zs = eE zs m 0 0 := by unfold crV; rw [if_pos h, Int.toNat_natCast]
/-- A list of the call's own with these numbers, in a block that is told. -/
def RowG (B : Nat) (w : World) (g : Nat) (f : Nat → Int) (m : Nat) : Prop := w.ownsRow B 3 1 (.slice (some ⟨g, 0, none⟩) m m) m ((rwM f m).map (Value.int .i64))
theorem RowG.made {B : Nat} {w1 : World} {m g : Nat} (hown : w1.ownsRow B 3 1 (.slice (some ⟨g, 0, none⟩) m m) m (madeCells (Value.int .i64 0).cells (m * 1)).toList) : RowG B w1 g (fun _ => 0) m := by
  have e : (rwM (fun _ => 0) m).map (Value.int .i64) = (madeCells (Value.int .i64 0).cells (m * 1)).toList := by
    rw [Nat.mul_one, show (Value.int .i64 0).cells = #[Value.int .i64 0] from rfl, toList_madeCells_one]
    apply List.ext_getElem
    · simp [rwM]
    · intro i h1 h2
      simp [rwM]
  unfold RowG
  rw [e]
  exact hown
theorem RowG.ext {B : Nat} {w w' : World} {g m : Nat} {f : Nat → Int} (h : RowG B w g f m) (hx : Ext w w') : RowG B w' g f m := row_ext h hx
theorem RowG.lt {B : Nat} {w : World} {g m : Nat} {f : Nat → Int} (h : RowG B w g f m) : B ≤ g ∧ g < w.heap.size := World.ownsRow.lt h g rfl
theorem RowG.at {B : Nat} {w : World} {g m : Nat} {f : Nat → Int} (h : RowG B w g f m) (r : Nat) (hr : r < m) : w.cell? ⟨g, r, none⟩ = some (.int .i64 (f r)) ∧ w.frozen? ⟨g, r, none⟩ = false := by
  refine ⟨?_, World.ownsRow.frozenAt h r⟩
  rw [World.ownsRow.cellAt h r (by omega), List.getElem?_map, List.getElem?_eq_getElem (by rw [rwM_len]; exact hr), rwM_at f m r hr]
  rfl
theorem RowG.put {B : Nat} {w : World} {g m : Nat} {f : Nat → Int} (h : RowG B w g f m) (j : Nat) (n : Int) : RowG B (w.setCell ⟨g, j, none⟩ (.int .i64 (f j + n))) g (upd f j n) m := by
  have h1 := (World.ownsRow.stored h j (.int .i64 (f j + n))).1
  unfold RowG
  rw [← rwM_set, List.map_set]
  exact h1
theorem RowG.other {B : Nat} {w : World} {g m g2 : Nat} {f : Nat → Int} (h : RowG B w g f m) (hne : g2 ≠ g) (j : Nat) (v : Value) : RowG B (w.setCell ⟨g2, j, none⟩ v) g f m := by
  refine ⟨h.1, h.2.imp id fun ⟨g', cap, cur, h1, h2, h3, h4⟩ => ⟨g', cap, cur, h1, h2, ?_, h4⟩⟩
  injection h1 with h1
  injection h1 with h1
  injection h1 with h1
  rw [Below.heap_setCell _ _ _ _ (by show g' ≠ g2; intro e; exact hne (by rw [← e, ← h1]))]
  exact h3

theorem ctA_bd {zs : List Int} {m r V : Nat} {f : Nat → Int} (h : Nw zs m zs.length f) (hl : zs.length ≤ 12) (hr : r ≤ m) (hV : V ≤ 11) : 0 ≤ ctA zs m f r V ∧ ctA zs m f r V ≤ 50000000000000 := by
  have h0 := eE_bd (zs := zs) (m := m) (p := 0) (r := 0) hl
  have hp : ∀ q, q < m → 0 ≤ f q * eE zs m zs.length q := fun q hq => Int.mul_nonneg (h.nn q hq) (eE_bd hl).1
  have h1 := sumF_nn (f := fun q => f q * eE zs m zs.length q) (k := r) (fun q hq => hp q (by omega))
  have h2 := sumF_mono (f := fun q => f q * eE zs m zs.length q) hr hp
  rw [h.dot] at h2
  have h3 := sumF_bd (f := eTm zs m zs.length r) (b := 1) (by decide) (k := V) (fun v _ => by rw [eT_end]; split <;> decide)
  unfold ctA
  by_cases e : r < m
  · rw [if_pos e]
    have h4 := h.bd hl e
    have h5 : 0 ≤ f r * sumF (eTm zs m zs.length r) V := Int.mul_nonneg h4.1 h3.1
    have h6 : f r * sumF (eTm zs m zs.length r) V ≤ 1000000000000 * 11 := Int.mul_le_mul h4.2 (by omega) h3.1 (by decide)
    omega
  · rw [if_neg e, Int.zero_mul]
    omega

set_option maxRecDepth 100000 in
set_option maxHeartbeats 4000000 in
theorem crS_any (mi : Int) (v : Value) (zs : List Int) (w : World) (h : IntsA w v zs) (hm : -9223372036854775808 ≤ mi ∧ mi ≤ 9223372036854775807) : Calls Try.prog 41 #[.agg #[.int .i64 mi, v]] w fun e w' => e = .returned (.tuple #[.int .i64 (crV mi zs), .bool (isSch mi zs)]) ∧ Ext w w' := by
  have X0 := Lib.hid (show Ext w (w.alloc (.cells #[.int .i64 mi, v] 27)) from (Ext.refl w).alloc _)
  have H := Lib.hid (h.ext X0.out)
  have HG := Lib.hid (ckGood_any mi v zs _ (h.ext X0.out) hm)
  have hl := h.1
  unfold maxLen at hl
  obtain ⟨a, cap, hv⟩ := h.at
  rw [hv] at X0 H HG ⊢
  clear hv h
  cases h1 : isSch mi zs
  · have HV := Lib.hid (crV_no h1)
    rw [h1] at HG
    clear h1
    go_enter Try.func41, Try.ntmps41
    go_wp2_with (go_at_call 44; refine HG.out.mono ?_; rintro e w1 ⟨rfl, x1⟩)
    go_ret2
    exact ⟨by rw [HV.out]; rfl, X0.out.trans x1⟩
  have HB0 := isSch_bd h1
  obtain ⟨m, hmm⟩ : ∃ m : Nat, mi = (m : Int) := ⟨mi.toNat, by have := HB0.m1; omega⟩
  subst hmm
  have HV := Lib.hid (crV_yes h1)
  have HB := Lib.hid HB0
  have hm1 := HB.out.m1
  have hm2 := HB.out.m2
  have hl1 := HB.out.l1
  have hl2 := HB.out.l2
  obtain ⟨i0, hi, hz0, hzs, hzb⟩ := info_parts info_intP
  have HI := Lib.hid (show Try.prog.info? 3 = some i0 ∧ i0.zero = some (.int .i64 0) ∧ i0.size = 1 ∧ i0.bytes = 8 from ⟨hi, hz0, hzs, hzb⟩)
  rw [h1] at HG
  clear hi hz0 hzs hzb h1 HB0
  go_enter Try.func41, Try.ntmps41
  go_wp2_with (first | (go_at_call 44; refine HG.out.mono ?_; rintro e w1 ⟨rfl, x1⟩; obtain ⟨c1, c2⟩ := sc_cells x1) | (at_make; refine wpList_make_full _ rfl _ _ 22 rfl w1.heap.size 3 i0 (.int .i64 0) 1 Try.underlying22 HI.out.1 HI.out.2.1 HI.out.2.2.1 .i64 .i64 _ _ m rfl rfl rfl rfl (by rw [HI.out.2.2.2]; omega) (by unfold maxLen; omega) (Nat.le_refl _) ?_; intro w2 hown hgr; have X2 := Lib.hid (ext_grown (Ext.refl w1) hgr (by intro k hk; cases hk)); have RR := Lib.hid (RowG.made hown); obtain ⟨r1, r2⟩ := RR.out.at 0 (by omega); obtain ⟨c1, c2⟩ := sc_cells (x1.trans X2.out); have RS := Lib.hid (show RowG w1.heap.size (w2.setCell ⟨w1.heap.size, 0, none⟩ (.int .i64 1)) w1.heap.size (upd (fun _ => 0) 0 1) m from RR.out.put 0 1); have XS := Lib.hid (show Ext w1 (w2.setCell ⟨w1.heap.size, 0, none⟩ (.int .i64 1)) from X2.out.setCell (Nat.le_refl _) _); obtain ⟨d1, d2⟩ := sc_cells (x1.trans XS.out); clear hown hgr))
  have NW0 := Lib.hid (show Nw zs m 0 (upd (fun _ => 0) 0 1) from by
    have e : upd (fun _ => 0) 0 1 = (fun r => if r = 0 then (1 : Int) else 0) := by funext r; unfold upd; split <;> rfl
    rw [e]
    exact Nw.start zs m (by omega))
  have X1 := Lib.hid x1
  obtain ⟨w3, hw3⟩ : ∃ w3, w3 = w2.setCell ⟨w1.heap.size, 0, none⟩ (.int .i64 1) := ⟨_, rfl⟩
  rw [← hw3] at RS XS ⊢
  clear hw3 r1 r2 c1 c2 d1 d2 x1
  go_loopw [4, 26] (fun o i wr => ∃ k : Nat, k ≤ zs.length ∧ i = .int .i64 k ∧ (∃ g f, o = .slice (some ⟨g, 0, none⟩) m m ∧ RowG w1.heap.size wr g f m ∧ Nw zs m k f) ∧ Ext w1 wr) (fun _ i _ => zs.length - (intOf i).toNat)
  case atStart => exact ⟨0, Nat.zero_le _, rfl, ⟨_, _, rfl, RS.out, NW0.out⟩, XS.out⟩
  case round =>
    obtain ⟨k, hk, rfl, ⟨g, f, rfl, hrow, hnw⟩, hx⟩ := hrel
    have HR := Lib.hid hrow
    have HN := Lib.hid hnw
    have HX := Lib.hid hx
    have HS := Lib.hid (fun w' (x : Ext wr w') => sc_cells ((X1.out.trans HX.out).trans x))
    clear hrow hnw hx
    obtain ⟨c1, c2⟩ := HS.out wr (Ext.refl _)
    by_cases hlt : k < zs.length
    · obtain ⟨b, off, ha, hbs, e1⟩ := (H.out.ext (X1.out.trans HX.out)).get2 k hlt
      have hwz := wt_bd HB.out (j := k) (by omega)
      have HWZ := Lib.hid (wt_at hlt)
      rw [wt_at hlt] at hwz
      obtain ⟨Y, hY⟩ : ∃ Y, Y = zs[k] := ⟨_, rfl⟩
      rw [← hY] at e1 hwz HWZ
      subst ha
      have hki : (k : Int) < (zs.length : Int) := by omega
      clear hY
      go_wp2_with (first | (at_make; refine wpList_make_full _ rfl _ _ 22 rfl w1.heap.size 3 i0 (.int .i64 0) 1 Try.underlying22 HI.out.1 HI.out.2.1 HI.out.2.2.1 .i64 .i64 _ _ m rfl rfl rfl rfl (by rw [HI.out.2.2.2]; omega) (by unfold maxLen; omega) (HX.out.size) ?_; intro w4 hown hgr; have X4 := Lib.hid (ext_grown (Ext.refl wr) hgr (by intro k hk; cases hk)); have RN := Lib.hid (RowG.made hown); clear hown hgr))
      obtain ⟨wo, hwo⟩ : ∃ wo, wo = wr := ⟨_, rfl⟩
      rw [← hwo] at HR HX HS X4 RN ⊢
      clear hwo c1 c2 hbs e1
      have HLT := Lib.hid HR.out.lt
      have R4 := Lib.hid (HR.out.ext X4.out)
      go_loopw [35] (fun i wq => ∃ r : Nat, r ≤ m ∧ i = .int .i64 r ∧ (∃ gf, RowG w1.heap.size wq wo.heap.size gf m ∧ Nx zs m k f gf r 0) ∧ RowG w1.heap.size wq g f m ∧ Ext wo wq) (fun i _ => m - (intOf i).toNat)
      case atStart => exact ⟨0, Nat.zero_le _, rfl, ⟨_, RN.out, Nx.start⟩, R4.out, X4.out⟩
      case round =>
        obtain ⟨r, hrm, rfl, ⟨gf, hgf, hnx⟩, hro, hxq⟩ := hrel
        have HGF := Lib.hid hgf
        have HNX := Lib.hid hnx
        have HRO := Lib.hid hro
        have HXQ := Lib.hid hxq
        clear hgf hnx hro hxq
        by_cases hrl : r < m
        · obtain ⟨c0, _⟩ := HRO.out.at r hrl
          have hri : (r : Int) < (m : Int) := by omega
          obtain ⟨n, hn⟩ : ∃ n, n = f r := ⟨_, rfl⟩
          have hnb := HN.out.bd (by omega) hrl
          rw [← hn] at c0 hnb
          have HNF := Lib.hid hn
          clear hn
          go_wp2
          go_loopw [10] (fun i wz => ∃ D : Nat, D ≤ 10 ∧ i = .int .i64 D ∧ (∃ gf, RowG w1.heap.size wz wo.heap.size gf m ∧ Nx zs m k f gf r D) ∧ RowG w1.heap.size wz g f m ∧ Ext wo wz) (fun i _ => 10 - (intOf i).toNat)
          case atStart => exact ⟨0, by decide, rfl, ⟨gf, HGF.out, HNX.out⟩, HRO.out, HXQ.out⟩
          case round =>
            obtain ⟨D, hD, rfl, ⟨gd, hgd, hnd⟩, hrd, hxd⟩ := hrel
            have HGD := Lib.hid hgd
            have HND := Lib.hid hnd
            have HRD := Lib.hid hrd
            have HXD := Lib.hid hxd
            clear hgd hnd hrd hxd
            by_cases hDl : D < 10
            · have hDi : (D : Int) < 10 := by omega
              obtain ⟨j, hj⟩ : ∃ j, j = nxR zs m k r D := ⟨_, rfl⟩
              have hjm : j < m := by rw [hj]; exact nxR_lt (by omega) k r D
              have hmod := nxR_eq (zs := zs) (m := m) (by omega) k r D
              rw [← hj, HWZ.out] at hmod
              have hmb := mul_bd (a := (D : Int)) (by omega) (by omega) hwz.1 hwz.2
              obtain ⟨q, hq⟩ : ∃ q, q = (D : Int) * Y := ⟨_, rfl⟩
              rw [← hq] at hmb hmod
              obtain ⟨S, hS⟩ : ∃ S, S = (r : Int) + q := ⟨_, rfl⟩
              rw [← hS] at hmod
              have hVY : Y * (D : Int) = q := by rw [hq]; exact Int.mul_comm _ _
              have wq : IntKind.i64.wrap q = q := by simp only [IntKind.wrap_i64]; omega
              have hRq : (r : Int) + q = S := hS.symm
              have wS : IntKind.i64.wrap S = S := by simp only [IntKind.wrap_i64]; omega
              have tmS : Int.tmod S (m : Int) = (j : Int) := by rw [Int.tmod_eq_emod_of_nonneg (by omega)]; exact hmod
              have hmz : ¬ (m : Int) = 0 := by omega
              have hji : (j : Int) < (m : Int) := by omega
              obtain ⟨k1, k2⟩ := HGD.out.at j hjm
              have hab := HND.out.bd HN.out (by omega) hrl hDl hjm
              have HNN := Lib.hid (HND.out.next HN.out hrl)
              rw [← hj, ← HNF.out] at HNN
              have hgne : wo.heap.size ≠ g := by have := HLT.out.2; omega
              have HAF := Lib.hid (show (∃ gf, RowG w1.heap.size (wr.setCell ⟨wo.heap.size, j, none⟩ (.int .i64 (gd j + n))) wo.heap.size gf m ∧ Nx zs m k f gf r (D + 1)) ∧ RowG w1.heap.size (wr.setCell ⟨wo.heap.size, j, none⟩ (.int .i64 (gd j + n))) g f m ∧ Ext wo (wr.setCell ⟨wo.heap.size, j, none⟩ (.int .i64 (gd j + n))) from
                ⟨⟨_, HGD.out.put j n, HNN.out⟩, HRD.out.other hgne _ _, HXD.out.setCell (Nat.le_refl _) _⟩)
              obtain ⟨A, hA⟩ : ∃ A, A = gd j := ⟨_, rfl⟩
              rw [← hA] at k1 hab HAF
              have wA : IntKind.i64.wrap (A + n) = A + n := by simp only [IntKind.wrap_i64]; omega
              obtain ⟨d1, d2⟩ := HS.out _ HXD.out
              clear hj hq hS hmod hA hgne
              go_wp2
              exact ⟨⟨D + 1, by omega, by go_num, HAF.out⟩, by simp [intOf]; omega⟩
            · obtain rfl : D = 10 := by omega
              have HRW := Lib.hid (HND.out.row hrl hlt)
              go_wp2
              exact ⟨⟨r + 1, by omega, by go_num, ⟨gd, HGD.out, HRW.out⟩, HRD.out, HXD.out⟩, by simp [intOf]; omega⟩
        · obtain rfl : r = m := by omega
          have HDN := Lib.hid (HNX.out.done HN.out)
          go_wp2
          exact ⟨⟨k + 1, by omega, by go_num, ⟨_, gf, rfl, HGF.out, HDN.out⟩, HX.out.trans HXQ.out⟩, by simp [intOf]; omega⟩
    · obtain rfl : k = zs.length := by omega
      have HC0 := Lib.hid (show ctA zs m f 0 0 = 0 by unfold ctA; simp [sumF])
      go_wp2
      go_loop [11, 63] (fun o i => ∃ r : Nat, r ≤ m ∧ i = .int .i64 r ∧ o = .int .i64 (ctA zs m f r 0)) (fun _ i => m - (intOf i).toNat)
      case atStart => exact ⟨0, Nat.zero_le _, rfl, by rw [HC0.out]⟩
      case round =>
        obtain ⟨r, hrm, rfl, rfl⟩ := hrel
        by_cases hrl : r < m
        · obtain ⟨c0, _⟩ := HR.out.at r hrl
          have hri : (r : Int) < (m : Int) := by omega
          have HRW := Lib.hid (ctA_row (zs := zs) (f := f) hrl)
          have HNT := Lib.hid (fun V => ctA_next (zs := zs) (f := f) (V := V) hrl)
          have HBD := Lib.hid (fun V (hV : V ≤ 11) => ctA_bd HN.out hl2 hrm hV)
          obtain ⟨n, hn⟩ : ∃ n, n = f r := ⟨_, rfl⟩
          have hnb := HN.out.bd hl2 hrl
          rw [← hn] at c0 hnb HNT
          clear hn
          obtain ⟨C, hC⟩ : ∃ C : Nat → Int, C = fun V => ctA zs m f r V := ⟨_, rfl⟩
          have HCR := Lib.hid (show C 11 = ctA zs m f (r + 1) 0 by rw [hC]; exact HRW.out)
          have HCN := Lib.hid (fun V => (show C (V + 1) = C V + n * eTm zs m zs.length r V by rw [hC]; exact HNT.out V))
          have HCB := Lib.hid (fun V (hV : V ≤ 11) => (show 0 ≤ C V ∧ C V ≤ 50000000000000 by rw [hC]; exact HBD.out V hV))
          rw [show ctA zs m f r 0 = C 0 by rw [hC]]
          clear hC HRW HNT HBD
          go_wp2
          go_loop [11, 14] (fun o i => ∃ V : Nat, V ≤ 11 ∧ i = .int .i64 V ∧ o = .int .i64 (C V)) (fun _ i => 11 - (intOf i).toNat)
          case atStart => exact ⟨0, by decide, rfl, rfl⟩
          case round =>
            obtain ⟨V, hV, rfl, rfl⟩ := hrel
            by_cases hVl : V < 11
            · have hVi : (V : Int) ≤ 10 := by omega
              have hb1 := HCB.out V hV
              have HC1 := Lib.hid (HCN.out V)
              obtain ⟨S, hS⟩ : ∃ S, S = (r : Int) + (V : Int) := ⟨_, rfl⟩
              have HE := Lib.hid (show eTm zs m zs.length r V = if S % (m : Int) = 0 then 1 else 0 by
                have h1 := Int.emod_nonneg S (show (m : Int) ≠ 0 by omega)
                rw [eT_end, nxR_end, ← hS]
                by_cases e : S % (m : Int) = 0
                · rw [if_pos e, e]; rfl
                · rw [if_neg e, if_neg (by omega)])
              have hrV : (r : Int) + (V : Int) = S := hS.symm
              have wS : IntKind.i64.wrap S = S := by simp only [IntKind.wrap_i64]; omega
              have tmS : Int.tmod S (m : Int) = S % (m : Int) := Int.tmod_eq_emod_of_nonneg (by omega)
              have hmz : ¬ (m : Int) = 0 := by omega
              obtain ⟨A, hA⟩ : ∃ A, A = C V := ⟨_, rfl⟩
              rw [← hA] at hb1 HC1 ⊢
              have wA : IntKind.i64.wrap (A + n) = A + n := by simp only [IntKind.wrap_i64]; omega
              clear hS hA
              by_cases hz : S % (m : Int) = 0
              · have tz : (S % (m : Int) == 0) = true := beq_iff_eq.2 hz
                have HV2 := Lib.hid (show C (V + 1) = A + n by rw [HC1.out, HE.out, if_pos hz, Int.mul_one])
                clear hz
                go_wp2
                exact ⟨⟨V + 1, by omega, by go_num, by rw [HV2.out]⟩, by simp [intOf]; omega⟩
              · have tz : (S % (m : Int) == 0) = false := beq_eq_false_iff_ne.2 hz
                have HV2 := Lib.hid (show C (V + 1) = A by rw [HC1.out, HE.out, if_neg hz, Int.mul_zero, Int.add_zero])
                clear hz
                go_wp2
                exact ⟨⟨V + 1, by omega, by go_num, by rw [HV2.out]⟩, by simp [intOf]; omega⟩
            · obtain rfl : V = 11 := by omega
              have hVi : ¬ ((11 : Nat) : Int) ≤ 10 := by omega
              go_wp2
              exact ⟨⟨r + 1, by omega, by go_num, by rw [HCR.out]⟩, by simp [intOf]; omega⟩
        · obtain rfl : r = m := by omega
          have HF := Lib.hid (show ctA zs r f r 0 = crV (r : Int) zs by rw [HV.out]; exact ctA_all HN.out)
          go_wp2
          go_ret2
          exact ⟨by rw [← HF.out]; rfl, X0.out.trans (X1.out.trans HX.out)⟩
end Go.Proofs.Ytdhcknknmloopaa
