/- How many walks there are from each digit, by number of steps: the model's table. No conditions. -/
import Derived.Test.YtmpajijnpoekgacWy
import Derived.Deep.RegionWith
namespace Go.Proofs.Ytmpajijnpoekgac
open Go.RowKit

/-- Where a walk may end: anywhere, or at one digit. -/
def eF (x d : Nat) : Nat := if x = 0 ∨ d + 48 = x then 1 else 0
theorem eF_le (x d : Nat) : eF x d ≤ most1 := by unfold eF most1; split <;> omega
theorem minS (a b m : Nat) : min (min a m + b) m = min (a + b) m := by omega
def ResT (p x st : Nat) (w : World) (e : Ending) (w' : World) : Prop := ∃ (v : Value) (U : Nat → Nat), e = .returned v ∧ Grid 10 w.heap.size w' v (st + 1) U (fun r c => (wyF p (eF x) r c : Int)) ∧ Ext w w'
theorem leastW_any (a b : Int) (w : World) : Calls Try.prog 79 #[.int .i64 a, .int .i64 b] w fun e w' => e = .returned (.int .i64 (min a b)) ∧ w = w' := by
  by_cases h : a < b
  · have HM := Lib.hid (show min a b = a by omega)
    go_enter Try.func79, Try.ntmps79
    go_wp2
    go_ret
    exact ⟨ret_iD HM.out.symm, rfl⟩
  · have HM := Lib.hid (show min a b = b by omega)
    go_enter Try.func79, Try.ntmps79
    go_wp2
    go_ret
    exact ⟨ret_iD HM.out.symm, rfl⟩

theorem digB : ∀ d : Nat, d < 10 → (((48 + d).toUInt8).toNat : Int) = 48 + (d : Int) := of_decide_eq_true (by kernel_rfl)
theorem ixDT (ds : List Nat) (j : Nat) (hj : j < ds.length) (hd : ds[j] < 10) (w : World) : (Instr.index 9 (.string (dT ds)) (.int .i64 (j : Int))).run Try.prog w = .ok (.int .u8 (48 + (ds[j] : Int))) w := by
  have hz : j < (dT ds).size := by rw [dT_size]; exact hj
  have h1 := ixS (dT ds) j hz w
  rw [h1]
  have e : (dT ds)[j]'hz = (48 + ds[j]).toUInt8 := by
    show (dA ds).toArray[j]'_ = _
    simp [dA]
  rw [e, digB _ hd]

set_option maxRecDepth 100000 in
set_option maxHeartbeats 4000000 in
theorem wkTable_any (p x st : Nat) (w : World) (hp : p < 4) (hx0 : x = 0 ∨ (48 ≤ x ∧ x ≤ 57)) (hst : st ≤ 40) : Calls Try.prog 64 #[.string (pcT p), .int .i64 st, .int .u8 x] w (ResT p x st w) := by
  obtain ⟨i0, hi, hz0, hzs, hzb⟩ := infoB info_inA
  have HI := Lib.hid (show Try.prog.info? 3 = some i0 ∧ i0.zero = some (.int .i64 0) ∧ i0.size = 1 ∧ i0.bytes = 8 from ⟨hi, hz0, hzs, hzb⟩)
  clear hi hz0 hzs hzb
  go_enter Try.func64, Try.ntmps64
  go_wp2_with (at_make; refine wpList_make_full _ rfl _ _ 25 rfl w.heap.size 3 i0 (.int .i64 0) 1 Try.underlying25 HI.out.1 HI.out.2.1 HI.out.2.2.1 .i64 .i64 _ _ 10 rfl rfl rfl rfl (by rw [HI.out.2.2.2]; omega) (by unfold maxLen; omega) (Nat.le_refl _) ?_; intro w1 hown hgr)
  have X1 : Ext w w1 := ext_grown (Ext.refl w) hgr (by intro k hk; cases hk)
  have R1 := Lib.hid (RowN.made hown rfl)
  clear hown hgr
  go_loopw [17] (fun q wr => ∃ k : Nat, k ≤ 10 ∧ q = .int .i64 k ∧ RowN 10 w.heap.size wr w.heap.size (fun c => if c < k then (eF x c : Int) else 0) ∧ Ext w wr) (fun q _ => 10 - (intOf q).toNat)
  case atStart => exact ⟨0, Nat.zero_le _, rfl, R1.out.congr (fun r _ => by rw [if_neg (by omega)]), X1⟩
  case round =>
    obtain ⟨k, hk, rfl, hr, hx⟩ := hrel
    have HR := Lib.hid hr
    clear hr
    by_cases hlt : k < 10
    · have hki : (k : Int) < 10 := by omega
      have cR := HR.out.at k hlt
      have fR := HR.out.fr k
      have HSET := Lib.hid (fun (y : Int) (hy : y = (eF x k : Int)) => show RowN 10 w.heap.size (wr.setCell ⟨w.heap.size, k, none⟩ (.int .i64 y)) w.heap.size (fun c => if c < k + 1 then (eF x c : Int) else 0) from (HR.out.set k y).congr (fun r _ => by
        by_cases e1 : r = k
        · rw [if_pos e1, if_pos (by omega), hy, e1]
        · rw [if_neg e1]
          by_cases e2 : r < k
          · rw [if_pos e2, if_pos (by omega)]
          · rw [if_neg e2, if_neg (by omega)]))
      have HNO := Lib.hid (fun (hy : eF x k = 0) => show RowN 10 w.heap.size wr w.heap.size (fun c => if c < k + 1 then (eF x c : Int) else 0) from HR.out.congr (fun r _ => by
        by_cases e2 : r < k
        · rw [if_pos e2, if_pos (by omega)]
        · rw [if_neg e2]
          by_cases e1 : r = k
          · rw [if_pos (by omega), e1, hy]; rfl
          · rw [if_neg (by omega)]))
      by_cases hxz : x = 0
      · have t0 : ((x : Int) == 0) = true := by simp [hxz]
        have t2 : (x : Int) = 0 := by omega
        have HS := Lib.hid (HSET.out 1 (by unfold eF; rw [if_pos (.inl hxz)]; rfl))
        clear hxz
        go_wp2
        go_roundw
        case rel => exact ⟨k + 1, by omega, by go_num, HS.out, hx.setCell (Nat.le_refl _) _⟩
        case measure => simp [intOf] <;> omega
      · have hx48 : 48 ≤ x ∧ x ≤ 57 := hx0.resolve_left hxz
        have t0 : ((x : Int) == 0) = false := by simp; omega
        have t2 : ¬ (x : Int) = 0 := by omega
        obtain ⟨q, hq⟩ : ∃ q, q = x - 48 := ⟨_, rfl⟩
        have Wq : IntKind.u8.wrap ((x : Int) - 48) = (q : Int) := by rw [IntWalk.u8_in _ (by omega)]; omega
        have hwq : wrap64 (q : Int) = (q : Int) := by unfold wrap64; omega
        by_cases hkq : k = q
        · have t1 : ((k : Int) == (q : Int)) = true := by simp [hkq]
          have t3 : (k : Int) = (q : Int) := by omega
          have HS := Lib.hid (HSET.out 1 (by unfold eF; rw [if_pos (.inr (by omega))]; rfl))
          subst hkq
          clear hq
          go_wp2
          go_roundw
          case rel => exact ⟨k + 1, by omega, by go_num, HS.out, hx.setCell (Nat.le_refl _) _⟩
          case measure => simp [intOf] <;> omega
        · have t1 : ((k : Int) == (q : Int)) = false := beq_eq_false_iff_ne.2 (by omega)
          have t3 : ¬ (k : Int) = (q : Int) := by omega
          have HS := Lib.hid (HNO.out (by unfold eF; rw [if_neg (by omega)]))
          clear hq hkq
          go_wp2
          go_roundw
          case rel => exact ⟨k + 1, by omega, by go_num, HS.out, hx⟩
          case measure => simp [intOf] <;> omega
    · obtain rfl : k = 10 := by omega
      rw [show ((10 : Nat) : Int) = 10 from rfl]
      have HR2 := Lib.hid (HR.out.congr (t' := fun c => (wyF p (eF x) 0 c : Int)) (fun r hr => if_pos hr))
      have hwr := hx.size
      have hlw := HR2.out.lt.2
      have HG := Lib.hid (show Grid 10 w.heap.size (wr.alloc (.cells #[.slice (some ⟨w.heap.size, 0, none⟩) 10 10] 25)) (.slice (some ⟨wr.heap.size, 0, none⟩) 1 1) 1 (fun _ => w.heap.size) (fun r c => (wyF p (eF x) r c : Int)) from
        ⟨World.ownsRow_lit wr _ 1 hwr (by unfold maxLen; omega) rfl, fun k hk => by
          obtain rfl : k = 0 := by omega
          exact row_ext HR2.out ((Ext.refl wr).alloc _), fun i j _ _ _ => by omega⟩)
      have XA : Ext w (wr.alloc (.cells #[.slice (some ⟨w.heap.size, 0, none⟩) 10 10] 25)) := hx.alloc _
      clear hx0
      go_wp2
      go_loopw [1, 7, 9] (fun s r o wy => ∃ (t : Nat) (U : Nat → Nat), t ≤ st ∧ s = .int .i64 ((st - t : Nat) : Int) ∧ r = .slice (some ⟨U t, 0, none⟩) 10 10 ∧ Grid 10 w.heap.size wy o (t + 1) U (fun r c => (wyF p (eF x) r c : Int)) ∧ Ext w wy) (fun s _ _ _ => (intOf s).toNat)
      case atStart => exact ⟨0, _, Nat.zero_le _, rfl, rfl, HG.out, XA⟩
      case round =>
        obtain ⟨t, U, ht, rfl, rfl, hg, hx1⟩ := hrel
        have HGR := Lib.hid hg
        clear hg
        obtain ⟨m, hm⟩ : ∃ m, m = st - t := ⟨_, rfl⟩
        have HMM := Lib.hid hm
        rw [← hm]
        by_cases hlt : 0 < m
        · have hmi : (0 : Int) < (m : Int) := by omega
          obtain ⟨wo, rfl⟩ : ∃ wo, wo = wr := ⟨_, rfl⟩
          have hm40 : m ≤ 40 := by omega
          have hwm : wrap64 ((m : Int) - 1) = ((m - 1 : Nat) : Int) := by unfold wrap64; omega
          clear hm
          have hsz0 := hx1.size
          go_wp2_with (at_make; refine wpList_make_full _ rfl _ _ 25 rfl wo.heap.size 3 i0 (.int .i64 0) 1 Try.underlying25 HI.out.1 HI.out.2.1 HI.out.2.2.1 .i64 .i64 _ _ 10 rfl rfl rfl rfl (by rw [HI.out.2.2.2]; omega) (by unfold maxLen; omega) (Nat.le_refl _) ?_; intro w2 hown2 hgr2; have X2 : Ext wo w2 := ext_grown (Ext.refl wo) hgr2 (by intro k hk; cases hk); have R2 := Lib.hid (RowN.made hown2 rfl); clear hown2 hgr2)
          obtain ⟨R, hR⟩ : ∃ R, R = wo.heap.size := ⟨_, rfl⟩
          have HRR := Lib.hid hR
          rw [← hR] at R2 ⊢
          clear hR
          go_loopw [42] (fun q wy => ∃ i : Nat, i ≤ 10 ∧ q = .int .i64 i ∧ RowN 10 R wy R (fun a => if a < i then (wyF p (eF x) (t + 1) a : Int) else 0) ∧ Ext wo wy) (fun q _ => 10 - (intOf q).toNat)
          case atStart => exact ⟨0, Nat.zero_le _, rfl, R2.out.congr (fun r _ => by rw [if_neg (by omega)]), X2⟩
          case round =>
            obtain ⟨i, hi, rfl, hT, hx2⟩ := hrel
            have HT := Lib.hid hT
            clear hT
            by_cases hlt2 : i < 10
            · have hii : (i : Int) < 10 := by omega
              have HWN := Lib.hid (fun w => wkNext_any p i (48 + (i : Int)) w hp hlt2 (by omega))
              have Wi : IntKind.u8.wrap (48 + (i : Int)) = 48 + (i : Int) := IntWalk.u8_in _ (by omega)
              have HXN := Lib.hid (fun q (hq : q ∈ nx p i) => nx_lt hq)
              have HSM := Lib.hid (show wyF p (eF x) (t + 1) i = min (sumL (wyF p (eF x) t) (nx p i)) most1 from rfl)
              have hnl := nx_len p i
              obtain ⟨ds, hds⟩ : ∃ ds, ds = nx p i := ⟨_, rfl⟩
              rw [← hds] at HWN HXN HSM hnl
              clear hds
              have hdz := dT_size ds
              go_wp2_with (go_at_call 47; refine (HWN.out _).mono ?_; rintro e w' ⟨rfl, rfl⟩)
              go_loopw [13] (fun q wz => ∃ j : Nat, j ≤ ds.length ∧ q = .int .i64 j ∧ RowN 10 R wz R (fun a => if a = i then (min (sumL (wyF p (eF x) t) (ds.take j)) most1 : Nat) else if a < i then (wyF p (eF x) (t + 1) a : Int) else 0) ∧ Ext wo wz) (fun q _ => ds.length - (intOf q).toNat)
              case atStart => exact ⟨0, Nat.zero_le _, rfl, HT.out.congr (fun r _ => by
                by_cases e1 : r = i
                · rw [if_pos e1, if_neg (by omega)]; rfl
                · rw [if_neg e1]), hx2⟩
              case round =>
                obtain ⟨j, hj, rfl, hT2, hx3⟩ := hrel
                have HT2 := Lib.hid hT2
                clear hT2
                by_cases hlt3 : j < ds.length
                · have hji : (j : Int) < (ds.length : Int) := by omega
                  have hq10 := HXN.out ds[j] (List.getElem_mem hlt3)
                  have hix := fun w => ixDT ds j hlt3 hq10 w
                  have HSU := Lib.hid (sumL_take (wyF p (eF x) t) ds j hlt3)
                  have hwl := wyF_le p (eF x) (eF_le x) t ds[j]
                  have cV := ((HGR.out.inner t (by omega)).ext hx3).at ds[j] hq10
                  have cR := HT2.out.at i hlt2
                  rw [if_pos rfl] at cR
                  have fR := HT2.out.fr i
                  have HSET := Lib.hid (fun (y : Int) (hy : y = (min (sumL (wyF p (eF x) t) (ds.take (j + 1))) most1 : Nat)) (wq : World) (hq : Ext wr wq) => show RowN 10 R (wq.setCell ⟨R, i, none⟩ (.int .i64 y)) R (fun a => if a = i then (min (sumL (wyF p (eF x) t) (ds.take (j + 1))) most1 : Nat) else if a < i then (wyF p (eF x) (t + 1) a : Int) else 0) ∧ Ext wo (wq.setCell ⟨R, i, none⟩ (.int .i64 y)) from ⟨((HT2.out.ext hq).set i y).congr (fun r _ => by
                    by_cases e1 : r = i
                    · rw [if_pos e1, if_pos e1, hy]
                    · rw [if_neg e1, if_neg e1, if_neg e1]), (hx3.trans hq).setCell (p := ⟨R, i, none⟩) (Nat.le_of_eq HRR.out.symm) _⟩)
                  obtain ⟨d, hd⟩ : ∃ d, d = ds[j] := ⟨_, rfl⟩
                  rw [← hd] at hix hq10 HSU hwl cV
                  obtain ⟨S, hS⟩ : ∃ S, S = min (sumL (wyF p (eF x) t) (ds.take j)) most1 := ⟨_, rfl⟩
                  rw [← hS] at cR
                  obtain ⟨V, hV⟩ : ∃ V, V = wyF p (eF x) t d := ⟨_, rfl⟩
                  rw [← hV] at HSU hwl cV
                  have hS1 : S ≤ 1000000000000001 := by rw [hS]; exact Nat.min_le_right _ _
                  have hV1 : V ≤ 1000000000000001 := hwl
                  have hdi : (d : Int) < 10 := by omega
                  have HX9 := Lib.hid (HSET.out (min ((S : Int) + (V : Int)) 1000000000000001) (by
                    have h0 : most1 = 1000000000000001 := rfl
                    rw [HSU.out, ← minS, ← hS, h0]
                    omega))
                  have hadd : IntKind.i64.wrap ((S : Int) + (V : Int)) = (S : Int) + (V : Int) := by simp only [IntKind.wrap_i64]; omega
                  have Wd : IntKind.u8.wrap (48 + (d : Int) - 48) = (d : Int) := by rw [IntWalk.u8_in _ (by omega)]; omega
                  have cs : 48 + (d : Int) - 48 = (d : Int) := by omega
                  have Wd2 : IntKind.u8.wrap (d : Int) = (d : Int) := IntWalk.u8_in _ (by omega)
                  have hd0 : (0 : Int) ≤ (d : Int) := by omega
                  obtain ⟨g, hg⟩ : ∃ g, g = U t := ⟨_, rfl⟩
                  rw [← hg] at cV ⊢
                  clear hd hS hV hwl HSU HSET hg
                  go_wp2
                  go_region_with (first | (go_at_call 79; refine (leastW_any _ _ _).mono ?_; rintro e w' ⟨rfl, rfl⟩))
                  all_goals go_wp2
                  all_goals first
                    | exact ⟨⟨j + 1, by omega, by go_num, (HX9.out _ (Ext.refl _)).1.ext (Ext.refl _).drew, (HX9.out _ (Ext.refl _)).2.drew⟩, by simp [intOf] <;> omega⟩
                    | exact ⟨⟨j + 1, by omega, by go_num, (HX9.out _ (Ext.refl _).drew).1, (HX9.out _ (Ext.refl _).drew).2⟩, by simp [intOf] <;> omega⟩
                · obtain rfl : j = ds.length := by omega
                  have HSA := Lib.hid (show ds.take ds.length = ds from List.take_of_length_le (Nat.le_refl _))
                  have HT3 := Lib.hid (HT2.out.congr (t' := fun a => if a < i + 1 then (wyF p (eF x) (t + 1) a : Int) else 0) (fun r _ => by
                    by_cases e1 : r = i
                    · rw [if_pos e1, if_pos (by omega), e1, HSM.out, HSA.out]
                    · rw [if_neg e1]
                      by_cases e2 : r < i
                      · rw [if_pos e2, if_pos (by omega)]
                      · rw [if_neg e2, if_neg (by omega)]))
                  go_wp2
                  go_roundw
                  case rel => exact ⟨i + 1, by omega, by go_num, HT3.out, hx3⟩
                  case measure => simp [intOf] <;> omega
            · obtain rfl : i = 10 := by omega
              have HT3 := Lib.hid (HT.out.congr (t' := fun a => (wyF p (eF x) (t + 1) a : Int)) (fun r hr => if_pos hr))
              have HT4 := Lib.hid (show RowN 10 w.heap.size wr R (fun a => (wyF p (eF x) (t + 1) a : Int)) from ⟨HT3.out.1, HT3.out.2.imp id fun ⟨g, c, cur, a1, a2, a3⟩ => ⟨g, c, cur, a1, by have := HRR.out; omega, a3⟩⟩)
              have HGX := Lib.hid (HGR.out.ext hx2)
              have HFR := Lib.hid (fun q (hq : q < t + 1) => show U q ≠ R from fun e => by have := (HGR.out.inner q hq).lt.2; have := HRR.out; omega)
              have hxa := hx1.trans hx2
              have hsz1 := hxa.size
              go_wp2_with (at_builtin; refine app_row rfl _ _ rfl w 10 w.heap.size wr _ (t + 1) U (fun r c => (wyF p (eF x) r c : Int)) R (fun a => (wyF p (eF x) (t + 1) a : Int)) rfl (by exact HGX.out) (by exact HT4.out) (by exact HFR.out) (by exact hxa) (Nat.le_refl _) hsz1 (by omega) rfl ?_; intro v5 w5 g5 x5; have G5 := Lib.hid (show Grid 10 w.heap.size w5 v5 (t + 1 + 1) (fun k => if k = t + 1 then R else U k) (fun r c => (wyF p (eF x) r c : Int)) from g5.congr (fun r c _ _ => by by_cases e1 : r = t + 1 <;> simp [e1])); clear g5)
              go_roundw
              case rel => exact ⟨t + 1, _, by have := HMM.out; omega, by have := HMM.out; refine congrArg (Value.int .i64) ?_; omega, by simp, G5.out, x5⟩
              case measure => simp [intOf]; omega
        · obtain rfl : t = st := by omega
          have hm0 : ¬ (0 : Int) < (m : Int) := by omega
          go_wp2
          go_ret
          exact ⟨_, U, rfl, HGR.out, hx1⟩
end Go.Proofs.Ytmpajijnpoekgac
