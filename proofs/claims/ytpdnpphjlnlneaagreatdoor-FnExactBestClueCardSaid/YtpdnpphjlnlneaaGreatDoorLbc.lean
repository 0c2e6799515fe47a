/- How many numbers fit the first clues: both sides. No conditions. -/
import Derived.Test.YtpdnpphjlnlneaaGreatDoorCut
import Derived.Test.YtpdnpphjlnlneaaGreatDoorIApp
import Derived.Test.YtpdnpphjlnlneaaGreatDoorMkC
import Derived.Deep.RegionWith
import Derived.Deep.AppendLies
import Derived.Deep.RegionLaw
namespace Go.Proofs.YtpdnpphjlnlneaaGreatDoor
open Go.RowKit

theorem RowI.down {B B' : Nat} {w : World} {v : Value} {ts : List Int} (h : RowI B w v ts) (hb : B' ≤ B) : RowI B' w v ts :=
  ⟨h.1, h.2.imp id fun ⟨g, cap, cur, h1, h2, h3, h4⟩ => ⟨g, cap, cur, h1, Nat.le_trans hb h2, h3, h4⟩⟩

/-- A list of clues with its room known. -/
def Clc (w : World) (v : Value) (gs : List Cl) : Prop := Cls w v gs ∧ ∃ a cap, v = .slice a gs.length cap ∧ gs.length ≤ cap
theorem Clc.ext {w w' : World} {v : Value} {gs : List Cl} (h : Clc w v gs) (hx : Ext w w') : Clc w' v gs := ⟨h.1.ext hx, h.2⟩
theorem clc_of {B : Nat} {w : World} {v : Value} {gs : List Cl} (h : Cls w v gs) (o : OwnR B w v gs) : Clc w v gs := by
  refine ⟨h, ?_⟩
  rcases o.2 with ⟨rfl, h0⟩ | ⟨g, cap, cur, rfl, _, _, h1, _⟩
  · exact ⟨none, 0, by rw [h0], by omega⟩
  · exact ⟨_, cap, rfl, h1⟩
def ResI (ts : List Int) (ok : Bool) (w : World) (e : Ending) (w' : World) : Prop := ∃ v, e = .returned (.tuple #[v, .bool ok]) ∧ RowI w.heap.size w' v ts ∧ Ext w w'

theorem isPz_part {d : Int} {gs : List Cl} (h : isPz d gs = true) (f t : Nat) : isPz d ((gs.take t).drop f) = true := by
  have b := isPz_bd h
  have b1 := b.d1
  have b2 := b.d2
  have hl : ((gs.take t).drop f).length ≤ 6 := by
    rw [List.length_drop, List.length_take]
    have := b.l
    omega
  rw [isPz_a (inW_yes b1 b2) hl, List.all_eq_true]
  exact fun g hg => b.all g (List.mem_of_mem_take (List.mem_of_mem_drop hg))
theorem isPz_take {d : Int} {gs : List Cl} (h : isPz d gs = true) (t : Nat) : isPz d (gs.take t) = true := isPz_part h 0 t
theorem Cls.pre {w : World} {a : Option Addr} {cap : Nat} {gs : List Cl} (h : Cls w (.slice a gs.length cap) gs) {k : Nat} (hk : k ≤ gs.length) (c : Nat) : Cls w (.slice a k c) (gs.take k) := by
  by_cases h0 : k = 0
  · subst h0
    exact cls_nil _ _ _
  · obtain ⟨b, off, rfl, hs⟩ := h.sub (f := 0) (t := k) (by omega) hk
    have := hs c
    simpa using this
/-- How many numbers fit the first clues. -/
def lefV (d : Int) (gs : List Cl) : List Int := if isPz d gs then (List.range (gs.length + 1)).map fun k => cntV d (gs.take k) else []
theorem lefV_no {d : Int} {gs : List Cl} (h : isPz d gs = false) : lefV d gs = [] := by unfold lefV; rw [h]; rfl
theorem lefV_yes {d : Int} {gs : List Cl} (h : isPz d gs = true) : lefV d gs = (List.range (gs.length + 1)).map fun k => cntV d (gs.take k) := by unfold lefV; rw [h]; rfl
def lefK (d : Int) (gs : List Cl) (k : Nat) : List Int := (List.range k).map fun k => cntV d (gs.take k)
theorem lefK_succ (d : Int) (gs : List Cl) (k : Nat) : lefK d gs (k + 1) = lefK d gs k ++ [cntV d (gs.take k)] := by unfold lefK; rw [List.range_succ, List.map_append]; rfl
theorem lefK_len (d : Int) (gs : List Cl) (k : Nat) : (lefK d gs k).length = k := by unfold lefK; rw [List.length_map, List.length_range]

theorem step_int {ops : Array Oper} {o : Oper} {a : Act} {K : Act → World → Prop} {Q : Exit → Act → World → Prop} {E : Prop} (hgd : o.guard = none) (s x : Operand)
    (ho : o.op = .call { callee := .builtin .append, args := #[s, x], argTypes := #[42, 42] })
    (u : World) (B : Nat) (wr : World) (v : Value) (l : List Int) (c : Int) (hs : a.eval s = v) (hrow : RowI B wr v l) (hx : Ext u wr) (hB : u.heap.size ≤ B) (hBw : B ≤ wr.heap.size) (hl : l.length ≤ 1000000)
    (hxe : a.eval x = .slice (some ⟨wr.heap.size, 0, none⟩) 1 1)
    (h : ∀ v' w', RowI B w' v' (l ++ [c]) → Ext u w' → K (a.put o.dst v') w') : if Region.wanted o (yielded ops a.tmps) = true then Oper.wp Tryz.prog o a (wr.alloc (.cells #[.int .i64 c] 3)) K Q else E := by
  obtain ⟨i0, hi, hz0, hzs, hzb⟩ := infoB info_inA
  refine step_append_lies _ hgd s x 42 ho B 3 i0 (.int .i64 0) 1 8 Tryz.underlying42 hi hz0 hzs hzb rfl (by decide) v l.length (l.map (Value.int .i64)) hs (World.ownsRow.alloc hrow _) ⟨wr.heap.size, 0, none⟩ 1 1 [.int .i64 c] hxe rfl (cell_one_new _ _ _) (oneIn _) (by decide) (by unfold maxLen; omega) (by omega) (by simp; omega) _ rfl ?_
  intro g cap w' hown hg _ _
  refine h _ w' ?_ (ext_grown (hx.alloc _) hg (fun j hj => Nat.le_trans hB (hrow.own_le j hj)))
  unfold RowI
  rw [List.length_append, List.map_append]
  exact hown

set_option maxRecDepth 100000 in
set_option maxHeartbeats 4000000 in
theorem lbS_any (d : Int) (v : Value) (gs : List Cl) (w : World) (h : Clc w v gs) : Calls Tryz.prog 24 #[.agg #[.int .i64 d, v]] w (ResI (lefV d gs) (isPz d gs) w) := by
  have X0 := Lib.hid (show Ext w (w.alloc (.cells #[.int .i64 d, v] 37)) from (Ext.refl w).alloc _)
  have H := Lib.hid h.1
  have HG := Lib.hid (fun w h => pzGood_any d v gs w h)
  cases hp : isPz d gs
  · have HV := Lib.hid (lefV_no hp)
    rw [hp] at HG
    clear hp h
    go_enter Tryz.func24, Tryz.ntmps24
    go_wp2_with (go_at_call 55; refine (HG.out _ (H.out.ext X0.out)).mono ?_; rintro e w1 ⟨rfl, x1⟩)
    go_ret2
    exact ⟨_, rfl, by rw [HV.out]; exact RowI.empty _ _, X0.out.trans x1⟩
  have HV := Lib.hid (lefV_yes hp)
  have HP := Lib.hid hp
  have h6 := (isPz_bd hp).l
  rw [hp] at HG
  obtain ⟨a, cap, rfl, hcap⟩ := h.2
  clear hp h
  have HL := Lib.hid (show gs.length = gs.length from rfl)
  obtain ⟨L, hL⟩ : ∃ L, L = gs.length := ⟨_, rfl⟩
  have HLL := Lib.hid hL
  rw [← hL] at X0 hcap h6 HV HG ⊢
  clear hL HL
  go_enter Tryz.func24, Tryz.ntmps24
  go_wp2_with fail
  refine (HG.out _ (by rw [HLL.out]; exact (H.out.ext (by rw [← HLL.out]; exact X0.out)))).mono ?_
  rintro e w1 ⟨rfl, x1⟩
  have X1 := Lib.hid x1
  obtain ⟨a1, a2⟩ := pz_cells x1
  clear x1
  go_wp2
  go_loopw [4, 5] (fun o i wr => ∃ k : Nat, k ≤ L + 1 ∧ i = .int .i64 k ∧ RowI (w.heap.size + 1) wr o (lefK d gs k) ∧ Ext (w.alloc (.cells #[.int .i64 d, .slice a L cap] 37)) wr) (fun _ i _ => L + 1 - (intOf i).toNat)
  case atStart => exact ⟨0, Nat.zero_le _, rfl, RowI.empty _ _, X1.out⟩
  case round =>
    obtain ⟨k, hk, rfl, hr, hx⟩ := hrel
    have HR := Lib.hid hr
    have HX := Lib.hid hx
    obtain ⟨b1, b2⟩ := pz_cells hx
    clear hr hx a1 a2
    by_cases hlt : k ≤ L
    · have hkc : k ≤ cap := by omega
      have HS := Lib.hid (lefK_succ d gs k)
      have HKL := Lib.hid (lefK_len d gs k)
      have HQ := Lib.hid (fun (w' : World) (x' : Ext w w') => pzQ_any d (.slice a k cap) (gs.take k) w' (Cls.pre (H.out.ext x') (by rw [← HLL.out]; exact hlt) cap) (isPz_take HP.out k))
      have HC := Lib.hid (show (((solV d (gs.take k)).length : Nat) : Int) = cntV d (gs.take k) from rfl)
      obtain ⟨ss, hss⟩ : ∃ ss, ss = solV d (gs.take k) := ⟨_, rfl⟩
      rw [← hss] at HQ HC
      rw [← HC.out] at HS
      obtain ⟨lk, hlk⟩ : ∃ l, l = lefK d gs k := ⟨_, rfl⟩
      rw [← hlk] at HR HS HKL
      have hb : k < L + 1 := by omega
      clear hss hlk HC
      go_wp2
      go_region_law (first | (go_simp; go_at_call 56; refine (HQ.out _ (X0.out.trans (ext_drewN HX.out _))).mono ?_; rintro e w2 ⟨u, rfl, hr2, x2⟩; obtain ⟨ua, uc, rfl⟩ := hr2.shape; have X2 := Lib.hid ((ext_drewN HX.out _).trans x2); have R2 := Lib.hid ((HR.out.ext (ext_drewN (Ext.refl _) _)).ext x2); clear hr2 x2) | (refine step_int rfl _ _ rfl (w.alloc (.cells #[.int .i64 d, .slice a L cap] 37)) (w.heap.size + 1) _ _ _ _ rfl (by exact R2.out) X2.out (by simp) (by have := X2.out.size; simpa using this) (by rw [HKL.out]; omega) rfl ?_; intro v9 w9 r9 x9; have R9 := Lib.hid r9; have X9 := Lib.hid x9; clear r9 x9))
      all_goals go_wp2
      all_goals go_roundw
      all_goals first | exact ⟨k + 1, by omega, by go_num, by rw [HS.out]; exact R9.out, X9.out⟩ | (simp [intOf]; omega)
    · have hk1 : k = L + 1 := by omega
      have HE := Lib.hid (show lefK d gs k = (List.range (L + 1)).map fun k => cntV d (gs.take k) by rw [hk1]; rfl)
      clear hk1
      go_wp2
      go_ret2
      exact ⟨_, rfl, by rw [HV.out, ← HE.out]; exact HR.out.down (by omega), X0.out.trans HX.out⟩

set_option maxRecDepth 100000 in
set_option maxHeartbeats 4000000 in
theorem lbP_any (d : Int) (v : Value) (gs : List Cl) (w : World) (h : Clc w v gs) : Calls Tryz.prog 25 #[.agg #[.int .i64 d, v]] w (ResI (lefV d gs) (isPz d gs) w) := by
  have X0 := Lib.hid (show Ext w (w.alloc (.cells #[.int .i64 d, v] 37)) from (Ext.refl w).alloc _)
  have H := Lib.hid h.1
  have HG := Lib.hid (fun w h => isPzP_any d v gs w h)
  cases hp : isPz d gs
  · have HV := Lib.hid (lefV_no hp)
    rw [hp] at HG
    clear hp h
    go_enter Tryz.func25, Tryz.ntmps25
    go_wp2_with (go_at_call 58; refine (HG.out _ (H.out.ext X0.out)).mono ?_; rintro e w1 ⟨rfl, x1⟩)
    go_ret2
    exact ⟨_, rfl, by rw [HV.out]; exact RowI.empty _ _, X0.out.trans x1⟩
  have HV := Lib.hid (lefV_yes hp)
  have HP := Lib.hid hp
  have h6 := (isPz_bd hp).l
  rw [hp] at HG
  obtain ⟨a, cap, rfl, hcap⟩ := h.2
  clear hp h
  obtain ⟨i0, hi, hz0, hzs, hzb⟩ := info_parts info_intP
  have HI := Lib.hid (show Tryz.prog.info? 3 = some i0 ∧ i0.zero = some (.int .i64 0) ∧ i0.size = 1 ∧ i0.bytes = 8 from ⟨hi, hz0, hzs, hzb⟩)
  clear hi hz0 hzs hzb
  obtain ⟨L, hL⟩ : ∃ L, L = gs.length := ⟨_, rfl⟩
  have HLL := Lib.hid hL
  rw [← hL] at X0 hcap h6 HV HG ⊢
  clear hL
  go_enter Tryz.func25, Tryz.ntmps25
  go_wp2_with fail
  refine (HG.out _ (by rw [HLL.out]; exact (H.out.ext (by rw [← HLL.out]; exact X0.out)))).mono ?_
  rintro e w1 ⟨rfl, x1⟩
  have X1 := Lib.hid x1
  obtain ⟨a1, a2⟩ := pz_cells x1
  clear x1
  have W1 : IntKind.i64.wrap ((L : Int) + 1) = ((L + 1 : Nat) : Int) := by simp only [IntKind.wrap_i64]; omega
  have hB1 : w.heap.size + 1 ≤ w1.heap.size := by have := X1.out.size; simpa using this
  go_wp2_with (at_make; refine wpList_make_full _ rfl _ _ 42 rfl (w.heap.size + 1) 3 i0 (.int .i64 0) 1 Tryz.underlying42 HI.out.1 HI.out.2.1 HI.out.2.2.1 .i64 .i64 _ _ (L + 1) rfl rfl rfl rfl (by rw [HI.out.2.2.2]; omega) (by unfold maxLen; omega) hB1 ?_; intro w2 hown hgr)
  have X2 : Ext (w.alloc (.cells #[.int .i64 d, .slice a L cap] 37)) w2 := ext_grown X1.out hgr (by intro k hk; cases hk)
  obtain ⟨xs1, hxs1⟩ : ∃ xs, xs = (madeCells (Value.int .i64 0).cells ((L + 1) * 1)).toList := ⟨_, rfl⟩
  rw [← hxs1] at hown
  clear hxs1 hgr a1 a2
  go_loopw [16] (fun i wr => ∃ k : Nat, k ≤ L + 1 ∧ i = .int .i64 k ∧ ∃ xs : List Value, wr.ownsRow (w.heap.size + 1) 3 1 (.slice (some ⟨w1.heap.size, 0, none⟩) (L + 1) (L + 1)) (L + 1) xs ∧ (∀ j, j < k → xs[j]? = some (.int .i64 (cntV d (gs.take j)))) ∧ Ext (w.alloc (.cells #[.int .i64 d, .slice a L cap] 37)) wr) (fun i _ => L + 1 - (intOf i).toNat)
  case atStart => exact ⟨0, Nat.zero_le _, rfl, xs1, hown, fun j h => absurd h (by omega), X2⟩
  case round =>
    obtain ⟨k, hk, rfl, xs, hown, hxs, hx⟩ := hrel
    have HO := Lib.hid hown
    have HXS := Lib.hid hxs
    have HX := Lib.hid hx
    obtain ⟨b1, b2⟩ := pz_cells hx
    clear hown hxs hx
    by_cases hlt : k < L + 1
    · have hkl : k ≤ gs.length := by rw [← HLL.out]; omega
      have HCT := Lib.hid (fun (w' : World) (x' : Ext w w') => cut_any d a cap gs 0 k w' (H.out.ext x') (by rw [← HLL.out]; exact hcap) (Nat.zero_le _) hkl)
      rw [← HLL.out] at HCT
      have HCN := Lib.hid (fun (u : Value) (w' : World) (h : Cls w' u (gs.take k)) => cntP_any d u (gs.take k) w' h (isPz_take HP.out k))
      obtain ⟨c, hc⟩ : ∃ c, c = cntV d (gs.take k) := ⟨_, rfl⟩
      have HC := Lib.hid hc
      rw [← hc] at HCN
      clear hc hkl
      go_wp2_with (first | (go_at_call 63; refine (HCT.out _ (X0.out.trans HX.out)).mono ?_; rintro e w3 ⟨u, rfl, hu, x3⟩; have HU := Lib.hid hu; have X3 := Lib.hid (HX.out.trans x3); have O3 := Lib.hid (row_ext HO.out x3); clear hu x3) | (go_at_call 59; refine (HCN.out _ _ HU.out).mono ?_; rintro e w4 ⟨rfl, x4⟩; have X4 := Lib.hid (X3.out.trans x4); have O4 := Lib.hid (row_ext O3.out x4); obtain ⟨y0, hy0⟩ : ∃ y, xs[k]? = some y := ⟨_, List.getElem?_eq_getElem (by have := O4.out.1; omega)⟩; have hc4 := (O4.out.cellAt k (by omega)).trans hy0; have hf4 := O4.out.frozenAt k; clear x4 hy0))
      have hG : w.heap.size + 1 ≤ w1.heap.size := hB1
      go_roundw
      case rel =>
        refine ⟨k + 1, by omega, by go_num, _, (O4.out.stored k (.int .i64 c)).1, fun j hj => ?_, X4.out.setCell (p := ⟨w1.heap.size, k, none⟩) (by simpa using hG) _⟩
        by_cases e : j = k
        · subst e
          rw [List.getElem?_set_self (by have := O4.out.1; omega), HC.out]
        · rw [List.getElem?_set_ne (by omega)]
          exact HXS.out j (by omega)
      case measure => simp [intOf]; omega
    · have hk1 : k = L + 1 := by omega
      have HE := Lib.hid (show (((List.range (L + 1)).map fun k => cntV d (gs.take k)).map (Value.int .i64)) = xs by
        have hL := HO.out.1
        refine List.ext_getElem? fun j => ?_
        by_cases hj : j < L + 1
        · rw [HXS.out j (by omega), List.getElem?_map, List.getElem?_map, List.getElem?_range hj]
          rfl
        · rw [List.getElem?_eq_none (by simp; omega), List.getElem?_eq_none (by omega)])
      have HLN := Lib.hid (show ((List.range (L + 1)).map fun k => cntV d (gs.take k)).length = L + 1 by rw [List.length_map, List.length_range])
      clear hk1
      go_wp2
      go_ret2
      refine ⟨_, rfl, ?_, X0.out.trans HX.out⟩
      rw [HV.out]
      refine RowI.down (B := w.heap.size + 1) ?_ (by omega)
      unfold RowI
      rw [HLN.out, HE.out]
      exact HO.out
end Go.Proofs.YtpdnpphjlnlneaaGreatDoor
