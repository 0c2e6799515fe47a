/- The clue that the fewest numbers fit alone: the program. No conditions. -/
import Derived.Test.YtpdnpphjlnlneaaGreatDoorBcl
namespace Go.Proofs.YtpdnpphjlnlneaaGreatDoor
open Go.RowKit

set_option maxRecDepth 100000 in
set_option maxHeartbeats 4000000 in
theorem bcP_any (d : Int) (v : Value) (gs : List Cl) (w : World) (h : Clc w v gs) : Calls Tryz.prog 31 #[.agg #[.int .i64 d, v]] w fun e w' => e = .returned (.tuple #[.int .i64 (besV d gs), .bool (besOk d gs)]) ∧ Ext w w' := by
  have X0 := Lib.hid (show Ext w (w.alloc (.cells #[.int .i64 d, v] 37)) from (Ext.refl w).alloc _)
  have H := Lib.hid h.1
  have HG := Lib.hid (fun w h => isPzP_any d v gs w h)
  obtain ⟨a, cap, rfl, hcap⟩ := h.2
  clear h
  cases hp : isPz d gs
  · have HO := Lib.hid (besOk_p hp)
    have HV := Lib.hid (besV_no HO.out)
    rw [hp] at HG
    clear hp
    go_enter Tryz.func31, Tryz.ntmps31
    go_wp2_with (go_at_call 58; refine (HG.out _ (H.out.ext X0.out)).mono ?_; rintro e w1 ⟨rfl, x1⟩)
    go_ret2
    exact ⟨ret_ib HV.out.symm HO.out.symm, X0.out.trans x1⟩
  rw [hp] at HG
  have HP := Lib.hid hp
  have h6 := (isPz_bd hp).l
  have HOY := Lib.hid (fun h2 => besOk_y hp h2)
  clear hp
  by_cases hz : gs.length = 0
  · have HO := Lib.hid (besOk_l (d := d) hz)
    have HV := Lib.hid (besV_no HO.out)
    have HZ := Lib.hid hz
    rw [hz] at X0
    have HGZ := Lib.hid (fun w (h : Cls w (.slice a 0 cap) gs) => (hz ▸ HG.out : ∀ w, Cls w (.slice a 0 cap) gs → Calls Tryz.prog 58 #[.agg #[.int .i64 d, .slice a 0 cap]] w fun e w' => e = .returned (.bool true) ∧ Ext w w') w h)
    have H0 := Lib.hid (show Cls w (.slice a 0 cap) gs by have := H.out; rw [hz] at this; exact this)
    rw [hz]
    clear HG H hz hcap h6
    go_enter Tryz.func31, Tryz.ntmps31
    go_wp2_with fail
    refine (HGZ.out _ (H0.out.ext X0.out)).mono ?_
    rintro e w1 ⟨rfl, x1⟩
    obtain ⟨a1, a2⟩ := pz_cells x1
    go_wp2
    go_ret2
    exact ⟨ret_ib HV.out.symm HO.out.symm, X0.out.trans x1⟩
  have HO := Lib.hid (HOY.out (by omega))
  have HV := Lib.hid (besV_yes HO.out)
  obtain ⟨L, hL⟩ : ∃ L, L = gs.length := ⟨_, rfl⟩
  have HLL := Lib.hid hL
  rw [← hL] at X0 hcap h6 HV HG hz ⊢
  clear hL HOY
  obtain ⟨cs, hcs⟩ : ∃ cs, cs = aloK d gs L := ⟨_, rfl⟩
  have HCS := Lib.hid hcs
  rw [← hcs] at HV
  have HCL := Lib.hid (show cs.length = L by rw [hcs, aloK_len])
  have HCA := Lib.hid (fun j (h : j < L) => (show cs.getD j 0 = cntV d ((gs.take (j + 1)).drop j) by rw [hcs]; exact aloK_at d gs L j h))
  clear hcs
  obtain ⟨i0, hi, hz0, hzs, hzb⟩ := info_parts info_intP
  have HI := Lib.hid (show Tryz.prog.info? 3 = some i0 ∧ i0.zero = some (.int .i64 0) ∧ i0.size = 1 ∧ i0.bytes = 8 from ⟨hi, hz0, hzs, hzb⟩)
  clear hi hz0 hzs hzb
  have hLz : ((L : Int) == 0) = false := beq_eq_false_iff_ne.2 (by omega)
  go_enter Tryz.func31, Tryz.ntmps31
  go_wp2_with fail
  refine (HG.out _ (by rw [HLL.out]; exact (H.out.ext (by rw [← HLL.out]; exact X0.out)))).mono ?_
  rintro e w1 ⟨rfl, x1⟩
  have X1 := Lib.hid x1
  obtain ⟨a1, a2⟩ := pz_cells x1
  clear x1
  have hB1 : w.heap.size + 1 ≤ w1.heap.size := by have := X1.out.size; simpa using this
  go_wp2_with (at_make; refine wpList_make_full _ rfl _ _ 42 rfl (w.heap.size + 1) 3 i0 (.int .i64 0) 1 Tryz.underlying42 HI.out.1 HI.out.2.1 HI.out.2.2.1 .i64 .i64 _ _ L rfl rfl rfl rfl (by rw [HI.out.2.2.2]; omega) (by unfold maxLen; omega) hB1 ?_; intro w2 hown hgr)
  have X2 : Ext (w.alloc (.cells #[.int .i64 d, .slice a L cap] 37)) w2 := ext_grown X1.out hgr (by intro k hk; cases hk)
  obtain ⟨xs1, hxs1⟩ : ∃ xs, xs = (madeCells (Value.int .i64 0).cells (L * 1)).toList := ⟨_, rfl⟩
  rw [← hxs1] at hown
  clear hxs1 hgr a1 a2
  go_loopw [21] (fun i wr => ∃ k : Nat, k ≤ L ∧ i = .int .i64 k ∧ ∃ xs : List Value, wr.ownsRow (w.heap.size + 1) 3 1 (.slice (some ⟨w1.heap.size, 0, none⟩) L L) L xs ∧ (∀ j, j < k → xs[j]? = some (.int .i64 (cs.getD j 0))) ∧ Ext (w.alloc (.cells #[.int .i64 d, .slice a L cap] 37)) wr) (fun i _ => L - (intOf i).toNat)
  case atStart => exact ⟨0, Nat.zero_le _, rfl, xs1, hown, fun j h => absurd h (by omega), X2⟩
  case round =>
    obtain ⟨k, hk, rfl, xs, hown, hxs, hx⟩ := hrel
    have HO2 := Lib.hid hown
    have HXS := Lib.hid hxs
    have HX := Lib.hid hx
    obtain ⟨b1, b2⟩ := pz_cells hx
    clear hown hxs hx
    by_cases hlt : k < L
    · have hkl : k + 1 ≤ gs.length := by rw [← HLL.out]; omega
      have W1 : IntKind.i64.wrap ((k : Int) + 1) = (k : Int) + 1 := by simp only [IntKind.wrap_i64]; omega
      have HCT := Lib.hid (fun (w' : World) (x' : Ext w w') => cut_any d a cap gs k (k + 1) w' (H.out.ext x') (by rw [← HLL.out]; exact hcap) (by omega) hkl)
      rw [← HLL.out] at HCT
      have HCN := Lib.hid (fun (u : Value) (w' : World) (h : Cls w' u ((gs.take (k + 1)).drop k)) => cntP_any d u _ w' h (isPz_part HP.out k (k + 1)))
      obtain ⟨c, hc⟩ : ∃ c, c = cntV d ((gs.take (k + 1)).drop k) := ⟨_, rfl⟩
      have HC := Lib.hid (show c = cs.getD k 0 by rw [hc, HCA.out k hlt])
      rw [← hc] at HCN
      clear hc hkl
      go_wp2_with (first | (go_at_call 63; refine (HCT.out _ (X0.out.trans HX.out)).mono ?_; rintro e w3 ⟨u, rfl, hu, x3⟩; have HU := Lib.hid hu; have X3 := Lib.hid (HX.out.trans x3); have O3 := Lib.hid (row_ext HO2.out x3); clear hu x3) | (go_at_call 59; refine (HCN.out _ _ HU.out).mono ?_; rintro e w4 ⟨rfl, x4⟩; have X4 := Lib.hid (X3.out.trans x4); have O4 := Lib.hid (row_ext O3.out x4); obtain ⟨y0, hy0⟩ : ∃ y, xs[k]? = some y := ⟨_, List.getElem?_eq_getElem (by have := O4.out.1; omega)⟩; have hc4 := (O4.out.cellAt k (by omega)).trans hy0; have hf4 := O4.out.frozenAt k; clear x4 hy0))
      have hG : w.heap.size + 1 ≤ w1.heap.size := hB1
      go_roundw
      case rel =>
        refine ⟨k + 1, by omega, by go_num, _, (O4.out.stored k (.int .i64 c)).1, fun j hj => ?_, X4.out.setCell (p := ⟨w1.heap.size, k, none⟩) (by simpa using hG) _⟩
        by_cases e : j = k
        · subst e
          rw [List.getElem?_set_self (by have := O4.out.1; omega), HC.out]
        · rw [List.getElem?_set_ne (by omega)]
          exact HXS.out j (by omega)
      case measure => simp [intOf]; omega
    · obtain rfl : k = L := by omega
      have HE := Lib.hid (show cs.map (Value.int .i64) = xs by
        have hL := HO2.out.1
        refine List.ext_getElem? fun j => ?_
        by_cases hj : j < k
        · rw [HXS.out j hj, List.getElem?_map, List.getElem?_eq_getElem (show j < cs.length by rw [HCL.out]; exact hj), List.getD_eq_getElem?_getD, List.getElem?_eq_getElem (show j < cs.length by rw [HCL.out]; exact hj)]
          rfl
        · rw [List.getElem?_eq_none (by rw [List.length_map, HCL.out]; omega), List.getElem?_eq_none (by omega)])
      have hcc : ∀ j, j < cs.length → wr.cell? ⟨w1.heap.size, 0 + j, none⟩ = some (.int .i64 (cs.getD j 0)) := fun j hj => by
        rw [Nat.zero_add, HO2.out.cellAt j (by rw [← HCL.out]; omega)]
        exact HXS.out j (by rw [← HCL.out]; exact hj)
      have HMI := Lib.hid (Go.Proofs.Tryz.slices_Min_int w1.heap.size 0 k k cs wr (by omega) (by rw [HCL.out]; exact Nat.le_refl _) (by omega) hcc)
      have HIX := Lib.hid (fun x => Go.Proofs.Tryz.slices_Index_int w1.heap.size 0 k k cs x wr (by rw [HCL.out]; exact Nat.le_refl _) (by omega) hcc)
      have HTK := Lib.hid (show cs.take k = cs from List.take_of_length_le (by rw [HCL.out]; exact Nat.le_refl _))
      rw [HTK.out] at HMI HIX
      have HVV := Lib.hid (show Lib.idxOf cs (Lib.minOf cs) = besV d gs by rw [HV.out, HCS.out, HLL.out])
      clear hcc
      go_wp2_with (first | (go_at_call 66; refine HMI.out.mono ?_; rintro e w' ⟨rfl, rfl⟩) | (go_at_call 65; refine (HIX.out _).mono ?_; rintro e w' ⟨rfl, rfl⟩))
      go_ret2
      exact ⟨ret_ib HVV.out HO.out.symm, X0.out.trans HX.out⟩
end Go.Proofs.YtpdnpphjlnlneaaGreatDoor
