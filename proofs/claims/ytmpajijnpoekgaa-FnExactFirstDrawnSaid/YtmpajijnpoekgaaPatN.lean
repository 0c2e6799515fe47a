/- The points with which a pattern goes on: both sides. No conditions. -/
import Derived.Test.YtmpajijnpoekgaaPatE
namespace Go.Proofs.Ytmpajijnpoekgaa
open Go.RowKit

set_option maxHeartbeats 1000000 in
theorem nexts_any (V : Array Value) (ps : List Nat) (l : Nat) (w : World) (hV : V = (dvA (inD ps) l).toArray) (hl : l < 9) : Calls Try.prog 48 #[.agg V] w fun e w' => OwnP w w' e (nxP ps l 9) := by
  have HC := Lib.hid (fun (p : Nat) (hp : p < 9) w => dv_canGo V (inD ps) l p w hV hl hp)
  obtain ⟨i0, hi, hz0, hzs, hzb⟩ := info_parts info_intP
  have HI := Lib.hid (show Try.prog.info? 3 = some i0 ∧ i0.zero = some (.int .i64 0) ∧ i0.size = 1 ∧ i0.bytes = 8 from ⟨hi, hz0, hzs, hzb⟩)
  have HSZ := Lib.hid (szA hV)
  have HG0 := Lib.hid (heap_alloc_new w (.cells V 48))
  have X0 : Ext w (w.alloc (.cells V 48)) := (Ext.refl w).alloc _
  clear hi hz0 hzs hzb hV
  go_enter Try.func48, Try.ntmps48
  go_wp2
  obtain ⟨W0, hW0⟩ : ∃ W0, W0 = w.alloc (.cells V 48) := ⟨_, rfl⟩
  rw [← hW0] at HG0 X0 ⊢
  obtain ⟨D, hD⟩ : ∃ D, D = w.heap.size := ⟨_, rfl⟩
  rw [← hD] at HG0 ⊢
  have HDE := Lib.hid hD
  clear hW0 hD
  go_loopw [3, 5] (fun v i wr => ∃ k : Nat, k ≤ 9 ∧ i = .int .i64 k ∧ RowP W0.heap.size wr v (nxP ps l k) ∧ Ext W0 wr) (fun _ i _ => 9 - (intOf i).toNat)
  case atStart => exact ⟨0, Nat.zero_le _, rfl, RowP.nil _ _, Ext.refl _⟩
  case round =>
    obtain ⟨k, hk, rfl, hr, hx⟩ := hrel
    have HR := Lib.hid hr
    have hlen := nxP_len ps l k
    have HX := Lib.hid hx
    have HGD := Lib.hid ((hx.block D (heapLt HG0.out)).trans HG0.out)
    clear hr hx
    by_cases hlt : k < 9
    · have HCk := Lib.hid (fun w => HC.out k hlt w)
      have HY := Lib.hid (fun h => nxP_yes (ps := ps) (l := l) (k := k) h)
      have HN := Lib.hid (fun h => nxP_no (ps := ps) (l := l) (k := k) h)
      rw [goD_in] at HCk
      cases hg : goP ps l k
      · have HV := Lib.hid (HN.out hg)
        rw [hg] at HCk
        clear hg
        go_wp2_with (first | (refine wpList_load_row rfl _ _ rfl D rfl 48 V (0, 0) _ HGD.out Try.underlying48 rfl HSZ.out ?_) | (go_at_call 83; refine (HCk.out _).mono ?_; rintro e w2 ⟨rfl, x2⟩))
        go_roundw
        case rel => exact ⟨k + 1, by omega, by go_num, by rw [HV.out]; exact HR.out.ext x2, HX.out.trans x2⟩
        case measure => simp [intOf]; omega
      · have HV := Lib.hid (HY.out hg)
        rw [hg] at HCk
        clear hg
        go_wp2_with (first | (refine wpList_load_row rfl _ _ rfl D rfl 48 V (0, 0) _ HGD.out Try.underlying48 rfl HSZ.out ?_) | (go_at_call 83; refine (HCk.out _).mono ?_; rintro e w2 ⟨rfl, x2⟩) | (at_builtin; refine wpList_append_own _ rfl _ _ 53 rfl W0.heap.size 3 i0 (.int .i64 0) 1 8 Try.underlying53 HI.out.1 HI.out.2.1 HI.out.2.2.1 HI.out.2.2.2 rfl (by decide) _ _ _ rfl (World.ownsRow.alloc (HR.out.ext x2) _) ⟨w2.heap.size, 0, none⟩ 1 1 [.int .i64 (k : Int)] rfl rfl (cell_one_new _ _ _) (oneIP _) (by unfold maxLen; omega) (by omega) (by have := (HX.out.trans x2).size; simp; omega) ?_; intro v' w5 hown' hgr' _))
        have R := Lib.hid (show RowP W0.heap.size w5 v' (nxP ps l (k + 1)) by rw [HV.out]; exact RowP.grown hown')
        have X : Ext W0 w5 := ext_grown ((HX.out.trans x2).alloc _) hgr' (fun j hj => HR.out.own_le j hj)
        clear hown' hgr'
        go_wp2
        go_roundw
        case rel => exact ⟨k + 1, by omega, by go_num, R.out, X⟩
        case measure => simp [intOf]; omega
    · obtain rfl : k = 9 := by omega
      go_wp2
      go_ret
      exact ⟨_, rfl, HR.out.down (by have := X0.size; omega), X0.trans HX.out⟩

/-! ### NextPoints -/
theorem laP_of {s : ByteArray} (h : isPt s = true) : laP (plcs s) < 9 ∧ ∃ qs, plcs s = qs ++ [laP (plcs s)] := by
  have hz := isPt_size h
  have hl : (plcs s).length = s.size := plcs_len s
  have h1 : (plcs s).length - 1 < (plcs s).length := by omega
  have e : laP (plcs s) = (plcs s)[(plcs s).length - 1] := by unfold laP; rw [getD_get h1]
  refine ⟨by rw [e]; exact isPt_lt h _ (List.getElem_mem h1), (plcs s).take ((plcs s).length - 1), ?_⟩
  rw [e, ← List.take_succ_eq_append_getElem h1, List.take_of_length_le (by omega)]
def npV (s : ByteArray) : ByteArray := if isdV s then pT (nxP (plcs s) (laP (plcs s)) 9) else ⟨#[]⟩
theorem npV_no {s : ByteArray} (h : isdV s = false) : npV s = ⟨#[]⟩ := by unfold npV; rw [h]; rfl
theorem npV_yes {s : ByteArray} (h : isdV s = true) : npV s = pT (nxP (plcs s) (laP (plcs s)) 9) := by unfold npV; rw [h]; rfl
theorem ret_sBp {a a' : ByteArray} {b b' : Bool} (h : a = a') (h2 : b = b') : Ending.returned (.tuple #[.string a, .bool b]) = .returned (.tuple #[.string a', .bool b']) := by rw [h, h2]

set_option maxHeartbeats 1000000 in
theorem npI_any (s : ByteArray) (w : World) (hs : s.size ≤ maxLen) : Calls Try.prog 18 #[.string s] w fun e w' => e = .returned (.tuple #[.string (npV s), .bool (isdV s)]) ∧ Ext w w' := by
  cases h : isPt s
  · have HO := Lib.hid (isdV_no h)
    have HV := Lib.hid (npV_no HO.out)
    go_enter Try.func18, Try.ntmps18
    go_wp2_with (go_at_call 44; refine (isPat_any _ _ hs).mono ?_; rintro e w1 ⟨rfl, x1⟩; rw [h])
    go_ret2
    exact ⟨ret_sBp HV.out.symm HO.out.symm, x1⟩
  have HD := Lib.hid (fun w => dof_any s w h)
  have hV10 : (doV (plcs s)).toArray.size = 10 := by unfold doV; split <;> rfl
  obtain ⟨dd, dl, hdd⟩ := doV_is (plcs s)
  have HDV := Lib.hid (show (doV (plcs s)).toArray = (dvA dd dl).toArray by rw [hdd])
  cases hb : drwP (plcs s)
  · have HO := Lib.hid (show isdV s = false by rw [isdV_yes h, hb])
    have HV := Lib.hid (npV_no HO.out)
    rw [hb] at HD
    obtain ⟨V, hV⟩ : ∃ V, V = (doV (plcs s)).toArray := ⟨_, rfl⟩
    rw [← hV] at HD hV10 HDV
    clear hV hb hdd
    go_enter Try.func18, Try.ntmps18
    go_wp2_with (first | (go_at_call 44; refine (isPat_any _ _ hs).mono ?_; rintro e w1 ⟨rfl, x1⟩; rw [h]) | (go_at_call 45; refine (HD.out _).mono ?_; rintro e w2 ⟨rfl, x2⟩; obtain ⟨W3, st3, G3, X3⟩ := dv_new w2 V dd dl HDV.out))
    go_ret2
    exact ⟨ret_sBp HV.out.symm HO.out.symm, (x1.trans x2).trans X3⟩
  · have HO := Lib.hid (show isdV s = true by rw [isdV_yes h, hb])
    have HV := Lib.hid (npV_yes HO.out)
    have HVD := Lib.hid (show (doV (plcs s)).toArray = (dvA (inD (plcs s)) (laP (plcs s))).toArray by rw [doV_yes hb])
    rw [hb] at HD
    have hla := (laP_of h).1
    obtain ⟨V, hV⟩ : ∃ V, V = (doV (plcs s)).toArray := ⟨_, rfl⟩
    rw [← hV] at HD hV10 HDV HVD
    have HSZ := Lib.hid (szA HDV.out)
    have HNX := Lib.hid (fun w => nexts_any V (plcs s) (laP (plcs s)) w HVD.out hla)
    obtain ⟨L, hL⟩ : ∃ L, L = nxP (plcs s) (laP (plcs s)) 9 := ⟨_, rfl⟩
    have hL9 : ∀ q ∈ L, q < 9 := by rw [hL]; exact nxP_lt
    have HKP := Lib.hid (kT_pT L hL9)
    have HL12 := Lib.hid (fun q (hq : q ∈ L) => show q < 12 from Nat.lt_trans (hL9 q hq) (by decide))
    have hlen : L.length ≤ 9 := by rw [hL]; exact nxP_len _ _ _
    rw [← hL] at HNX HV
    clear hV hb hdd hL hL9
    go_enter Try.func18, Try.ntmps18
    go_wp2_with (first | (go_at_call 44; refine (isPat_any _ _ hs).mono ?_; rintro e w1 ⟨rfl, x1⟩; rw [h]) | (go_at_call 45; refine (HD.out _).mono ?_; rintro e w2 ⟨rfl, x2⟩; obtain ⟨W3, st3, G3, X3⟩ := dv_new w2 V dd dl HDV.out) | (refine wpList_load_row rfl _ _ rfl (w2.heap.size) rfl 48 V (0, 0) _ G3 Try.underlying48 rfl HSZ.out ?_))
    refine (HNX.out _).mono ?_
    rintro e w4 ⟨v, rfl, hv, x4⟩
    have HPS := Lib.hid (hv.ps (by unfold maxLen; omega))
    go_wp2_with fail
    refine (keysAt_any _ _ _ HPS.out HL12.out (by omega)).mono ?_
    rintro e w5 ⟨rfl, x5⟩
    go_wp2
    go_ret2
    exact ⟨ret_sBp (by rw [HV.out, HKP.out]) HO.out.symm, (((x1.trans x2).trans X3).trans x4).trans x5⟩

set_option maxHeartbeats 1000000 in
theorem npS_any (s : ByteArray) (w : World) (hs : s.size ≤ maxLen) : Calls Try.prog 17 #[.string s] w fun e w' => e = .returned (.tuple #[.string (npV s), .bool (isdV s)]) ∧ Ext w w' := by
  cases h : isPt s
  · have HO := Lib.hid (isdV_no h)
    have HV := Lib.hid (npV_no HO.out)
    go_enter Try.func17, Try.ntmps17
    go_wp2_with (go_at_call 42; refine (piPat_any _ _ hs).mono ?_; rintro e w1 ⟨rfl, x1⟩; rw [h])
    go_ret2
    exact ⟨ret_sBp HV.out.symm HO.out.symm, x1⟩
  have HD := Lib.hid (fun w => piDrw_any s w h)
  cases hb : drwP (plcs s)
  · have HO := Lib.hid (show isdV s = false by rw [isdV_yes h, hb])
    have HV := Lib.hid (npV_no HO.out)
    rw [hb] at HD
    go_enter Try.func17, Try.ntmps17
    go_wp2_with (first | (go_at_call 42; refine (piPat_any _ _ hs).mono ?_; rintro e w1 ⟨rfl, x1⟩; rw [h]) | (go_at_call 43; refine (HD.out _).mono ?_; rintro e w2 ⟨rfl, x2⟩))
    go_ret2
    exact ⟨ret_sBp HV.out.symm HO.out.symm, x1.trans x2⟩
  have HO := Lib.hid (show isdV s = true by rw [isdV_yes h, hb])
  have HV := Lib.hid (npV_yes HO.out)
  rw [hb] at HD
  obtain ⟨qs, hqs⟩ := (laP_of h).2
  have HG := Lib.hid (fun (p : Nat) (hp : p < 9) w => (show Calls Try.prog 46 #[.string s, .int .u8 (49 + (p : Int))] w fun e w' => e = .returned (.bool (goP (plcs s) (laP (plcs s)) p)) ∧ w = w' from by
    have hpt := pts_of h s.size
    rw [List.take_of_length_le (by rw [plcs_len]; exact Nat.le_refl _)] at hpt
    have e1 := isPt_pT h
    rw [hqs] at hpt
    have := piGoes_any qs (laP (plcs s)) p _ w hpt hp rfl
    rw [← hqs, e1] at this
    exact this))
  have HH := Lib.hid h
  obtain ⟨ps, hps⟩ : ∃ ps, ps = plcs s := ⟨_, rfl⟩
  obtain ⟨l, hl⟩ : ∃ l, l = laP ps := ⟨_, rfl⟩
  rw [← hps, ← hl] at HG HV
  clear hb h hqs hps hl
  go_enter Try.func17, Try.ntmps17
  go_wp2_with (first | (go_at_call 42; refine (piPat_any _ _ hs).mono ?_; rintro e w1 ⟨rfl, x1⟩; rw [HH.out]) | (go_at_call 43; refine (HD.out _).mono ?_; rintro e w2 ⟨rfl, x2⟩))
  go_loopw [4, 5] (fun o t wr => ∃ k : Nat, k ≤ 9 ∧ t = .int .u8 (49 + (k : Int)) ∧ o = .string (pT (nxP ps l k)) ∧ Ext w wr) (fun _ t _ => 58 - (intOf t).toNat)
  case atStart => exact ⟨0, Nat.zero_le _, rfl, rfl, x1.trans x2⟩
  case round =>
    obtain ⟨k, hk, rfl, rfl, hx⟩ := hrel
    by_cases hlt : k < 9
    · have HK := Lib.hid (fun w => HG.out k hlt w)
      have hz : (pT (nxP ps l k)).size ≤ 9 := by rw [pT_size]; have := nxP_len ps l k; omega
      have HSN := Lib.hid (fun h => (show pT (nxP ps l (k + 1)) = pT (nxP ps l k) ++ ⟨#[(49 + k).toUInt8]⟩ by rw [nxP_yes h, pT_snoc]))
      have HSM := Lib.hid (fun h => (show pT (nxP ps l (k + 1)) = pT (nxP ps l k) by rw [nxP_no h]))
      have hle : (49 : Int) + (k : Int) ≤ 57 := by omega
      have HE := pBu k hlt
      obtain ⟨c, hc⟩ : ∃ c, c = (49 + k).toUInt8 := ⟨_, rfl⟩
      rw [← hc] at HSN HE
      obtain ⟨T, hT⟩ : ∃ T, T = pT (nxP ps l k) := ⟨_, rfl⟩
      rw [← hT] at hz HSN HSM ⊢
      clear hc hT
      have Wc : IntKind.i32.wrap (49 + (k : Int)) = 49 + (k : Int) := by simp only [IntKind.wrap_i32]; omega
      have Wu : IntKind.u8.wrap (49 + (k : Int) + 1) = 49 + (k : Int) + 1 := IntWalk.u8_in _ (by omega)
      cases hg : goP ps l k
      · have HN := Lib.hid (HSM.out hg)
        rw [hg] at HK
        clear hg
        go_wp2_with (go_at_call 46; refine (HK.out _).mono ?_; rintro e w' ⟨rfl, rfl⟩)
        go_roundw
        case rel => exact ⟨k + 1, by omega, by rw [show 49 + ((k + 1 : Nat) : Int) = 49 + (k : Int) + 1 by omega], by rw [HN.out] <;> rfl, hx⟩
        case measure => simp [intOf]; omega
      · have HN := Lib.hid (HSN.out hg)
        rw [hg] at HK
        clear hg
        go_wp2_with (go_at_call 46; refine (HK.out _).mono ?_; rintro e w' ⟨rfl, rfl⟩)
        go_roundw
        case rel => exact ⟨k + 1, by omega, by rw [show 49 + ((k + 1 : Nat) : Int) = 49 + (k : Int) + 1 by omega], by rw [HN.out] <;> rfl, hx⟩
        case measure => simp [intOf]; omega
    · obtain rfl : k = 9 := by omega
      go_wp2
      go_ret2
      exact ⟨ret_sBp HV.out.symm HO.out.symm, hx⟩
end Go.Proofs.Ytmpajijnpoekgaa
