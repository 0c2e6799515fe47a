/- What a clue tells of a hidden number: the program. No conditions. -/
import Derived.Test.YtpdnpphjlnlneaaGreatDoorTlS
import Derived.Test.YtpdnpphjlnlneaaGreatDoorDif
import Derived.Test.YtpdnpphjlnlneaaGreatDoorHsn
import Derived.Lib.AtoiErrMem
namespace Go.Proofs.YtpdnpphjlnlneaaGreatDoor
open Go.RowKit Go.Shelf Go.Lib Go.Sort

theorem ext_setCells {a : World} {b : Nat} (hb : a.heap.size ≤ b) : ∀ (vs : List Value) (o : Nat) (w : World), Ext a w → Ext a (w.setCells b o vs)
  | [], _, _, h => h
  | v :: vs, o, w, h => ext_setCells hb vs (o + 1) (w.setCell ⟨b, o, none⟩ v) (h.setCell (p := ⟨b, o, none⟩) hb v)

set_option maxHeartbeats 1000000 in
theorem totI_any (v : Value) (ds : List Nat) (w : World) (h : Ps w v ds) (hd : ∀ d ∈ ds, d < 10) (hl : ds.length ≤ 100) : Calls Tryz.prog 99 #[v, .func (.func 100) #[] #[]] w fun e w' => e = .returned (.int .i64 ((sumT ds : Nat) : Int)) ∧ Ext w w' := by
  have H := Lib.hid h
  have HD := Lib.hid hd
  obtain ⟨a, cap, hv⟩ := h.at
  rw [hv] at H ⊢
  clear hv h hd
  go_enter Tryz.func99, Tryz.ntmps99
  go_wp2
  go_loopw [5, 10] (fun t i wr => ∃ k : Nat, k ≤ ds.length ∧ i = .int .i64 k ∧ t = .int .i64 ((sumT (ds.take k) : Nat) : Int) ∧ Ext w wr) (fun _ i _ => ds.length - (intOf i).toNat)
  case atStart => exact ⟨0, Nat.zero_le _, rfl, rfl, Ext.refl _⟩
  case round =>
    obtain ⟨k, hk, rfl, rfl, hx⟩ := hrel
    by_cases hlt : k < ds.length
    · obtain ⟨b, off, ha, hb, hcell⟩ := (H.out.ext hx).get k hlt
      have HS := Lib.hid (sumT_take ds k hlt)
      have hle := sumT_le ds HD.out k hk
      have hq := HD.out ds[k] (List.getElem_mem hlt)
      obtain ⟨x, hx2⟩ : ∃ x, x = ds[k] := ⟨_, rfl⟩
      obtain ⟨y, hy⟩ : ∃ y, y = sumT (ds.take k) := ⟨_, rfl⟩
      rw [← hx2] at HS hcell hq
      rw [← hy] at HS hle ⊢
      clear hx2 hy hb
      subst ha
      have W2 : IntKind.i64.wrap ((y : Int) + (x : Int)) = (y : Int) + (x : Int) := by simp only [IntKind.wrap_i64]; omega
      go_wp2
      go_roundw
      case rel => exact ⟨k + 1, by omega, by go_num, by rw [HS.out]; exact congrArg (Value.int .i64) (by omega), hx⟩
      case measure => simp [intOf]; omega
    · have HE := Lib.hid (show ds.take k = ds from List.take_of_length_le (by omega))
      go_wp2
      go_ret
      exact ⟨ret_iD (by rw [HE.out]), hx⟩

theorem oneIf_any (b : Bool) (w : World) : Calls Tryz.prog 104 #[.bool b] w fun e w' => e = .returned (.int .i64 (if b then 1 else 0)) ∧ w = w' := by
  cases b
  · go_enter Tryz.func104, Tryz.ntmps104
    go_wp2
    go_ret
    exact ⟨rfl, rfl⟩
  · go_enter Tryz.func104, Tryz.ntmps104
    go_wp2
    go_ret
    exact ⟨rfl, rfl⟩

theorem oneIf_t (w : World) : Calls Tryz.prog 104 #[.bool true] w fun e w' => e = .returned (.int .i64 1) ∧ w = w' := oneIf_any true w
theorem oneIf_f (w : World) : Calls Tryz.prog 104 #[.bool false] w fun e w' => e = .returned (.int .i64 0) ∧ w = w' := oneIf_any false w
theorem numN_any (n : ByteArray) (w : World) (h : isWk n = true) (hz : n.size = 2 ∨ n.size = 3) : Calls Tryz.prog 106 #[.string n] w fun e w' => e = .returned (.int .i64 ((valT (dgs n) : Nat) : Int)) ∧ Ext w w' := by
  have HA := Lib.hid (fun w => Go.Proofs.Tryz.strconv_Atoi n _ (by omega) (atoi_dgs h hz) w)
  obtain ⟨x, hx⟩ : ∃ x, x = ((valT (dgs n) : Nat) : Int) := ⟨_, rfl⟩
  rw [← hx] at HA ⊢
  clear hx h hz
  go_enter Tryz.func106, Tryz.ntmps106
  go_wp2_with fail
  refine (HA.out _).mono ?_
  rintro e w1 ⟨rfl, t, rfl⟩
  go_wp2
  go_ret
  exact ⟨rfl, Lib.bytesWorld_below _ _ _⟩

set_option maxRecDepth 100000 in
set_option maxHeartbeats 2000000 in
theorem tp0_any (a b : Int) (n : ByteArray) (w : World) (h : isDg 2 3 n = true) : Calls Tryz.prog 82 #[.agg #[.int .i64 0, .int .i64 a, .int .i64 b], .string n] w fun e w' => e = .returned (.int .i64 (tv 0 a n)) ∧ Ext w w' := by
  have HW := Lib.hid (isHid_wk h)
  obtain ⟨z1, z2⟩ := isHid_bd h
  have HD := Lib.hid (dgs_lt HW.out)
  have hdl := Lib.hid (dgs_len n)
  have hml : (dgs n).length ≤ maxLen := by have := hdl.out; unfold maxLen; omega
  have X0 := Lib.hid (show Ext w (w.alloc (.cells #[.int .i64 0, .int .i64 a, .int .i64 b] 26)) from (Ext.refl w).alloc _)
  have HV := Lib.hid (tv_0 a n)
  clear h
  go_enter Tryz.func82, Tryz.ntmps82
  go_wp2_with fail
  refine (digitsOf_any n _ HW.out).mono ?_
  rintro e w1 ⟨dv, rfl, hrow, x1⟩
  have HR := Lib.hid hrow
  have X1 := Lib.hid x1
  obtain ⟨da, dc, rfl⟩ := hrow.shape
  obtain ⟨c0, c1, c2⟩ := cl_cells x1
  clear hrow x1
  go_wp2_with fail
  refine (totI_any _ _ _ (RowP.ps HR.out hml) HD.out (by have := hdl.out; omega)).mono ?_
  rintro e w2 ⟨rfl, x2⟩
  go_wp2
  go_ret
  exact ⟨ret_iD HV.out.symm, X0.out.trans (X1.out.trans x2)⟩

set_option maxRecDepth 100000 in
set_option maxHeartbeats 2000000 in
theorem tp1_any (a : Nat) (b : Int) (n : ByteArray) (w : World) (h : isDg 2 3 n = true) (ha : a < n.size) : Calls Tryz.prog 82 #[.agg #[.int .i64 1, .int .i64 (a : Int), .int .i64 b], .string n] w fun e w' => e = .returned (.int .i64 (tv 1 a n)) ∧ Ext w w' := by
  have HW := Lib.hid (isHid_wk h)
  obtain ⟨z1, z2⟩ := isHid_bd h
  have HD := Lib.hid (dgs_lt HW.out)
  have hdl := Lib.hid (dgs_len n)
  have hml : (dgs n).length ≤ maxLen := by have := hdl.out; unfold maxLen; omega
  have X0 := Lib.hid (show Ext w (w.alloc (.cells #[.int .i64 1, .int .i64 (a : Int), .int .i64 b] 26)) from (Ext.refl w).alloc _)
  have hal : a < (dgs n).length := by have := hdl.out; omega
  have HV := Lib.hid (show (((dgs n)[a] : Nat) : Int) = tv 1 a n by rw [tv_1, dgs_at]; rfl)
  clear h
  go_enter Tryz.func82, Tryz.ntmps82
  go_wp2_with fail
  refine (digitsOf_any n _ HW.out).mono ?_
  rintro e w1 ⟨dv, rfl, hrow, x1⟩
  have HR := Lib.hid hrow
  have X1 := Lib.hid x1
  obtain ⟨da, dc, rfl⟩ := hrow.shape
  obtain ⟨c0, c1, c2⟩ := cl_cells x1
  clear hrow x1
  obtain ⟨g, rfl, hg1, hg2, hg3, hg4⟩ := RowP.at HR.out a hal
  obtain ⟨x, hx⟩ : ∃ x, x = (dgs n)[a] := ⟨_, rfl⟩
  rw [← hx] at HV hg3
  clear hx hg1
  go_wp2
  go_ret
  exact ⟨ret_iD HV.out, X0.out.trans X1.out⟩

set_option maxRecDepth 100000 in
set_option maxHeartbeats 2000000 in
theorem tp2_any (a b : Int) (n : ByteArray) (w : World) (h : isDg 2 3 n = true) : Calls Tryz.prog 82 #[.agg #[.int .i64 2, .int .i64 a, .int .i64 b], .string n] w fun e w' => e = .returned (.int .i64 (tv 2 a n)) ∧ Ext w w' := by
  have HW := Lib.hid (isHid_wk h)
  obtain ⟨z1, z2⟩ := isHid_bd h
  have HD := Lib.hid (dgs_lt HW.out)
  have hdl := Lib.hid (dgs_len n)
  have hml : (dgs n).length ≤ maxLen := by have := hdl.out; unfold maxLen; omega
  have X0 := Lib.hid (show Ext w (w.alloc (.cells #[.int .i64 2, .int .i64 a, .int .i64 b] 26)) from (Ext.refl w).alloc _)
  have HV := Lib.hid (tv_2 a n)
  have hd := isWk_D HW.out (by omega)
  have HPL := Lib.hid (plcs_lt n)
  have hpl : (plcs n).length ≤ 1000 := by rw [plcs_len]; omega
  have hpm : (plcs n).length ≤ maxLen := by unfold maxLen; omega
  have h5 : oneD ⟨#[53]⟩ = true := rfl
  have hp5 : p1 ⟨#[53]⟩ = 4 := rfl
  clear h
  go_enter Tryz.func82, Tryz.ntmps82
  go_wp2_with fail
  refine (digitsOf_any n _ HW.out).mono ?_
  rintro e w1 ⟨dv, rfl, hrow, x1⟩
  have HR := Lib.hid hrow
  have X1 := Lib.hid x1
  obtain ⟨da, dc, rfl⟩ := hrow.shape
  obtain ⟨c0, c1, c2⟩ := cl_cells x1
  clear hrow x1
  go_wp2_with fail
  refine (walkWith_any false _).mono ?_
  rintro e w2 ⟨f, rfl, hf, x2⟩
  obtain ⟨C, rfl, hC, hcC⟩ := hf
  go_wp2_with (go_at_call 102; refine (place1_any _ _ h5).mono ?_; rintro e w' ⟨rfl, rfl⟩)
  refine (placesOf_any n w2 hd).mono ?_
  rintro e w3 ⟨v, rfl, hv, x3⟩
  have hP := Lib.hid (RowP.ps hv hpm)
  have hC3 : C < w3.heap.size := Nat.lt_of_lt_of_le hC x3.size
  have hcC3 := (x3.cell (p := ⟨C, 0, none⟩) hC).trans hcC
  clear hv hcC
  go_wp2_with fail
  refine (wlk_any (p1 ⟨#[53]⟩) v (plcs n) C false w3 hP.out hC3 hcC3 (by rw [hp5]; omega) HPL.out hpl).mono ?_
  rintro e w4 ⟨rfl, x4⟩
  rw [hp5]
  go_wp2
  go_ret
  exact ⟨ret_iD HV.out.symm, X0.out.trans (X1.out.trans (x2.trans (x3.trans x4)))⟩

set_option maxRecDepth 100000 in
set_option maxHeartbeats 2000000 in
theorem tp3_any (a b : Int) (n : ByteArray) (w : World) (h : isDg 2 3 n = true) : Calls Tryz.prog 82 #[.agg #[.int .i64 3, .int .i64 a, .int .i64 b], .string n] w fun e w' => e = .returned (.int .i64 (tv 3 a n)) ∧ Ext w w' := by
  have HW := Lib.hid (isHid_wk h)
  obtain ⟨z1, z2⟩ := isHid_bd h
  have HD := Lib.hid (dgs_lt HW.out)
  have hdl := Lib.hid (dgs_len n)
  have hml : (dgs n).length ≤ maxLen := by have := hdl.out; unfold maxLen; omega
  have X0 := Lib.hid (show Ext w (w.alloc (.cells #[.int .i64 3, .int .i64 a, .int .i64 b] 26)) from (Ext.refl w).alloc _)
  have HV := Lib.hid (tv_3 a n)
  have HC := Lib.hid (fun w => isWalkOf_any 0 n w (by omega) (by unfold maxLen; omega))
  obtain ⟨x, hx⟩ : ∃ x, x = isWlk 0 n := ⟨_, rfl⟩
  rw [← hx] at HV HC
  clear hx h
  cases x
  · go_enter Tryz.func82, Tryz.ntmps82
    go_wp2_with fail
    refine (digitsOf_any n _ HW.out).mono ?_
    rintro e w1 ⟨dv, rfl, hrow, x1⟩
    have HR := Lib.hid hrow
    have X1 := Lib.hid x1
    obtain ⟨da, dc, rfl⟩ := hrow.shape
    obtain ⟨c0, c1, c2⟩ := cl_cells x1
    clear hrow x1
    go_wp2_with fail
    refine (HC.out _).mono ?_
    rintro e w2 ⟨rfl, x2⟩
    go_wp2_with (go_at_call 104; refine (oneIf_any _ _).mono ?_; rintro e w' ⟨rfl, rfl⟩)
    go_ret
    exact ⟨ret_iD HV.out.symm, X0.out.trans (X1.out.trans x2)⟩
  · go_enter Tryz.func82, Tryz.ntmps82
    go_wp2_with fail
    refine (digitsOf_any n _ HW.out).mono ?_
    rintro e w1 ⟨dv, rfl, hrow, x1⟩
    have HR := Lib.hid hrow
    have X1 := Lib.hid x1
    obtain ⟨da, dc, rfl⟩ := hrow.shape
    obtain ⟨c0, c1, c2⟩ := cl_cells x1
    clear hrow x1
    go_wp2_with fail
    refine (HC.out _).mono ?_
    rintro e w2 ⟨rfl, x2⟩
    go_wp2_with (go_at_call 104; refine (oneIf_any _ _).mono ?_; rintro e w' ⟨rfl, rfl⟩)
    go_ret
    exact ⟨ret_iD HV.out.symm, X0.out.trans (X1.out.trans x2)⟩

set_option maxRecDepth 100000 in
set_option maxHeartbeats 2000000 in
theorem tp4_any (a : Nat) (b : Int) (n : ByteArray) (w : World) (h : isDg 2 3 n = true) (ha : 2 ≤ a ∧ a ≤ 9) : Calls Tryz.prog 82 #[.agg #[.int .i64 4, .int .i64 (a : Int), .int .i64 b], .string n] w fun e w' => e = .returned (.int .i64 (tv 4 a n)) ∧ Ext w w' := by
  have HW := Lib.hid (isHid_wk h)
  obtain ⟨z1, z2⟩ := isHid_bd h
  have HD := Lib.hid (dgs_lt HW.out)
  have hdl := Lib.hid (dgs_len n)
  have hml : (dgs n).length ≤ maxLen := by have := hdl.out; unfold maxLen; omega
  have X0 := Lib.hid (show Ext w (w.alloc (.cells #[.int .i64 4, .int .i64 (a : Int), .int .i64 b] 26)) from (Ext.refl w).alloc _)
  have HV := Lib.hid (tv_4 a n)
  have HC := Lib.hid (fun w => numN_any n w HW.out (by omega))
  obtain ⟨y, hy⟩ : ∃ y, y = valT (dgs n) := ⟨_, rfl⟩
  rw [← hy] at HV HC
  clear hy h
  have ha0 : ¬ (a : Int) = 0 := by omega
  have ha1 : ¬ a = 0 := by omega
  go_enter Tryz.func82, Tryz.ntmps82
  go_wp2_with fail
  refine (digitsOf_any n _ HW.out).mono ?_
  rintro e w1 ⟨dv, rfl, hrow, x1⟩
  have HR := Lib.hid hrow
  have X1 := Lib.hid x1
  obtain ⟨da, dc, rfl⟩ := hrow.shape
  obtain ⟨c0, c1, c2⟩ := cl_cells x1
  clear hrow x1
  by_cases h0 : (y : Int) % (a : Int) = 0
  · have hbe : ((y : Int) % (a : Int) == 0) = true := beq_iff_eq.2 h0
    have hbt : (Int.tmod (y : Int) (a : Int) == 0) = true := by rw [Int.tmod_eq_emod_of_nonneg (by omega)]; exact hbe
    have HW2 := Lib.hid (HV.out.trans (if_pos h0))
    clear h0
    go_wp2
    go_region_with (first | (go_at_call 106; refine (HC.out _).mono ?_; rintro e w2 ⟨rfl, x2⟩; have X2 := Lib.hid ((ext_drewN X1.out _).trans x2); obtain ⟨d0, d1, d2⟩ := cl_cells X2.out; clear x2) | (go_at_call 104; refine (oneIf_t _).mono ?_; rintro e w' ⟨rfl, rfl⟩))
    all_goals go_wp2
    all_goals go_ret
    all_goals exact ⟨ret_iD HW2.out.symm, X0.out.trans X2.out⟩
  · have hbe : ((y : Int) % (a : Int) == 0) = false := beq_eq_false_iff_ne.2 h0
    have hbt : (Int.tmod (y : Int) (a : Int) == 0) = false := by rw [Int.tmod_eq_emod_of_nonneg (by omega)]; exact hbe
    have HW2 := Lib.hid (HV.out.trans (if_neg h0))
    clear h0
    go_wp2
    go_region_with (first | (go_at_call 106; refine (HC.out _).mono ?_; rintro e w2 ⟨rfl, x2⟩; have X2 := Lib.hid ((ext_drewN X1.out _).trans x2); obtain ⟨d0, d1, d2⟩ := cl_cells X2.out; clear x2) | (go_at_call 104; refine (oneIf_f _).mono ?_; rintro e w' ⟨rfl, rfl⟩))
    all_goals go_wp2
    all_goals go_ret
    all_goals exact ⟨ret_iD HW2.out.symm, X0.out.trans X2.out⟩

set_option maxRecDepth 100000 in
set_option maxHeartbeats 2000000 in
theorem tp5_any (a b : Int) (n : ByteArray) (w : World) (h : isDg 2 3 n = true) : Calls Tryz.prog 82 #[.agg #[.int .i64 5, .int .i64 a, .int .i64 b], .string n] w fun e w' => e = .returned (.int .i64 (tv 5 a n)) ∧ Ext w w' := by
  have HW := Lib.hid (isHid_wk h)
  obtain ⟨z1, z2⟩ := isHid_bd h
  have HD := Lib.hid (dgs_lt HW.out)
  have hdl := Lib.hid (dgs_len n)
  have hml : (dgs n).length ≤ maxLen := by have := hdl.out; unfold maxLen; omega
  have X0 := Lib.hid (show Ext w (w.alloc (.cells #[.int .i64 5, .int .i64 a, .int .i64 b] 26)) from (Ext.refl w).alloc _)
  have HV := Lib.hid (tv_5 a n)
  have HCD := Lib.hid (compact_dif (dgs n) HD.out (by have := hdl.out; omega))
  have hsl := Lib.hid (srtI_len (ints (dgs n)))
  have hil := Lib.hid (ints_len (dgs n))
  clear h
  go_enter Tryz.func82, Tryz.ntmps82
  go_wp2_with fail
  refine (digitsOf_any n _ HW.out).mono ?_
  rintro e w1 ⟨dv, rfl, hrow, x1⟩
  have HR := Lib.hid hrow
  have X1 := Lib.hid x1
  obtain ⟨da, dc, rfl⟩ := hrow.shape
  obtain ⟨c0, c1, c2⟩ := cl_cells x1
  clear hrow x1
  obtain ⟨g, rfl, hg1, hg2, hg3, hg4⟩ := RowP.at HR.out 0 (by have := hdl.out; omega)
  have HRI := Lib.hid (RowP.rowI HR.out)
  clear hg3 hg4
  go_wp2_with fail
  refine (sortI_any _ g _ dc (ints (dgs n)) w1 hil.out (by have := hdl.out; omega) HRI.out).mono ?_
  rintro e w2 ⟨rfl, r2, hgr⟩
  have X2 : Ext _ w2 := ext_grown X1.out hgr (by intro j hj; cases hj; exact hg1)
  have R2 := Lib.hid r2
  have HTK := Lib.hid (show (srtI (ints (dgs n))).take (dgs n).length = srtI (ints (dgs n)) from List.take_of_length_le (by have := hsl.out; have := hil.out; omega))
  have HCC := Lib.hid (fun (vs : List Value) (q : Nat) => ext_setCells hg1 vs 0 (w2.drewN q) (ext_drewN X2 q))
  have hlz : (dgs n).length = (srtI (ints (dgs n))).length := by have := hsl.out; have := hil.out; omega
  have HCL := Lib.hid (Go.Proofs.Tryz.slices_Compact_int_cells g 0 (dgs n).length dc (srtI (ints (dgs n))) w2 (Nat.le_of_eq hlz) (by have := hdl.out; omega) (by
      rcases HR.out.2 with ⟨h9, _⟩ | ⟨g', cap', cur, hv, _, _, h9, _⟩
      · cases h9
      · injection hv with e1 e2 e3
        omega) (fun j hj => by
      obtain ⟨g', e, _, _, hc, _⟩ := RowI.at (hlz ▸ R2.out) j hj
      injection e with e
      injection e with e
      subst e
      rw [Nat.zero_add, hc, List.getD_eq_getElem?_getD, List.getElem?_eq_getElem hj]
      rfl) (fun j hj => by
      obtain ⟨g', e, _, _, _, hf⟩ := RowI.at (hlz ▸ R2.out) j (by omega)
      injection e with e
      injection e with e
      subst e
      rw [Nat.zero_add]
      exact hf))
  rw [HTK.out, HCD.out] at HCL
  clear hgr r2 hg1 hlz
  go_wp2_with fail
  refine HCL.out.mono ?_
  rintro e w3 ⟨rfl, q, rfl⟩
  go_wp2
  go_ret
  exact ⟨ret_iD HV.out.symm, X0.out.trans (HCC.out _ q)⟩

theorem tp_any (k a b : Int) (n : ByteArray) (w : World) (h : isDg 2 3 n = true) (hk : inW k 0 5 = true) (ho : tvOk k a n) : Calls Tryz.prog 82 #[.agg #[.int .i64 k, .int .i64 a, .int .i64 b], .string n] w fun e w' => e = .returned (.int .i64 (tv k a n)) ∧ Ext w w' := by
  have hb := inW_bd' hk
  have h6 : k = 0 ∨ k = 1 ∨ k = 2 ∨ k = 3 ∨ k = 4 ∨ k = 5 := by omega
  rcases h6 with rfl | rfl | rfl | rfl | rfl | rfl
  · exact tp0_any a b n w h
  · obtain ⟨h1, h2⟩ := ho.1 rfl
    obtain ⟨c, rfl⟩ := Int.eq_ofNat_of_zero_le h1
    exact tp1_any c b n w h (by omega)
  · exact tp2_any a b n w h
  · exact tp3_any a b n w h
  · obtain ⟨h1, h2⟩ := ho.2 rfl
    obtain ⟨c, rfl⟩ := Int.eq_ofNat_of_zero_le (show 0 ≤ a by omega)
    exact tp4_any c b n w h (by omega)
  · exact tp5_any a b n w h
end Go.Proofs.YtpdnpphjlnlneaaGreatDoor
