/- The sticking letters by which a text is shown so: both sides. No conditions. -/
import Derived.Test.YtcfoicogaggkbaaCan
namespace Go.Proofs.Ytcfoicogaggkbaa
open Go.RowKit

/-! ### StuckFor -/
def sfT (t s : ByteArray) : Bool := decide (shw (by2 nob (sB t.data.toList s.data.toList)) t.data.toList = s.data.toList)
def sfOk (t s : ByteArray) : Bool := csOk t s && sfT t s
def sfV (t s : ByteArray) : ByteArray := if sfOk t s then tB (ltB (sBc t s) 26) else ⟨#[]⟩
theorem sfV_no {t s : ByteArray} (h : sfOk t s = false) : sfV t s = ⟨#[]⟩ := by unfold sfV; rw [h]; rfl
theorem sfV_yes {t s : ByteArray} (h : sfOk t s = true) : sfV t s = tB (ltB (sBc t s) 26) := by unfold sfV; rw [h]; rfl
theorem sfOk_c {t s : ByteArray} (h : csOk t s = false) : sfOk t s = false := by unfold sfOk; rw [h]; rfl
theorem sfOk_t {t s : ByteArray} (h : sfT t s = false) : sfOk t s = false := by unfold sfOk; rw [h, Bool.and_false]
theorem sfOk_y {t s : ByteArray} (h : csOk t s = true) (h2 : sfT t s = true) : sfOk t s = true := by unfold sfOk; rw [h, h2]; rfl
/-- The program's two tests are this one. -/
theorem sfT_iff {t s : ByteArray} (ht : isT 20 t = true) : sfT t s = (decide (tB (shw (fIc t s) t.data.toList) = s) && sameR (rwF (fIc t s)) (swR ⟨#[]⟩ (tB (ltB (fun c => decide (fIc t s c = 2)) 26)))) := by
  have h1 := stuck_iff t.data.toList s.data.toList
  have h2 := (same_stuck t s).trans (all_let ht 0 (by decide))
  unfold sfT
  rw [Bool.eq_iff_iff, Bool.and_eq_true, decide_eq_true_iff, decide_eq_true_iff, ← h1, h2, tB_eq, fIc_eq]
theorem sf_set {t s : ByteArray} (h : tB (shw (fIc t s) t.data.toList) = s) : tB (ltB (fun c => decide (fIc t s c = 2)) 26) = tB (ltB (sBc t s) 26) := by
  rw [tB_eq, fIc_eq] at h
  exact congrArg tB (ltB_congr (fun c => stuck_set h c) 26)
theorem ret_sBsf {a a' : ByteArray} {b b' : Bool} (h : a = a') (h2 : b = b') : Ending.returned (.tuple #[.string a, .bool b]) = .returned (.tuple #[.string a', .bool b']) := by rw [h, h2]

set_option maxRecDepth 100000 in
set_option maxHeartbeats 4000000 in
theorem sfI_any (t s : ByteArray) (w : World) (ht : t.size ≤ maxLen) (hs : s.size ≤ maxLen) : Calls Try.prog 19 #[.string t, .string s] w fun e w' => e = .returned (.tuple #[.string (sfV t s), .bool (sfOk t s)]) ∧ Ext w w' := by
  cases h1 : isT 20 t
  · have HO := Lib.hid (sfOk_c (csOk_t (s := s) h1))
    go_enter Try.func19, Try.ntmps19
    go_wp2_with (go_at_call 39; refine (isTyped_any _ _ ht).mono ?_; rintro e w1 ⟨rfl, x1⟩; rw [h1])
    go_ret2
    exact ⟨ret_sBsf (sfV_no HO.out).symm HO.out.symm, x1⟩
  cases h2 : isT 40 s
  · have HO := Lib.hid (sfOk_c (csOk_s (t := t) h2))
    go_enter Try.func19, Try.ntmps19
    go_wp2_with (first | (go_at_call 39; refine (isTyped_any _ _ ht).mono ?_; rintro e w1 ⟨rfl, x1⟩; rw [h1]) | (go_at_call 40; refine (isShown_any _ _ hs).mono ?_; rintro e w2 ⟨rfl, x2⟩; rw [h2]))
    go_ret2
    exact ⟨ret_sBsf (sfV_no HO.out).symm HO.out.symm, x1.trans x2⟩
  have HOY := Lib.hid (fun h => sfOk_y (csOk_y h1 h2) h)
  have HON := Lib.hid (fun h => sfOk_t (t := t) (s := s) h)
  have HTI := Lib.hid (sfT_iff (s := s) h1)
  have HSE := Lib.hid (sf_set (t := t) (s := s))
  have HVY := Lib.hid (sfV_yes (t := t) (s := s))
  have HVN := Lib.hid (sfV_no (t := t) (s := s))
  have HS := Lib.hid (fun w => showsFor_any t s w h1 h2)
  have HL := Lib.hid (fun w => lettersAt_any (fIc t s) 2 2 w rfl)
  have HNQ := Lib.hid (fun w => neqR (rwF (fIc t s)) (swR ⟨#[]⟩ (tB (ltB (fun c => decide (fIc t s c = 2)) 26))) w)
  have HTD := Lib.hid (ltB_isT (fun c => decide (fIc t s c = 2)))
  have HEY := Lib.hid (show isT 20 (⟨#[]⟩ : ByteArray) = true from rfl)
  obtain ⟨D, hD⟩ : ∃ D, D = tB (ltB (fun c => decide (fIc t s c = 2)) 26) := ⟨_, rfl⟩
  rw [← hD] at HL HNQ HTD HTI HSE
  clear hD
  have HSA := Lib.hid (fun w => showsW_any ⟨#[]⟩ D w HEY.out HTD.out)
  obtain ⟨RR, hRR⟩ : ∃ RR, RR = (row26 (rwF (fIc t s))).toArray := ⟨_, rfl⟩
  obtain ⟨RA, hRA⟩ : ∃ RR, RR = (row26 (swR ⟨#[]⟩ D)).toArray := ⟨_, rfl⟩
  have HRR := Lib.hid hRR
  have HRA := Lib.hid hRA
  have hRRs : RR.size = 26 := by rw [hRR, List.size_toArray, row26_len]
  have hRAs : RA.size = 26 := by rw [hRA, List.size_toArray, row26_len]
  obtain ⟨sm, hsm⟩ : ∃ b, b = sameR (rwF (fIc t s)) (swR ⟨#[]⟩ D) := ⟨_, rfl⟩
  obtain ⟨b, hb⟩ : ∃ b, b = decide (tB (shw (fIc t s) t.data.toList) = s) := ⟨_, rfl⟩
  have HB := Lib.hid (fun h : b = true => of_decide_eq_true (hb ▸ h))
  rw [← hRR, ← hb] at HS
  rw [← hRR] at HL HNQ
  rw [← hRA, ← hsm] at HNQ
  rw [← hRA] at HSA
  rw [← hsm, ← hb] at HTI
  obtain ⟨dj, hdj⟩ : ∃ b, b = disj (⟨#[]⟩ : ByteArray).data.toList D.data.toList := ⟨_, rfl⟩
  rw [← hdj] at HSA
  have hgd := guardR
  have HNR := Lib.hid (show (Try.prog.info? 36).map (·.size) = some RR.size by rw [hRRs]; kernel_rfl)
  have HNA := Lib.hid (show (Try.prog.info? 36).map (·.size) = some RA.size by rw [hRAs]; kernel_rfl)
  clear hRR hRA hb hsm hdj
  go_enter Try.func19, Try.ntmps19
  go_wp2_with (first | (go_at_call 39; refine (isTyped_any _ _ ht).mono ?_; rintro e w1 ⟨rfl, x1⟩; rw [h1]) | (go_at_call 40; refine (isShown_any _ _ hs).mono ?_; rintro e w2 ⟨rfl, x2⟩; rw [h2]) | (go_at_call 41; refine (HS.out _).mono ?_; rintro e w3 ⟨rfl, x3⟩; obtain ⟨W6, st6, T6, X6, _⟩ := new26 w w3 RR _ HRR.out ((x1.trans x2).trans x3)) | (refine wpList_load_row rfl _ _ rfl (w3.heap.size) rfl 36 RR (0, 0) _ (by rw [HRR.out]; exact T6) Try.underlying36 rfl HNR.out ?_) | (go_at_call 42; refine (HL.out _).mono ?_; rintro e w7 ⟨rfl, x7⟩))
  refine (HSA.out _).mono ?_
  rintro e w8 ⟨rfl, x8⟩
  obtain ⟨W9, st9, T9, X9, Y9⟩ := new26 w w8 RA _ HRA.out ((X6.trans x7).trans x8)
  have G6 := Lib.hid (show W9.heap[w3.heap.size]? = some (.cells RR 36) by rw [HRR.out]; exact ((T6.ext x7).ext x8).ext Y9)
  have G9 := Lib.hid (show W9.heap[w8.heap.size]? = some (.cells RA 36) by rw [HRA.out]; exact T9)
  clear st6 T6 T9 hRRs
  obtain ⟨C1, hC1⟩ : ∃ C, C = w3.heap.size := ⟨_, rfl⟩
  rw [← hC1] at G6 ⊢
  clear hC1
  cases b
  · have HO := Lib.hid (HON.out (by rw [HTI.out]; rfl))
    go_wp2_with fail
    go_ret2
    exact ⟨ret_sBsf (HVN.out HO.out).symm HO.out.symm, X9⟩
  · have hnq := HNQ.out
    cases sm
    · have HO := Lib.hid (HON.out (by rw [HTI.out]; rfl))
      go_wp2_with (first | (refine wpList_load_rowG (by first | rfl | kernel_rfl) _ _ rfl C1 rfl 36 RR (0, 0) _ G6.out Try.underlying36 rfl HNR.out ?_) | (refine wpList_load_rowG (by first | rfl | kernel_rfl) _ _ rfl w8.heap.size rfl 36 RA (0, 0) _ G9.out Try.underlying36 rfl HNA.out ?_))
      go_ret2
      exact ⟨ret_sBsf (HVN.out HO.out).symm HO.out.symm, X9⟩
    · have HO := Lib.hid (HOY.out (by rw [HTI.out]; rfl))
      have HD := Lib.hid (HSE.out (HB.out rfl))
      go_wp2_with (first | (refine wpList_load_rowG (by first | rfl | kernel_rfl) _ _ rfl C1 rfl 36 RR (0, 0) _ G6.out Try.underlying36 rfl HNR.out ?_) | (refine wpList_load_rowG (by first | rfl | kernel_rfl) _ _ rfl w8.heap.size rfl 36 RA (0, 0) _ G9.out Try.underlying36 rfl HNA.out ?_))
      go_ret2
      exact ⟨ret_sBsf (by rw [HVY.out HO.out]; exact HD.out) HO.out.symm, X9⟩

set_option maxRecDepth 100000 in
set_option maxHeartbeats 4000000 in
theorem sfS_any (t s : ByteArray) (w : World) (ht : t.size ≤ maxLen) (hs : s.size ≤ maxLen) : Calls Try.prog 18 #[.string t, .string s] w fun e w' => e = .returned (.tuple #[.string (sfV t s), .bool (sfOk t s)]) ∧ Ext w w' := by
  have HTW := Lib.hid (show ∀ w, Calls Try.prog 36 #[.string t, .string s] w fun e w' => e = .returned (.bool (csOk t s)) ∧ w = w' from fun w => two_any t s w ht hs)
  cases h : csOk t s
  · have HO := Lib.hid (sfOk_c h)
    rw [h] at HTW
    go_enter Try.func18, Try.ntmps18
    go_wp2_with (go_at_call 36; refine (HTW.out _).mono ?_; rintro e w1 ⟨rfl, rfl⟩)
    go_ret2
    exact ⟨ret_sBsf (sfV_no HO.out).symm HO.out.symm, Ext.refl _⟩
  rw [h] at HTW
  obtain ⟨h1, h2⟩ := csOk_p h
  have h20 := isT_size h1
  have h40 := isT_size h2
  have HC := Lib.hid (stuck_eq (s := s) h1)
  have HOY := Lib.hid (fun k => sfOk_y h k)
  have HON := Lib.hid (fun k => sfOk_t (t := t) (s := s) k)
  have HVY := Lib.hid (sfV_yes (t := t) (s := s))
  have HVN := Lib.hid (sfV_no (t := t) (s := s))
  have HTL := Lib.hid (fun w => tell_any t s w h20 h40)
  have z1 : (tB (ltB (dBc t s) 26)).size ≤ maxLen := by rw [tB_size]; have := ltB_len (dBc t s) 26; unfold maxLen; omega
  have z2 : (tB (ltB (sBc t s) 26)).size ≤ maxLen := by rw [tB_size]; have := ltB_len (sBc t s) 26; unfold maxLen; omega
  have z0 : (⟨#[]⟩ : ByteArray).size ≤ maxLen := Nat.zero_le _
  obtain ⟨D, hD⟩ : ∃ D, D = tB (ltB (dBc t s) 26) := ⟨_, rfl⟩
  obtain ⟨U, hU⟩ : ∃ U, U = tB (ltB (sBc t s) 26) := ⟨_, rfl⟩
  rw [← hD, ← hU] at HTL
  rw [← hU] at HC HVY
  rw [← hD] at z1
  rw [← hU] at z2
  clear hD hU
  have HSW := Lib.hid (fun w => showS_any t ⟨#[]⟩ U w h20 z0 z2)
  have HQ := Lib.hid (beqU (tB (shw (by2 (hasB (⟨#[]⟩ : ByteArray).data.toList) (hasB U.data.toList)) t.data.toList)) s)
  obtain ⟨Q, hQ⟩ : ∃ Q, Q = tB (shw (by2 (hasB (⟨#[]⟩ : ByteArray).data.toList) (hasB U.data.toList)) t.data.toList) := ⟨_, rfl⟩
  rw [← hQ] at HSW HQ HC
  clear hQ
  have HF := Lib.hid (show (Q.toList == s.toList) = sfT t s by rw [HQ.out]; exact decide_eq_decide.2 HC.out)
  cases hT : sfT t s
  · have HO := Lib.hid (HON.out hT)
    have t1 : (Q.toList == s.toList) = false := by rw [HF.out, hT]
    have t2 : ¬ Q.toList = s.toList := beq_eq_false_iff_ne.1 t1
    clear HQ HC
    go_enter Try.func18, Try.ntmps18
    go_wp2_with (first | (go_at_call 36; refine (HTW.out _).mono ?_; rintro e w1 ⟨rfl, rfl⟩) | (go_at_call 37; refine (HTL.out _).mono ?_; rintro e w2 ⟨rfl, rfl⟩) | (go_at_call 38; refine (HSW.out _).mono ?_; rintro e w3 ⟨rfl, x3⟩))
    go_ret2
    exact ⟨ret_sBsf (HVN.out HO.out).symm HO.out.symm, x3⟩
  · have HO := Lib.hid (HOY.out hT)
    have t1 : (Q.toList == s.toList) = true := by rw [HF.out, hT]
    have t2 : Q.toList = s.toList := beq_iff_eq.1 t1
    clear HQ HC
    go_enter Try.func18, Try.ntmps18
    go_wp2_with (first | (go_at_call 36; refine (HTW.out _).mono ?_; rintro e w1 ⟨rfl, rfl⟩) | (go_at_call 37; refine (HTL.out _).mono ?_; rintro e w2 ⟨rfl, rfl⟩) | (go_at_call 38; refine (HSW.out _).mono ?_; rintro e w3 ⟨rfl, x3⟩))
    go_ret2
    exact ⟨ret_sBsf (by rw [HVY.out HO.out]) HO.out.symm, x3⟩
end Go.Proofs.Ytcfoicogaggkbaa
