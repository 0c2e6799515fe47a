/- Counts of numbers that begin with a digit: both sides. No conditions. -/
import Derived.Test.YtmpajijnpoekgacCnt
namespace Go.Proofs.Ytmpajijnpoekgac
open Go.RowKit

theorem rows10_range {B : Nat} {w : World} {g cap n : Nat} {T : Nat → Nat → Nat} (h : RowsT B w (.slice (some ⟨g, 0, none⟩) n cap) n T) (r : Nat) (hr : r < n) : w.rangeAt g (r * 10) (rowI (T r)) := by
  intro j v hv
  have hj : j < 10 := by
    rcases Nat.lt_or_ge j 10 with h | h
    · exact h
    · rw [List.getElem?_eq_none (by rw [rowI_len]; exact h)] at hv; cases hv
  rw [h.at r j hr hj]
  rw [show (rowI (T r))[j]? = some (.int .i64 (T r j : Int)) from rowN_at _ _ _ hj] at hv
  exact hv

set_option maxRecDepth 100000 in
set_option maxHeartbeats 4000000 in
theorem numbersOf_any (p t : Nat) (w : World) (hp : p < 4) (ht : t < 40) : Calls Try.prog 59 #[.string (pcT p), .int .i64 ((t + 1 : Nat) : Int)] w fun r w' => r = .returned (.agg (rowI (wyF p (eF 0) t)).toArray) ∧ Ext w w' := by
  have hti : (((t + 1 : Nat) : Int)) - 1 = (t : Int) := by omega
  have htw : wrap64 ((t : Int) + 1 - 1) = (t : Int) := by unfold wrap64; omega
  obtain ⟨t1, ht1⟩ : ∃ t1, t1 = t + 1 := ⟨_, rfl⟩
  have Wt : wrap64 ((t1 : Int) - 1) = (t : Int) := by unfold wrap64; omega
  have Wt2 : (t1 : Int) - 1 = (t : Int) := by omega
  have hltt : (t : Int) < (t1 : Int) := by omega
  have hltt2 : t < t1 := by omega
  rw [← ht1]
  have HT1 := Lib.hid ht1
  clear hti htw ht1
  have TR0 := Lib.hid (show TabD (w.alloc (.cells #[.int .i64 0, .int .i64 0, .int .i64 0, .int .i64 0, .int .i64 0, .int .i64 0, .int .i64 0, .int .i64 0, .int .i64 0, .int .i64 0] 46)) w.heap.size (fun _ => 0) by unfold TabD; rw [zero10]; exact heap_alloc_new w _)
  have X0 : Ext w (w.alloc (.cells #[.int .i64 0, .int .i64 0, .int .i64 0, .int .i64 0, .int .i64 0, .int .i64 0, .int .i64 0, .int .i64 0, .int .i64 0, .int .i64 0] 46)) := (Ext.refl _).alloc _
  go_enter Try.func59, Try.ntmps59
  go_wp2_with fail
  refine (movesOf_any p _ hp).mono ?_
  rintro e w1 ⟨vs, rfl, hvs, x1⟩
  go_wp2_with fail
  refine (anyEnd_any _).mono ?_
  rintro e w2 ⟨rfl, x2⟩
  have hways := waysOn_any p (eF 0) vs _ t w2 (hvs.ext x2) (eF_le 0) (by omega)
  obtain ⟨EA, hEA⟩ : ∃ EA, EA = (rowI (eF 0)).toArray := ⟨_, rfl⟩
  rw [← hEA] at hways ⊢
  obtain ⟨VA, hVA⟩ : ∃ VA, VA = vs.toArray := ⟨_, rfl⟩
  rw [← hVA] at hways ⊢
  clear hEA hVA hvs
  rw [← HT1.out] at hways
  have HWY := Lib.hid hways
  clear hways
  go_wp2_with fail
  refine HWY.out.mono ?_
  rintro e w3 ⟨v, rfl, hv, x3⟩
  obtain ⟨g, cap, rfl, _, _⟩ := hv.shape (by omega)
  obtain ⟨CL, hCL⟩ : ∃ CL, CL = rowI (wyF p (eF 0) t) := ⟨_, rfl⟩
  have hcl : CL.length = 10 := by rw [hCL, rowI_len]
  have HRG := Lib.hid (show w3.rangeAt g (t * 10) CL by rw [hCL]; exact rows10_range hv t hltt2)
  have TR3 := Lib.hid (((TR0.out.ext x1).ext x2).ext x3)
  have X3 : Ext w w3 := ((X0.trans x1).trans x2).trans x3
  obtain ⟨W4, hst, hg4, X4⟩ := dr_store w3 w.heap.size (fun _ => 0) (fun j => (wyF p (eF 0) t j : Int)) TR3.out X3 (Nat.le_refl _)
  have hst2 : (storeCells ⟨w.heap.size, 0, none⟩ CL).run Try.prog w3 = .ok () W4 := by rw [hCL]; exact hst
  have hi10 := show (Try.prog.info? 46).map (·.size) = some CL.length by rw [hcl]; kernel_rfl
  have HN := Lib.hid (show (Try.prog.info? 46).map (·.size) = some CL.toArray.size by rw [List.size_toArray, hcl]; kernel_rfl)
  have G4 := Lib.hid (show W4.heap[w.heap.size]? = some (.cells CL.toArray 46) by rw [hCL]; exact hg4)
  have HI10 := Lib.hid hi10
  have HCL := Lib.hid hCL
  clear hst hg4 hCL hv hi10
  go_wp2_with (first | (refine wpList_load_mid rfl _ _ rfl g (t * 10) rfl CL _ HRG.out Try.underlying46 rfl HI10.out ?_))
  exact bodyPost_ret (results_cell_row (P := Try.prog) (p := 4) (ty := 46) rfl _ _ w.heap.size 46 CL.toArray (0, 0) _ rfl G4.out Try.underlying46 rfl HN.out) rfl ⟨by rw [HCL.out], X4⟩

set_option maxRecDepth 100000 in
set_option maxHeartbeats 4000000 in
theorem wkCount_any (p x t i : Nat) (y : Int) (w : World) (hp : p < 4) (hx0 : x = 0 ∨ (48 ≤ x ∧ x ≤ 57)) (ht : t < 40) (hi : i < 10) (hy : y = (i : Int) + 48) : Calls Try.prog 57 #[.string (pcT p), .int .u8 y, .int .u8 x, .int .i64 t] w fun e w' => e = .returned (.tuple #[.int .i64 (tellV (wyF p (eF x) t i) : Nat), .bool (tellOk (wyF p (eF x) t i))]) ∧ Ext w w' := by
  subst hy
  have Wi : IntKind.u8.wrap ((i : Int) + 48 - 48) = (i : Int) := by rw [IntWalk.u8_in _ (by omega)]; omega
  have Wi2 : IntKind.u8.wrap (i : Int) = (i : Int) := IntWalk.u8_in _ (by omega)
  have hii : (i : Int) < 10 := by omega
  have hi0 : (0 : Int) ≤ (i : Int) := by omega
  have hlt : (t : Int) < ((t + 1 : Nat) : Int) := by omega
  have hlt2 : (t : Int) < (t : Int) + 1 := by omega
  go_enter Try.func57, Try.ntmps57
  go_wp2_with fail
  refine (wkTable_any p x t w hp hx0 (by omega)).mono ?_
  rintro e w1 ⟨v, U, rfl, hg, x1⟩
  obtain ⟨a, cap, rfl⟩ := hg.shape
  obtain ⟨g, rfl, _, _, hcell⟩ := hg.at t (by omega)
  have c1 := hcell w1 (Ext.refl _) t (by omega)
  have c2 := (hg.inner t (by omega)).at i hi
  obtain ⟨u, hu⟩ : ∃ u, u = U t := ⟨_, rfl⟩
  rw [← hu] at c1 c2
  obtain ⟨c, hc⟩ : ∃ c, c = wyF p (eF x) t i := ⟨_, rfl⟩
  rw [← hc] at c2
  have HCC := Lib.hid hc
  clear hc hu hcell hg
  by_cases h : c ≤ mxN
  · have HV := Lib.hid (tell_yes h)
    have hi : ¬ (1000000000000000 : Int) < (c : Int) := by unfold mxN at h; omega
    clear h
    go_wp2
    go_ret2
    exact ⟨ret_IB (by rw [← HCC.out, HV.out.1]) (by rw [← HCC.out, HV.out.2]), x1⟩
  · have HV := Lib.hid (tell_no h)
    have hi : (1000000000000000 : Int) < (c : Int) := by unfold mxN at h; omega
    clear h
    go_wp2
    go_ret2
    exact ⟨ret_IB (by rw [← HCC.out, HV.out.1]; rfl) (by rw [← HCC.out, HV.out.2]), x1⟩

theorem ixRow (A : Array Value) (k : Nat) (hk : k < 10) (v : Value) (hv : A[k]? = some v) (w : World) : (Instr.index 46 (.agg A) (.int .i64 (k : Int))).run Try.prog w = .ok v w := by
  have h2 : (0 : Int) ≤ (k : Int) := by omega
  simp [go_sem, Instr.index, part, hv]
  intro h
  omega
theorem rowI_at (f : Nat → Nat) (k : Nat) (h : k < 10) : (rowI f).toArray[k]? = some (.int .i64 (f k : Int)) := by rw [List.getElem?_toArray]; exact rowN_at _ _ _ h

/-! ### CountNumbers -/
def cnC (s t : ByteArray) (n : Int) : Nat := wyF (pcI s) (eF 0) (n - 1).toNat (dg1 t)
def cnG (s t : ByteArray) (n : Int) : Bool := isAsk s t && inW n 1 40
def cnOk (s t : ByteArray) (n : Int) : Bool := cnG s t n && tellOk (cnC s t n)
def cnV (s t : ByteArray) (n : Int) : Int := if cnG s t n then (tellV (cnC s t n) : Nat) else 0
theorem cn_no {s t : ByteArray} {n : Int} (h : cnG s t n = false) : cnV s t n = 0 ∧ cnOk s t n = false := by unfold cnV cnOk; rw [h]; exact ⟨rfl, rfl⟩
theorem cn_yes {s t : ByteArray} {n : Int} (h : cnG s t n = true) : cnV s t n = (tellV (cnC s t n) : Nat) ∧ cnOk s t n = tellOk (cnC s t n) := by unfold cnV cnOk; rw [h]; exact ⟨rfl, rfl⟩
theorem cnG_a {s t : ByteArray} {n : Int} (h : isAsk s t = false) : cnG s t n = false := by unfold cnG; rw [h]; rfl
theorem cnG_n {s t : ByteArray} {n : Int} (h : inW n 1 40 = false) : cnG s t n = false := by unfold cnG; rw [h, Bool.and_false]
theorem cnG_y {s t : ByteArray} {n : Int} (h : isAsk s t = true) (h2 : inW n 1 40 = true) : cnG s t n = true := by unfold cnG; rw [h, h2]; rfl
theorem inW_bd {n lo hi : Int} (h : inW n lo hi = true) : lo ≤ n ∧ n ≤ hi := by unfold inW at h; rw [Bool.and_eq_true] at h; exact ⟨of_decide_eq_true h.1, of_decide_eq_true h.2⟩

set_option maxHeartbeats 1000000 in
theorem cnI_any (s t : ByteArray) (n : Int) (w : World) (hs : s.size ≤ maxLen) (ht : t.size ≤ maxLen) : Calls Try.prog 30 #[.string s, .string t, .int .i64 n] w fun e w' => e = .returned (.tuple #[.int .i64 (cnV s t n), .bool (cnOk s t n)]) ∧ Ext w w' := by
  have X0 : Ext w (w.alloc (.cells #[.string t] 9)) := Below.alloc (Ext.refl _) (Nat.le_refl _) _
  have S0 := Lib.hid (strs1 w t 9 ht)
  cases h : isAsk s t
  · have HV := Lib.hid (cn_no (cnG_a (n := n) h))
    go_enter Try.func30, Try.ntmps30
    go_wp2_with (go_at_call 42; refine (canWalk_any _ _ _ _ S0.out hs).mono ?_; rintro e w1 ⟨rfl, x1⟩; rw [cw1, h])
    go_ret2
    exact ⟨ret_IB HV.out.1.symm HV.out.2.symm, X0.trans x1⟩
  cases hn : inW n 1 40
  · have HV := Lib.hid (cn_no (cnG_n (s := s) (t := t) hn))
    go_enter Try.func30, Try.ntmps30
    go_wp2_with (first | (go_at_call 42; refine (canWalk_any _ _ _ _ S0.out hs).mono ?_; rintro e w1 ⟨rfl, x1⟩; rw [cw1, h]) | (go_at_call 55; refine (isLong_any _ _ _).mono ?_; rintro e w' ⟨rfl, rfl⟩; rw [hn]))
    go_ret2
    exact ⟨ret_IB HV.out.1.symm HV.out.2.symm, X0.trans x1⟩
  have HV := Lib.hid (cn_yes (cnG_y h hn))
  obtain ⟨h1, h2, h3⟩ := isAsk_parts h
  obtain ⟨p, hp, rfl⟩ := isP_yes h1
  obtain ⟨d1, d2⟩ := dg1_of h2 h3
  have HD := Lib.hid (fun w => digitOf_any t (dg1 t) w (by omega) d1 d2)
  obtain ⟨n1, n2⟩ := inW_bd hn
  obtain ⟨m, rfl⟩ : ∃ m : Nat, n = ((m + 1 : Nat) : Int) := ⟨(n - 1).toNat, by omega⟩
  have hm : m < 40 := by omega
  have HCN := Lib.hid (show cnC (pcT p) t ((m + 1 : Nat) : Int) = wyF p (eF 0) m (dg1 t) by unfold cnC; rw [pcI_T hp]; congr 1; omega)
  have HRI := Lib.hid (rowI_at (wyF p (eF 0) m) (dg1 t) d1)
  have HNO := Lib.hid (fun w => numbersOf_any p m w hp hm)
  obtain ⟨A, hA⟩ : ∃ A, A = (rowI (wyF p (eF 0) m)).toArray := ⟨_, rfl⟩
  rw [← hA] at HRI HNO
  rw [← HCN.out] at HRI
  obtain ⟨d, hd⟩ : ∃ d, d = dg1 t := ⟨_, rfl⟩
  rw [← hd] at HD HRI d1
  have hix := fun w => ixRow A d d1 _ HRI.out w
  obtain ⟨c, hc⟩ : ∃ c, c = cnC (pcT p) t ((m + 1 : Nat) : Int) := ⟨_, rfl⟩
  rw [← hc] at hix HV
  have HTT := Lib.hid (fun w => toTell_any c w)
  obtain ⟨n, hnn⟩ : ∃ n : Int, n = ((m + 1 : Nat) : Int) := ⟨_, rfl⟩
  rw [← hnn] at HV HNO hn ⊢
  clear hA hd hc hnn n1 n2 d2 HRI HCN
  have HH := Lib.hid h
  clear h
  go_enter Try.func30, Try.ntmps30
  go_wp2_with (first | (go_at_call 42; refine (canWalk_any _ _ _ _ S0.out hs).mono ?_; rintro e w1 ⟨rfl, x1⟩; rw [cw1, HH.out]) | (go_at_call 55; refine (isLong_any _ _ _).mono ?_; rintro e w' ⟨rfl, rfl⟩; rw [hn]) | (go_at_call 59; refine (HNO.out _).mono ?_; rintro e w2 ⟨rfl, x2⟩) | (go_at_call 45; refine (HD.out _).mono ?_; rintro e w' ⟨rfl, rfl⟩) | (go_at_call 58; refine (HTT.out _).mono ?_; rintro e w' ⟨rfl, rfl⟩))
  go_ret2
  exact ⟨ret_IB HV.out.1.symm HV.out.2.symm, (X0.trans x1).trans x2⟩

set_option maxHeartbeats 1000000 in
theorem cnS_any (s t : ByteArray) (n : Int) (w : World) (_hs : s.size ≤ maxLen) (ht : t.size ≤ maxLen) : Calls Try.prog 29 #[.string s, .string t, .int .i64 n] w fun e w' => e = .returned (.tuple #[.int .i64 (cnV s t n), .bool (cnOk s t n)]) ∧ Ext w w' := by
  cases h : isAsk s t
  · have HV := Lib.hid (cn_no (cnG_a (n := n) h))
    go_enter Try.func29, Try.ntmps29
    go_wp2_with (go_at_call 39; refine (asked_any _ _ _ ht).mono ?_; rintro e w1 ⟨rfl, rfl⟩; rw [h])
    go_ret2
    exact ⟨ret_IB HV.out.1.symm HV.out.2.symm, Ext.refl _⟩
  cases hn : inW n 1 40
  · have HV := Lib.hid (cn_no (cnG_n (s := s) (t := t) hn))
    go_enter Try.func29, Try.ntmps29
    go_wp2_with (first | (go_at_call 39; refine (asked_any _ _ _ ht).mono ?_; rintro e w1 ⟨rfl, rfl⟩; rw [h]) | (go_at_call 53; refine (inW_any _ _ _ _).mono ?_; rintro e w' ⟨rfl, rfl⟩; rw [hn]))
    go_ret2
    exact ⟨ret_IB HV.out.1.symm HV.out.2.symm, Ext.refl _⟩
  have HV := Lib.hid (cn_yes (cnG_y h hn))
  obtain ⟨h1, h2, h3⟩ := isAsk_parts h
  obtain ⟨p, hp, rfl⟩ := isP_yes h1
  obtain ⟨d1, d2⟩ := dg1_of h2 h3
  have h0 : 0 < t.size := by omega
  have hix := fun w => ixS0 t h0 w
  rw [d2] at hix
  obtain ⟨n1, n2⟩ := inW_bd hn
  obtain ⟨m, rfl⟩ : ∃ m : Nat, n = ((m + 1 : Nat) : Int) := ⟨(n - 1).toNat, by omega⟩
  have hm : m < 40 := by omega
  have HCN := Lib.hid (show cnC (pcT p) t ((m + 1 : Nat) : Int) = wyF p (eF 0) m (dg1 t) by unfold cnC; rw [pcI_T hp]; congr 1; omega)
  have HCT := Lib.hid (fun w => wkCount_any p 0 m (dg1 t) ((dg1 t : Int) + 48) w hp (.inl rfl) hm d1 rfl)
  rw [← HCN.out] at HCT
  obtain ⟨d, hd⟩ : ∃ d, d = dg1 t := ⟨_, rfl⟩
  rw [← hd] at HCT hix
  obtain ⟨c, hc⟩ : ∃ c, c = cnC (pcT p) t ((m + 1 : Nat) : Int) := ⟨_, rfl⟩
  rw [← hc] at HCT HV
  obtain ⟨n, hnn⟩ : ∃ n : Int, n = ((m + 1 : Nat) : Int) := ⟨_, rfl⟩
  have Wn : wrap64 (n - 1) = (m : Int) := by unfold wrap64; omega
  have Wn2 : n - 1 = (m : Int) := by omega
  rw [← hnn] at HV hn ⊢
  clear hd hc hnn n1 n2 d2 HCN
  have HH := Lib.hid h
  clear h
  go_enter Try.func29, Try.ntmps29
  go_wp2_with (first | (go_at_call 39; refine (asked_any _ _ _ ht).mono ?_; rintro e w1 ⟨rfl, rfl⟩; rw [HH.out]) | (go_at_call 53; refine (inW_any _ _ _ _).mono ?_; rintro e w' ⟨rfl, rfl⟩; rw [hn]) | (go_at_call 57; refine (HCT.out _).mono ?_; rintro e w2 ⟨rfl, x2⟩))
  go_ret2
  exact ⟨ret_IB HV.out.1.symm HV.out.2.symm, x2⟩
end Go.Proofs.Ytmpajijnpoekgac
