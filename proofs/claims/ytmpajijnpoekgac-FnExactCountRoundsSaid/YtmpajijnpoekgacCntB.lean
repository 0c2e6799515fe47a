/- Counts of walks between digits, and of those that come back: both sides. No conditions. -/
import Derived.Test.YtmpajijnpoekgacCntN
import Derived.Deep.RegionWith
namespace Go.Proofs.Ytmpajijnpoekgac
open Go.RowKit

def cbC (s t u : ByteArray) (n : Int) : Nat := wyF (pcI s) (eF (dg1 u + 48)) n.toNat (dg1 t)
def cbG (s t u : ByteArray) (n : Int) : Bool := (isAsk s t && isAsk s u) && inW n 0 39
def cbOk (s t u : ByteArray) (n : Int) : Bool := cbG s t u n && tellOk (cbC s t u n)
def cbV (s t u : ByteArray) (n : Int) : Int := if cbG s t u n then (tellV (cbC s t u n) : Nat) else 0
theorem cb_no {s t u : ByteArray} {n : Int} (h : cbG s t u n = false) : cbV s t u n = 0 ∧ cbOk s t u n = false := by unfold cbV cbOk; rw [h]; exact ⟨rfl, rfl⟩
theorem cb_yes {s t u : ByteArray} {n : Int} (h : cbG s t u n = true) : cbV s t u n = (tellV (cbC s t u n) : Nat) ∧ cbOk s t u n = tellOk (cbC s t u n) := by unfold cbV cbOk; rw [h]; exact ⟨rfl, rfl⟩
theorem cbG_a {s t u : ByteArray} {n : Int} (h : (isAsk s t && isAsk s u) = false) : cbG s t u n = false := by unfold cbG; rw [h]; rfl
theorem cbG_n {s t u : ByteArray} {n : Int} (h : inW n 0 39 = false) : cbG s t u n = false := by unfold cbG; rw [h, Bool.and_false]
theorem cbG_y {s t u : ByteArray} {n : Int} (h : (isAsk s t && isAsk s u) = true) (h2 : inW n 0 39 = true) : cbG s t u n = true := by unfold cbG; rw [h, h2]; rfl
theorem strs2W (w : World) (a b : ByteArray) (e : TypeId) (ha : a.size ≤ maxLen) (hb : b.size ≤ maxLen) : Strs (w.alloc (.cells #[.string a, .string b] e)) (.slice (some ⟨w.heap.size, 0, none⟩) 2 2) [a, b] := by
  refine ⟨by show (2 : Nat) ≤ maxLen; unfold maxLen; omega, ?_, .inr ⟨w.heap.size, 0, 2, rfl, by simp, ?_⟩⟩
  · intro s hs
    simp at hs
    rcases hs with rfl | rfl
    · exact ha
    · exact hb
  · intro j hj
    have hj2 : j < 2 := hj
    rcases (by omega : j = 0 ∨ j = 1) with rfl | rfl <;> simp

set_option maxRecDepth 100000 in
set_option maxHeartbeats 4000000 in
theorem cbI_any (s t u : ByteArray) (n : Int) (w : World) (hs : s.size ≤ maxLen) (ht : t.size ≤ maxLen) (hu : u.size ≤ maxLen) : Calls Try.prog 32 #[.string s, .string t, .string u, .int .i64 n] w fun e w' => e = .returned (.tuple #[.int .i64 (cbV s t u n), .bool (cbOk s t u n)]) ∧ Ext w w' := by
  have X0 : Ext w (w.alloc (.cells #[.string t, .string u] 9)) := Below.alloc (Ext.refl _) (Nat.le_refl _) _
  have S0 := Lib.hid (strs2W w t u 9 ht hu)
  cases h : (isAsk s t && isAsk s u)
  · have HV := Lib.hid (cb_no (cbG_a (n := n) h))
    go_enter Try.func32, Try.ntmps32
    go_wp2_with (go_at_call 42; refine (canWalk_any _ _ _ _ S0.out hs).mono ?_; rintro e w1 ⟨rfl, x1⟩; rw [cw2, h])
    go_ret2
    exact ⟨ret_IB HV.out.1.symm HV.out.2.symm, X0.trans x1⟩
  by_cases hlo : n < 0
  · have HV := Lib.hid (cb_no (cbG_n (s := s) (t := t) (u := u) (inW_lo hlo)))
    go_enter Try.func32, Try.ntmps32
    go_wp2_with (go_at_call 42; refine (canWalk_any _ _ _ _ S0.out hs).mono ?_; rintro e w1 ⟨rfl, x1⟩; rw [cw2, h])
    go_ret2
    exact ⟨ret_IB HV.out.1.symm HV.out.2.symm, X0.trans x1⟩
  by_cases hhi : 39 < n
  · have HV := Lib.hid (cb_no (cbG_n (s := s) (t := t) (u := u) (inW_hi (lo := 0) hhi)))
    go_enter Try.func32, Try.ntmps32
    go_wp2_with (go_at_call 42; refine (canWalk_any _ _ _ _ S0.out hs).mono ?_; rintro e w1 ⟨rfl, x1⟩; rw [cw2, h])
    go_ret2
    exact ⟨ret_IB HV.out.1.symm HV.out.2.symm, X0.trans x1⟩
  have HV := Lib.hid (cb_yes (cbG_y h (inW_yes (n := n) (lo := 0) (hi := 39) (by omega) (by omega))))
  have hb := h
  rw [Bool.and_eq_true] at hb
  obtain ⟨h1, h2, h3⟩ := isAsk_parts hb.1
  obtain ⟨_, k2, k3⟩ := isAsk_parts hb.2
  obtain ⟨p, hp, rfl⟩ := isP_yes h1
  obtain ⟨d1, d2⟩ := dg1_of h2 h3
  obtain ⟨q1, q2⟩ := dg1_of k2 k3
  have HD := Lib.hid (fun w => digitOf_any t (dg1 t) w (by omega) d1 d2)
  have HQ := Lib.hid (fun w => digitOf_any u (dg1 u) w (by omega) q1 q2)
  obtain ⟨m, rfl⟩ : ∃ m : Nat, n = (m : Int) := ⟨n.toNat, by omega⟩
  have hm : m < 40 := by omega
  have HCN := Lib.hid (show cbC (pcT p) t u (m : Int) = wyF p (eF (dg1 u + 48)) m (dg1 t) by unfold cbC; rw [pcI_T hp]; rfl)
  obtain ⟨d, hd⟩ : ∃ d, d = dg1 t := ⟨_, rfl⟩
  obtain ⟨q, hq⟩ : ∃ d, d = dg1 u := ⟨_, rfl⟩
  rw [← hd] at HD HCN d1
  rw [← hq] at HQ HCN q1
  have HH := Lib.hid h
  have hltm : (m : Int) < ((m + 1 : Nat) : Int) := by omega
  have hltm2 : (m : Int) < (m : Int) + 1 := by omega
  have hdi : (d : Int) < 10 := by omega
  clear hd hq d2 q2 h hb
  go_enter Try.func32, Try.ntmps32
  go_wp2_with (first | (go_at_call 42; refine (canWalk_any _ _ _ _ S0.out hs).mono ?_; rintro e w1 ⟨rfl, x1⟩; rw [cw2, HH.out]))
  refine (movesOf_any p _ hp).mono ?_
  rintro e w2 ⟨vs, rfl, hvs, x2⟩
  go_wp2_with (first | (go_at_call 45; refine (HQ.out _).mono ?_; rintro e w' ⟨rfl, rfl⟩))
  refine (endAt_any q _ q1).mono ?_
  rintro e w3 ⟨rfl, x3⟩
  have hways := waysOn_any p (eF (q + 48)) vs _ m w3 (hvs.ext x3) (eF_le _) (by omega)
  obtain ⟨EA, hEA⟩ : ∃ EA, EA = (rowI (eF (q + 48))).toArray := ⟨_, rfl⟩
  rw [← hEA] at hways ⊢
  obtain ⟨VA, hVA⟩ : ∃ VA, VA = vs.toArray := ⟨_, rfl⟩
  rw [← hVA] at hways ⊢
  clear hEA hVA hvs
  have HWY := Lib.hid hways
  clear hways
  go_wp2_with fail
  refine HWY.out.mono ?_
  rintro e w4 ⟨v, rfl, hv, x4⟩
  obtain ⟨g, cap, rfl, _, _⟩ := hv.shape (by omega)
  have HX := Lib.hid (show ∀ w', Ext w4 w' → w'.cell? ⟨g, m * 10 + d, none⟩ = some (.int .i64 (cbC (pcT p) t u (m : Int) : Nat)) from fun w' hx => by rw [HCN.out]; exact (hv.ext hx).at m d (by omega) d1)
  have X4 : Ext w w4 := (((X0.trans x1).trans x2).trans x3).trans x4
  obtain ⟨c, hc⟩ : ∃ c, c = cbC (pcT p) t u (m : Int) := ⟨_, rfl⟩
  rw [← hc] at HX HV
  have c4 := HX.out w4 (Ext.refl _)
  have HTT := Lib.hid (fun w => toTell_any c w)
  clear hc hv
  have cq := fun w' (hx : Ext w4 w') => HX.out w' hx
  clear c4
  have c4 := HX.out w4.drew (Ext.refl _).drew
  go_wp2
  go_region_with (first | (go_at_call 45; refine (HD.out _).mono ?_; rintro e w' ⟨rfl, rfl⟩) | (go_at_call 58; refine (HTT.out _).mono ?_; rintro e w' ⟨rfl, rfl⟩))
  all_goals go_wp2
  all_goals go_ret2
  all_goals exact ⟨ret_IB HV.out.1.symm HV.out.2.symm, X4.drew⟩

set_option maxHeartbeats 1000000 in
theorem cbS_any (s t u : ByteArray) (n : Int) (w : World) (_hs : s.size ≤ maxLen) (ht : t.size ≤ maxLen) (hu : u.size ≤ maxLen) : Calls Try.prog 31 #[.string s, .string t, .string u, .int .i64 n] w fun e w' => e = .returned (.tuple #[.int .i64 (cbV s t u n), .bool (cbOk s t u n)]) ∧ Ext w w' := by
  cases h : isAsk s t
  · have HV := Lib.hid (cb_no (cbG_a (n := n) (show (isAsk s t && isAsk s u) = false by rw [h]; rfl)))
    go_enter Try.func31, Try.ntmps31
    go_wp2_with (go_at_call 39; refine (asked_any _ _ _ (by assumption)).mono ?_; rintro e w1 ⟨rfl, rfl⟩; rw [h])
    go_ret2
    exact ⟨ret_IB HV.out.1.symm HV.out.2.symm, Ext.refl _⟩
  cases h9 : isAsk s u
  · have HV := Lib.hid (cb_no (cbG_a (n := n) (show (isAsk s t && isAsk s u) = false by rw [h9, Bool.and_false])))
    go_enter Try.func31, Try.ntmps31
    go_wp2_with (go_at_call 39; refine (asked_any _ _ _ (by assumption)).mono ?_; rintro e w1 ⟨rfl, rfl⟩; (first | rw [h] | rw [h9]))
    go_ret2
    exact ⟨ret_IB HV.out.1.symm HV.out.2.symm, Ext.refl _⟩
  cases hn : inW n 0 39
  · have HV := Lib.hid (cb_no (cbG_n (s := s) (t := t) (u := u) hn))
    go_enter Try.func31, Try.ntmps31
    go_wp2_with (first | (go_at_call 39; refine (asked_any _ _ _ (by assumption)).mono ?_; rintro e w1 ⟨rfl, rfl⟩; (first | rw [h] | rw [h9])) | (go_at_call 53; refine (inW_any _ _ _ _).mono ?_; rintro e w' ⟨rfl, rfl⟩; rw [hn]))
    go_ret2
    exact ⟨ret_IB HV.out.1.symm HV.out.2.symm, Ext.refl _⟩
  have HV := Lib.hid (cb_yes (cbG_y (show (isAsk s t && isAsk s u) = true by rw [h, h9]; rfl) hn))
  obtain ⟨h1, h2, h3⟩ := isAsk_parts h
  obtain ⟨_, k2, k3⟩ := isAsk_parts h9
  obtain ⟨p, hp, rfl⟩ := isP_yes h1
  obtain ⟨d1, d2⟩ := dg1_of h2 h3
  obtain ⟨q1, q2⟩ := dg1_of k2 k3
  have h0 : 0 < t.size := by omega
  have k0 : 0 < u.size := by omega
  have hix := fun w => ixS0 t h0 w
  rw [d2] at hix
  have kix := fun w => ixS0 u k0 w
  rw [q2] at kix
  obtain ⟨n1, n2⟩ := inW_bd hn
  obtain ⟨m, rfl⟩ : ∃ m : Nat, n = (m : Int) := ⟨n.toNat, by omega⟩
  have hm : m < 40 := by omega
  have HCN := Lib.hid (show cbC (pcT p) t u (m : Int) = wyF p (eF (dg1 u + 48)) m (dg1 t) by unfold cbC; rw [pcI_T hp]; rfl)
  have HCT := Lib.hid (fun w => wkCount_any p (dg1 u + 48) m (dg1 t) ((dg1 t : Int) + 48) w hp (.inr (by omega)) hm d1 rfl)
  rw [← HCN.out, show ((dg1 u + 48 : Nat) : Int) = (dg1 u : Int) + 48 from rfl] at HCT
  obtain ⟨d, hd⟩ : ∃ d, d = dg1 t := ⟨_, rfl⟩
  obtain ⟨q, hq⟩ : ∃ d, d = dg1 u := ⟨_, rfl⟩
  rw [← hd] at HCT hix
  rw [← hq] at HCT kix
  obtain ⟨c, hc⟩ : ∃ c, c = cbC (pcT p) t u (m : Int) := ⟨_, rfl⟩
  rw [← hc] at HCT HV
  clear hd hq hc n1 n2 d2 q2 HCN
  have HH := Lib.hid h
  have HK := Lib.hid h9
  have HNI := Lib.hid hn
  clear h h9 hn
  go_enter Try.func31, Try.ntmps31
  go_wp2_with (first | (go_at_call 39; refine (asked_any _ _ _ (by assumption)).mono ?_; rintro e w1 ⟨rfl, rfl⟩; (first | rw [HH.out] | rw [HK.out])) | (go_at_call 53; refine (inW_any _ _ _ _).mono ?_; rintro e w' ⟨rfl, rfl⟩; rw [HNI.out]))
  go_region_with (first | (go_at_call 57; refine (HCT.out _).mono ?_; rintro e w2 ⟨rfl, x2⟩))
  all_goals go_wp2
  all_goals go_ret2
  all_goals exact ⟨ret_IB HV.out.1.symm HV.out.2.symm, (Ext.refl _).drew.trans x2⟩

/-! ### CountRounds -/
theorem crI_any (s t : ByteArray) (n : Int) (w : World) (hs : s.size ≤ maxLen) (ht : t.size ≤ maxLen) : Calls Try.prog 34 #[.string s, .string t, .int .i64 n] w fun e w' => e = .returned (.tuple #[.int .i64 (cbV s t t n), .bool (cbOk s t t n)]) ∧ Ext w w' := by
  go_enter Try.func34, Try.ntmps34
  go_wp2_with (go_at_call 32; refine (cbI_any s t t n _ hs ht ht).mono ?_; rintro e w1 ⟨rfl, x1⟩)
  go_ret2
  exact ⟨rfl, x1⟩
theorem crS_any (s t : ByteArray) (n : Int) (w : World) (hs : s.size ≤ maxLen) (ht : t.size ≤ maxLen) : Calls Try.prog 33 #[.string s, .string t, .int .i64 n] w fun e w' => e = .returned (.tuple #[.int .i64 (cbV s t t n), .bool (cbOk s t t n)]) ∧ Ext w w' := by
  go_enter Try.func33, Try.ntmps33
  go_wp2_with (go_at_call 31; refine (cbS_any s t t n _ hs ht ht).mono ?_; rintro e w1 ⟨rfl, x1⟩)
  go_ret2
  exact ⟨rfl, x1⟩
end Go.Proofs.Ytmpajijnpoekgac
