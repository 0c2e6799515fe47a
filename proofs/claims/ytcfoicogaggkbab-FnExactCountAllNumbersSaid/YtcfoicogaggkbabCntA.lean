/- Counts of all numbers: both sides. No conditions. -/
import Derived.Test.YtcfoicogaggkbabCntN
import Derived.Deep.RegionWith
namespace Go.Proofs.Ytcfoicogaggkbab
open Go.RowKit

theorem rng_at (k : Nat) (h : k < (List.range 10).length) : (List.range 10)[k] = k := List.getElem_range h
def caC (p m : Nat) : Nat := sumL (wyF p (eF 0) m) (List.range 10)
theorem ca_step (f : Nat → Nat) (k : Nat) (h : k < 10) : sumL f ((List.range 10).take (k + 1)) = sumL f ((List.range 10).take k) + f k := by
  have h2 : k < (List.range 10).length := by rw [List.length_range]; exact h
  rw [sumL_take f (List.range 10) k h2, rng_at k h2]
theorem ca_le (p m k : Nat) (h : k ≤ 10) : sumL (wyF p (eF 0) m) ((List.range 10).take k) ≤ 10000000000000010 := by
  have h1 := sumL_le (wyF p (eF 0) m) most1 (wyF_le p (eF 0) (eF_le 0) m) ((List.range 10).take k)
  have h2 : ((List.range 10).take k).length ≤ 10 := by rw [List.length_take, List.length_range]; omega
  have h3 : ((List.range 10).take k).length * most1 ≤ 10 * most1 := Nat.mul_le_mul_right _ h2
  have h4 : 10 * most1 = 10000000000000010 := rfl
  omega
theorem minInt (S V : Nat) : min ((S : Int) + (V : Int)) 1000000000000001 = ((min (S + V) most1 : Nat) : Int) := by
  have h0 : most1 = 1000000000000001 := rfl
  rw [h0]
  omega
theorem min_ok {c : Nat} (h : c ≤ mxN) : min c most1 = c ∧ ¬ (1000000000000000 : Int) < (c : Int) := by
  have h0 : most1 = 1000000000000001 := rfl
  unfold mxN at h
  omega
theorem min_bad {c : Nat} (h : ¬ c ≤ mxN) : (1000000000000000 : Int) < ((min c most1 : Nat) : Int) := by
  have h0 : most1 = 1000000000000001 := rfl
  unfold mxN at h
  omega
def caG (s : ByteArray) (n : Int) : Bool := isP s && inW n 1 40
def caOk (s : ByteArray) (n : Int) : Bool := caG s n && tellOk (caC (pcI s) (n - 1).toNat)
def caV (s : ByteArray) (n : Int) : Int := if caG s n then (tellV (caC (pcI s) (n - 1).toNat) : Nat) else 0
theorem ca_no {s : ByteArray} {n : Int} (h : caG s n = false) : caV s n = 0 ∧ caOk s n = false := by unfold caV caOk; rw [h]; exact ⟨rfl, rfl⟩
theorem ca_yes {s : ByteArray} {n : Int} (h : caG s n = true) : caV s n = (tellV (caC (pcI s) (n - 1).toNat) : Nat) ∧ caOk s n = tellOk (caC (pcI s) (n - 1).toNat) := by unfold caV caOk; rw [h]; exact ⟨rfl, rfl⟩
theorem caG_p {s : ByteArray} {n : Int} (h : isP s = false) : caG s n = false := by unfold caG; rw [h]; rfl
theorem caG_n {s : ByteArray} {n : Int} (h : inW n 1 40 = false) : caG s n = false := by unfold caG; rw [h, Bool.and_false]
theorem caG_y {s : ByteArray} {n : Int} (h : isP s = true) (h2 : inW n 1 40 = true) : caG s n = true := by unfold caG; rw [h, h2]; rfl

set_option maxHeartbeats 1000000 in
theorem caI_any (s : ByteArray) (n : Int) (w : World) (hs : s.size ≤ maxLen) : Calls Try.prog 21 #[.string s, .int .i64 n] w fun e w' => e = .returned (.tuple #[.int .i64 (caV s n), .bool (caOk s n)]) ∧ Ext w w' := by
  cases h : isP s
  · have HV := Lib.hid (ca_no (caG_p (n := n) h))
    go_enter Try.func21, Try.ntmps21
    go_wp2_with (go_at_call 44; refine (isPiece_any _ _ hs).mono ?_; rintro e w1 ⟨rfl, rfl⟩; rw [h])
    go_ret2
    exact ⟨ret_IB HV.out.1.symm HV.out.2.symm, Ext.refl _⟩
  cases hn : inW n 1 40
  · have HV := Lib.hid (ca_no (caG_n (s := s) hn))
    go_enter Try.func21, Try.ntmps21
    go_wp2_with (first | (go_at_call 44; refine (isPiece_any _ _ hs).mono ?_; rintro e w1 ⟨rfl, rfl⟩; rw [h]) | (go_at_call 48; refine (isLong_any _ _ _).mono ?_; rintro e w' ⟨rfl, rfl⟩; rw [hn]))
    go_ret2
    exact ⟨ret_IB HV.out.1.symm HV.out.2.symm, Ext.refl _⟩
  have HV := Lib.hid (ca_yes (caG_y h hn))
  obtain ⟨p, hp, rfl⟩ := isP_yes h
  obtain ⟨n1, n2⟩ := inW_bd hn
  obtain ⟨m, rfl⟩ : ∃ m : Nat, n = ((m + 1 : Nat) : Int) := ⟨(n - 1).toNat, by omega⟩
  have hm : m < 40 := by omega
  have HCN := Lib.hid (show caC (pcI (pcT p)) (((m + 1 : Nat) : Int) - 1).toNat = caC p m by rw [pcI_T hp]; congr 1; omega)
  rw [HCN.out] at HV
  have HNO := Lib.hid (fun w => numbersOf_any p m w hp hm)
  have HRI := Lib.hid (fun k hk => rowI_at (wyF p (eF 0) m) k hk)
  obtain ⟨A, hA⟩ : ∃ A, A = (rowI (wyF p (eF 0) m)).toArray := ⟨_, rfl⟩
  rw [← hA] at HNO
  have HIX := Lib.hid (fun k hk w => ixRow A k hk (.int .i64 (wyF p (eF 0) m k : Nat)) (by rw [hA]; exact HRI.out k hk) w)
  have HCA := Lib.hid (show caC p m = sumL (wyF p (eF 0) m) ((List.range 10).take 10) from rfl)
  obtain ⟨n, hnn⟩ : ∃ n : Int, n = ((m + 1 : Nat) : Int) := ⟨_, rfl⟩
  rw [← hnn] at HV HNO hn ⊢
  clear hA hnn n1 n2 HRI HCN
  have HH := Lib.hid h
  clear h
  go_enter Try.func21, Try.ntmps21
  go_wp2_with (first | (go_at_call 44; refine (isPiece_any _ _ hs).mono ?_; rintro e w1 ⟨rfl, rfl⟩; rw [HH.out]) | (go_at_call 48; refine (isLong_any _ _ _).mono ?_; rintro e w' ⟨rfl, rfl⟩; rw [hn]) | (go_at_call 50; refine (HNO.out _).mono ?_; rintro e w2 ⟨rfl, x2⟩))
  go_loopw [6, 20] (fun a q wr => ∃ k : Nat, k ≤ 10 ∧ q = .int .i64 k ∧ a = .int .i64 (sumL (wyF p (eF 0) m) ((List.range 10).take k) : Nat) ∧ Ext w wr) (fun _ q _ => 10 - (intOf q).toNat)
  case atStart => exact ⟨0, Nat.zero_le _, rfl, rfl, x2⟩
  case round =>
    obtain ⟨k, hk, rfl, rfl, hx⟩ := hrel
    by_cases hlt : k < 10
    · have hki : (k : Int) < 10 := by omega
      have hix := HIX.out k hlt
      have HST := Lib.hid (ca_step (wyF p (eF 0) m) k hlt)
      have hb := ca_le p m k hk
      have hb2 := ca_le p m (k + 1) (by omega)
      rw [HST.out] at hb2
      obtain ⟨S, hS⟩ : ∃ S, S = sumL (wyF p (eF 0) m) ((List.range 10).take k) := ⟨_, rfl⟩
      obtain ⟨V, hVV⟩ : ∃ V, V = wyF p (eF 0) m k := ⟨_, rfl⟩
      rw [← hS, ← hVV] at HST hb2
      rw [← hS] at hb ⊢
      rw [← hVV] at hix
      clear hS hVV
      go_wp2
      go_roundw
      case rel => exact ⟨k + 1, by omega, by go_num, by rw [HST.out]; push_cast; rfl, hx⟩
      case measure => simp [intOf] <;> omega
    · obtain rfl : k = 10 := by omega
      rw [← HCA.out]
      have HTT := Lib.hid (fun w => toTell_any (caC p m) w)
      go_wp2_with (go_at_call 49; refine (HTT.out _).mono ?_; rintro e w' ⟨rfl, rfl⟩)
      go_ret2
      exact ⟨ret_IB HV.out.1.symm HV.out.2.symm, hx⟩

set_option maxHeartbeats 1000000 in
theorem caS_any (s : ByteArray) (n : Int) (w : World) (_hs : s.size ≤ maxLen) : Calls Try.prog 20 #[.string s, .int .i64 n] w fun e w' => e = .returned (.tuple #[.int .i64 (caV s n), .bool (caOk s n)]) ∧ Ext w w' := by
  cases h : isP s
  · have HV := Lib.hid (ca_no (caG_p (n := n) h))
    go_enter Try.func20, Try.ntmps20
    go_wp2_with (go_at_call 42; refine (wkPiece_any _ _).mono ?_; rintro e w1 ⟨rfl, rfl⟩; rw [h])
    go_ret2
    exact ⟨ret_IB HV.out.1.symm HV.out.2.symm, Ext.refl _⟩
  cases hn : inW n 1 40
  · have HV := Lib.hid (ca_no (caG_n (s := s) hn))
    go_enter Try.func20, Try.ntmps20
    go_wp2_with (first | (go_at_call 42; refine (wkPiece_any _ _).mono ?_; rintro e w1 ⟨rfl, rfl⟩; rw [h]) | (go_at_call 46; refine (inW_any _ _ _ _).mono ?_; rintro e w' ⟨rfl, rfl⟩; rw [hn]))
    go_ret2
    exact ⟨ret_IB HV.out.1.symm HV.out.2.symm, Ext.refl _⟩
  have HV := Lib.hid (ca_yes (caG_y h hn))
  obtain ⟨p, hp, rfl⟩ := isP_yes h
  obtain ⟨n1, n2⟩ := inW_bd hn
  obtain ⟨m, rfl⟩ : ∃ m : Nat, n = ((m + 1 : Nat) : Int) := ⟨(n - 1).toNat, by omega⟩
  have hm : m < 40 := by omega
  have HCN := Lib.hid (show caC (pcI (pcT p)) (((m + 1 : Nat) : Int) - 1).toNat = caC p m by rw [pcI_T hp]; congr 1; omega)
  rw [HCN.out] at HV
  have HCA := Lib.hid (show caC p m = sumL (wyF p (eF 0) m) ((List.range 10).take 10) from rfl)
  have HTB := Lib.hid (fun w => wkTable_any p 0 m w hp (.inl rfl) (by omega))
  rw [show ((0 : Nat) : Int) = 0 from rfl] at HTB
  obtain ⟨n, hnn⟩ : ∃ n : Int, n = ((m + 1 : Nat) : Int) := ⟨_, rfl⟩
  have Wn : wrap64 (n - 1) = (m : Int) := by unfold wrap64; omega
  have Wn2 : n - 1 = (m : Int) := by omega
  have hlt : (m : Int) < ((m + 1 : Nat) : Int) := by omega
  have hlt2 : (m : Int) < (m : Int) + 1 := by omega
  rw [← hnn] at HV hn ⊢
  clear hnn n1 n2 HCN
  have HH := Lib.hid h
  clear h
  go_enter Try.func20, Try.ntmps20
  go_wp2_with (first | (go_at_call 42; refine (wkPiece_any _ _).mono ?_; rintro e w1 ⟨rfl, rfl⟩; rw [HH.out]) | (go_at_call 46; refine (inW_any _ _ _ _).mono ?_; rintro e w' ⟨rfl, rfl⟩; rw [hn]))
  refine (HTB.out _).mono ?_
  rintro e w1 ⟨v, U, rfl, hg, x1⟩
  obtain ⟨a, cap, rfl⟩ := hg.shape
  obtain ⟨g, rfl, _, _, hcell⟩ := hg.at m (by omega)
  have c1 := hcell w1 (Ext.refl _) m (by omega)
  have HRO := Lib.hid (hg.inner m (by omega))
  obtain ⟨u, hu⟩ : ∃ u, u = U m := ⟨_, rfl⟩
  rw [← hu] at c1 HRO
  clear hu hcell hg
  go_wp2
  go_loopw [6, 26] (fun a q wr => ∃ k : Nat, k ≤ 10 ∧ q = .int .i64 k ∧ a = .int .i64 (min (sumL (wyF p (eF 0) m) ((List.range 10).take k)) most1 : Nat) ∧ Ext w1 wr) (fun _ q _ => 10 - (intOf q).toNat)
  case atStart => exact ⟨0, Nat.zero_le _, rfl, rfl, Ext.refl _⟩
  case round =>
    obtain ⟨k, hk, rfl, rfl, hx⟩ := hrel
    by_cases hlt : k < 10
    · have hki : (k : Int) < 10 := by omega
      have c2 := (HRO.out.ext hx).at k hlt
      have HST := Lib.hid (ca_step (wyF p (eF 0) m) k hlt)
      have hwl := wyF_le p (eF 0) (eF_le 0) m k
      have HMS := Lib.hid (minS (sumL (wyF p (eF 0) m) ((List.range 10).take k)) (wyF p (eF 0) m k) most1)
      rw [← HST.out] at HMS
      have hSm : min (sumL (wyF p (eF 0) m) ((List.range 10).take k)) most1 ≤ 1000000000000001 := Nat.min_le_right _ _
      obtain ⟨S, hS⟩ : ∃ S, S = min (sumL (wyF p (eF 0) m) ((List.range 10).take k)) most1 := ⟨_, rfl⟩
      obtain ⟨V, hVV⟩ : ∃ V, V = wyF p (eF 0) m k := ⟨_, rfl⟩
      rw [← hVV] at c2 HMS hwl
      rw [← hS] at HMS hSm ⊢
      have hV1 : V ≤ 1000000000000001 := hwl
      have hadd : wrap64 ((S : Int) + (V : Int)) = (S : Int) + (V : Int) := by unfold wrap64; omega
      have HN := Lib.hid (show min ((S : Int) + (V : Int)) 1000000000000001 = ((min (sumL (wyF p (eF 0) m) ((List.range 10).take (k + 1))) most1 : Nat) : Int) by
        rw [← HMS.out]
        exact minInt S V)
      clear hS hVV hwl
      go_wp2_with (go_at_call 52; refine (leastW_any _ _ _).mono ?_; rintro e w' ⟨rfl, rfl⟩)
      go_roundw
      case rel => exact ⟨k + 1, by omega, by go_num, by rw [HN.out], hx⟩
      case measure => simp [intOf] <;> omega
    · obtain rfl : k = 10 := by omega
      rw [← HCA.out]
      by_cases hc : caC p m ≤ mxN
      · have HT := Lib.hid (tell_yes hc)
        obtain ⟨hc2, hi⟩ := min_ok hc
        rw [hc2]
        clear hc hc2
        go_wp2
        go_ret2
        exact ⟨ret_IB (by rw [HV.out.1, HT.out.1]) (by rw [HV.out.2, HT.out.2]), x1.trans hx⟩
      · have HT := Lib.hid (tell_no hc)
        have hi := min_bad hc
        obtain ⟨z, hz⟩ : ∃ z, z = min (caC p m) most1 := ⟨_, rfl⟩
        rw [← hz] at hi ⊢
        clear hc hz
        go_wp2
        go_ret2
        exact ⟨ret_IB (by rw [HV.out.1, HT.out.1]; rfl) (by rw [HV.out.2, HT.out.2]), x1.trans hx⟩
end Go.Proofs.Ytcfoicogaggkbab
