/- How many patterns begin at a point, and at all points: both sides. No conditions. -/
import Derived.Test.YtmpajijnpoekgaaPatL
namespace Go.Proofs.Ytmpajijnpoekgaa
open Go.RowKit

def cdV (s : ByteArray) (n : Int) : Int := if stG s n then (cntP (n - 1).toNat (plcs s) (laP (plcs s)) : Nat) else 0
theorem cdV_no {s : ByteArray} {n : Int} (h : stG s n = false) : cdV s n = 0 := by unfold cdV; rw [h]; rfl
theorem cdV_yes {s : ByteArray} {m : Nat} {p : Nat} (h : stG s ((m + 1 : Nat) : Int) = true) (hp : plcs s = [p]) : cdV s ((m + 1 : Nat) : Int) = (cntP m [p] p : Nat) := by
  have e : (((m + 1 : Nat) : Int) - 1).toNat = m := by omega
  unfold cdV
  rw [h, hp, e]
  rfl
theorem ret_iBk {a a' : Int} {b b' : Bool} (h : a = a') (h2 : b = b') : Ending.returned (.tuple #[.int .i64 a, .bool b]) = .returned (.tuple #[.int .i64 a', .bool b']) := by rw [h, h2]
theorem inW_bdk {n lo hi : Int} (h : inW n lo hi = true) : lo ≤ n ∧ n ≤ hi := by unfold inW at h; simp at h; exact h

set_option maxHeartbeats 400000 in
theorem cdI_any (s : ByteArray) (n : Int) (w : World) (hs : s.size ≤ maxLen) : Calls Try.prog 20 #[.string s, .int .i64 n] w fun e w' => e = .returned (.tuple #[.int .i64 (cdV s n), .bool (stG s n)]) ∧ Ext w w' := by
  have HP := Lib.hid (fun w => isPoint_any s w hs)
  cases h1 : (decide (s.size = 1) && isPt s)
  · have HG := Lib.hid (show stG s n = false by unfold stG; rw [← Bool.and_assoc, h1]; rfl)
    have HV := Lib.hid (cdV_no HG.out)
    rw [h1] at HP
    go_enter Try.func20, Try.ntmps20
    go_wp2_with (go_at_call 51; refine (HP.out _).mono ?_; rintro e w1 ⟨rfl, x1⟩)
    go_ret2
    exact ⟨ret_iBk HV.out.symm HG.out.symm, x1⟩
  rw [h1] at HP
  cases h2 : inW n 1 9
  · have HG := Lib.hid (stG_n (s := s) h2)
    have HV := Lib.hid (cdV_no HG.out)
    go_enter Try.func20, Try.ntmps20
    go_wp2_with (first | (go_at_call 51; refine (HP.out _).mono ?_; rintro e w1 ⟨rfl, x1⟩) | (go_at_call 52; refine (isLongP_any _ _ _).mono ?_; rintro e w' ⟨rfl, rfl⟩; rw [h2]))
    go_ret2
    exact ⟨ret_iBk HV.out.symm HG.out.symm, x1⟩
  rw [Bool.and_eq_true] at h1
  have hz := of_decide_eq_true h1.1
  have hG := stG_y hz h1.2 h2
  obtain ⟨n1, n2⟩ := inW_bdk h2
  obtain ⟨m, rfl⟩ : ∃ m : Nat, n = ((m + 1 : Nat) : Int) := ⟨(n - 1).toNat, by omega⟩
  obtain ⟨b, hsb, b1, b2, hp9, hpt, hpl⟩ := st_of hz h1.2
  clear hpt
  have HG := Lib.hid hG
  have HV := Lib.hid (cdV_yes hG hpl)
  have HF := Lib.hid (fun w => dfrom_any b w b1 b2)
  rw [← hsb] at HF
  obtain ⟨p, hp⟩ : ∃ p, p = pn b := ⟨_, rfl⟩
  rw [← hp] at HF HV hp9
  obtain ⟨A, hA⟩ : ∃ A, A = (dvA (inD [p]) p).toArray := ⟨_, rfl⟩
  rw [dv_A, ← hA] at HF
  have HC := Lib.hid (fun w => cnt_any m A [p] p w hA hp9 (by omega))
  obtain ⟨x, hx⟩ : ∃ x, x = cntP m [p] p := ⟨_, rfl⟩
  rw [← hx] at HC HV
  obtain ⟨m1, hm1⟩ : ∃ m1 : Nat, m1 = m + 1 := ⟨_, rfl⟩
  have em : (m1 : Int) - 1 = (m : Int) := by omega
  have Wm : IntKind.i64.wrap ((m1 : Int) - 1) = (m : Int) := by simp only [IntKind.wrap_i64]; omega
  have hm19 : m1 ≤ 9 := by omega
  rw [← hm1] at HV HG h2 ⊢
  have H2 := Lib.hid h2
  clear hx hA hp hsb hpl hG hm1 h1 h2 hz n1 n2
  go_enter Try.func20, Try.ntmps20
  go_wp2_with fail
  refine (HP.out _).mono ?_
  rintro e w1 ⟨rfl, x1⟩
  go_wp2_with (first | (go_at_call 52; refine (isLongP_any _ _ _).mono ?_; rintro e w' ⟨rfl, rfl⟩; rw [H2.out]))
  refine (HF.out _).mono ?_
  rintro e w2 ⟨rfl, x2⟩
  go_wp2_with fail
  refine (HC.out _).mono ?_
  rintro e w3 ⟨rfl, x3⟩
  go_wp2
  go_ret2
  exact ⟨ret_iBk HV.out.symm HG.out.symm, (x1.trans x2).trans x3⟩

set_option maxHeartbeats 400000 in
theorem cdS_any (s : ByteArray) (n : Int) (w : World) (hs : s.size ≤ maxLen) : Calls Try.prog 19 #[.string s, .int .i64 n] w fun e w' => e = .returned (.tuple #[.int .i64 (cdV s n), .bool (stG s n)]) ∧ Ext w w' := by
  have HP := Lib.hid (fun w => piStart_any s n w hs)
  cases h1 : stG s n
  · have HG := Lib.hid h1
    have HV := Lib.hid (cdV_no h1)
    rw [h1] at HP
    go_enter Try.func19, Try.ntmps19
    go_wp2_with (go_at_call 49; refine (HP.out _).mono ?_; rintro e w1 ⟨rfl, x1⟩)
    go_ret2
    exact ⟨ret_iBk HV.out.symm rfl, x1⟩
  rw [h1] at HP
  have hG := h1
  unfold stG at h1
  rw [Bool.and_eq_true, Bool.and_eq_true] at h1
  have hz := of_decide_eq_true h1.1
  obtain ⟨n1, n2⟩ := inW_bdk h1.2.2
  obtain ⟨m, rfl⟩ : ∃ m : Nat, n = ((m + 1 : Nat) : Int) := ⟨(n - 1).toNat, by omega⟩
  obtain ⟨b, hsb, b1, b2, hp9, hpt, hpl⟩ := st_of hz h1.2.1
  have HG := Lib.hid hG
  have HV := Lib.hid (cdV_yes hG hpl)
  have HC := Lib.hid (fun w => piCnt_any m [] (pn b) w ⟨by simp, fun q hq => by simp at hq; omega⟩ (by simp; omega))
  rw [← hpt] at HC
  have HC2 := Lib.hid (fun w => (show Calls Try.prog 50 #[.string s, .int .i64 m] w fun e w' => e = .returned (.int .i64 (cntP m [pn b] (pn b) : Nat)) ∧ Ext w w' from HC.out w))
  obtain ⟨x, hx⟩ : ∃ x, x = cntP m [pn b] (pn b) := ⟨_, rfl⟩
  rw [← hx] at HC2 HV
  obtain ⟨m1, hm1⟩ : ∃ m1 : Nat, m1 = m + 1 := ⟨_, rfl⟩
  have em : (m1 : Int) - 1 = (m : Int) := by omega
  have Wm : IntKind.i64.wrap ((m1 : Int) - 1) = (m : Int) := by simp only [IntKind.wrap_i64]; omega
  have hm19 : m1 ≤ 9 := by omega
  rw [← hm1] at HV HP ⊢
  clear hx hsb hpl hG hm1 h1 hz n1 n2 hpt HC
  go_enter Try.func19, Try.ntmps19
  go_wp2_with (first | (go_at_call 49; refine (HP.out _).mono ?_; rintro e w1 ⟨rfl, x1⟩) | (go_at_call 50; refine (HC2.out _).mono ?_; rintro e w3 ⟨rfl, x3⟩))
  go_ret2
  exact ⟨ret_iBk HV.out.symm rfl, x1.trans x3⟩

/-! ### From all points -/
def caV (n : Int) : Int := if inW n 1 9 then (allS (n - 1).toNat 9 : Nat) else 0
theorem caV_no {n : Int} (h : inW n 1 9 = false) : caV n = 0 := by unfold caV; rw [h]; rfl
theorem caV_yes {m : Nat} (h : inW ((m + 1 : Nat) : Int) 1 9 = true) : caV ((m + 1 : Nat) : Int) = (allS m 9 : Nat) := by
  have e : (((m + 1 : Nat) : Int) - 1).toNat = m := by omega
  unfold caV
  rw [h, e]
  rfl
set_option maxHeartbeats 400000 in
theorem caI_any (n : Int) (w : World) : Calls Try.prog 22 #[.int .i64 n] w fun e w' => e = .returned (.tuple #[.int .i64 (caV n), .bool (inW n 1 9)]) ∧ Ext w w' := by
  cases h2 : inW n 1 9
  · have HV := Lib.hid (caV_no h2)
    go_enter Try.func22, Try.ntmps22
    go_wp2_with (go_at_call 52; refine (isLongP_any _ _ _).mono ?_; rintro e w' ⟨rfl, rfl⟩; rw [h2])
    go_ret2
    exact ⟨ret_iBk HV.out.symm rfl, Ext.refl _⟩
  obtain ⟨n1, n2⟩ := inW_bdk h2
  obtain ⟨m, rfl⟩ : ∃ m : Nat, n = ((m + 1 : Nat) : Int) := ⟨(n - 1).toNat, by omega⟩
  have HV := Lib.hid (caV_yes h2)
  have HW := Lib.hid (fun (p : Nat) (w : World) (hp : p < 9) => (show Calls Try.prog 56 #[.agg #[.bool false, .bool false, .bool false, .bool false, .bool false, .bool false, .bool false, .bool false, .bool false, .int .i64 0], .int .i64 p] w fun e w' => ∃ V', e = .returned (.agg V') ∧ V' = (dvA (inD [p]) p).toArray ∧ Ext w w' from (with_any (fun _ => false) 0 p w hp).mono fun e w' h => ⟨_, h.1, by rw [wiD_none]; rfl, h.2⟩))
  have HC := Lib.hid (fun (A : Array Value) (p : Nat) (w : World) (hA : A = (dvA (inD [p]) p).toArray) (hp9 : p < 9) => cnt_any m A [p] p w hA hp9 (by omega))
  have h9 := pow9 m (by omega)
  have H2 := Lib.hid h2
  obtain ⟨m1, hm1⟩ : ∃ m1 : Nat, m1 = m + 1 := ⟨_, rfl⟩
  have em : (m1 : Int) - 1 = (m : Int) := by omega
  have Wm : IntKind.i64.wrap ((m1 : Int) - 1) = (m : Int) := by simp only [IntKind.wrap_i64]; omega
  have hm19 : m1 ≤ 9 := by omega
  rw [← hm1] at HV H2 ⊢
  clear hm1 h2 n1 n2
  go_enter Try.func22, Try.ntmps22
  go_wp2_with (go_at_call 52; refine (isLongP_any _ _ _).mono ?_; rintro e w' ⟨rfl, rfl⟩; rw [H2.out])
  go_loopw [4, 9] (fun o i wr => ∃ j : Nat, j ≤ 9 ∧ i = .int .i64 j ∧ o = .int .i64 (allS m j : Nat) ∧ Ext w wr) (fun _ i _ => 9 - (intOf i).toNat)
  case atStart => exact ⟨0, Nat.zero_le _, rfl, rfl, Ext.refl _⟩
  case round =>
    obtain ⟨j, hj, rfl, rfl, hx⟩ := hrel
    have HX := Lib.hid hx
    clear hx
    by_cases hlt : j < 9
    · have HWj := Lib.hid (fun w => HW.out j w hlt)
      have HCj := Lib.hid (fun A w hA => HC.out A j w hA hlt)
      have HY := Lib.hid (allS_succ m j)
      have b1 := allS_bd m j
      have b2 := cntP_bd m [j] j
      have b3 : j * 9 ^ m ≤ 9 * 9 ^ m := Nat.mul_le_mul_right _ (by omega)
      obtain ⟨x, hx⟩ : ∃ x, x = allS m j := ⟨_, rfl⟩
      obtain ⟨y, hy⟩ : ∃ y, y = cntP m [j] j := ⟨_, rfl⟩
      rw [← hx] at b1 HY ⊢
      rw [← hy] at b2 HY HCj
      have hx1 : x ≤ 400000000 := by omega
      have hy1 : y ≤ 400000000 := by omega
      have Wxy : IntKind.i64.wrap ((x : Int) + (y : Int)) = (x : Int) + (y : Int) := by simp only [IntKind.wrap_i64]; omega
      clear hx hy b1 b2 b3
      go_wp2_with (first | (go_at_call 56; refine (HWj.out _).mono ?_; rintro e w3 ⟨V2, rfl, hV2, x3⟩; have HV2 := Lib.hid hV2; clear hV2) | (go_at_call 54; refine (HCj.out V2 _ HV2.out).mono ?_; rintro e w4 ⟨rfl, x4⟩))
      go_roundw
      case rel => exact ⟨j + 1, by omega, by go_num, by rw [HY.out]; first | rfl | go_num, (HX.out.trans x3).trans x4⟩
      case measure => simp [intOf]; omega
    · obtain rfl : j = 9 := by omega
      go_wp2
      go_ret2
      exact ⟨ret_iBk HV.out.symm rfl, HX.out⟩

set_option maxHeartbeats 400000 in
theorem caS_any (n : Int) (w : World) : Calls Try.prog 21 #[.int .i64 n] w fun e w' => e = .returned (.tuple #[.int .i64 (caV n), .bool (inW n 1 9)]) ∧ Ext w w' := by
  cases h2 : inW n 1 9
  · have HV := Lib.hid (caV_no h2)
    go_enter Try.func21, Try.ntmps21
    go_wp2_with (go_at_call 55; refine (inW_any _ _ _ _).mono ?_; rintro e w' ⟨rfl, rfl⟩; rw [h2])
    go_ret2
    exact ⟨ret_iBk HV.out.symm rfl, Ext.refl _⟩
  obtain ⟨n1, n2⟩ := inW_bdk h2
  obtain ⟨m, rfl⟩ : ∃ m : Nat, n = ((m + 1 : Nat) : Int) := ⟨(n - 1).toNat, by omega⟩
  have HV := Lib.hid (caV_yes h2)
  have hc (p : Nat) (hp : p < 9) := fun w => piCnt_any m [] p w ⟨by simp, fun q hq => by simp at hq; omega⟩ (by simp; omega)
  have HC0 := Lib.hid (fun w => (show Calls Try.prog 50 #[.string ⟨#[49]⟩, .int .i64 m] w fun e w' => e = .returned (.int .i64 (cntP m [0] 0 : Nat)) ∧ Ext w w' from hc 0 (by omega) w))
  have HC1 := Lib.hid (fun w => (show Calls Try.prog 50 #[.string ⟨#[50]⟩, .int .i64 m] w fun e w' => e = .returned (.int .i64 (cntP m [1] 1 : Nat)) ∧ Ext w w' from hc 1 (by omega) w))
  have HC4 := Lib.hid (fun w => (show Calls Try.prog 50 #[.string ⟨#[53]⟩, .int .i64 m] w fun e w' => e = .returned (.int .i64 (cntP m [4] 4 : Nat)) ∧ Ext w w' from hc 4 (by omega) w))
  have h9 := pow9 m (by omega)
  have b0 := cntP_bd m [0] 0
  have b1 := cntP_bd m [1] 1
  have b4 := cntP_bd m [4] 4
  have HE := Lib.hid (allS_9 m)
  obtain ⟨x, hx⟩ : ∃ x, x = cntP m [0] 0 := ⟨_, rfl⟩
  obtain ⟨y, hy⟩ : ∃ y, y = cntP m [1] 1 := ⟨_, rfl⟩
  obtain ⟨z, hz⟩ : ∃ z, z = cntP m [4] 4 := ⟨_, rfl⟩
  rw [← hx] at b0 HC0 HE
  rw [← hy] at b1 HC1 HE
  rw [← hz] at b4 HC4 HE
  have hx1 : x ≤ 43046721 := by omega
  have hy1 : y ≤ 43046721 := by omega
  have hz1 : z ≤ 43046721 := by omega
  have H2 := Lib.hid h2
  obtain ⟨m1, hm1⟩ : ∃ m1 : Nat, m1 = m + 1 := ⟨_, rfl⟩
  have em : (m1 : Int) - 1 = (m : Int) := by omega
  have Wm : IntKind.i64.wrap ((m1 : Int) - 1) = (m : Int) := by simp only [IntKind.wrap_i64]; omega
  have hm19 : m1 ≤ 9 := by omega
  have V0 : (4 : Int) * (x : Int) + 4 * (y : Int) + (z : Int) = ((4 * x + 4 * y + z : Nat) : Int) := by omega
  have HV0 := Lib.hid V0
  rw [← hm1] at HV H2 ⊢
  clear hm1 h2 n1 n2 hx hy hz hc b0 b1 b4 h9 V0
  go_enter Try.func21, Try.ntmps21
  go_wp2_with (first | (go_at_call 55; refine (inW_any _ _ _ _).mono ?_; rintro e w' ⟨rfl, rfl⟩; rw [H2.out]))
  refine (HC0.out _).mono ?_
  rintro e w3 ⟨rfl, x3⟩
  go_wp2_with fail
  refine (HC1.out _).mono ?_
  rintro e w4 ⟨rfl, x4⟩
  go_wp2_with fail
  refine (HC4.out _).mono ?_
  rintro e w5 ⟨rfl, x5⟩
  go_wp2
  go_ret2
  exact ⟨ret_iBk (by rw [HV.out, HE.out]; exact HV0.out) rfl, (x3.trans x4).trans x5⟩
end Go.Proofs.Ytmpajijnpoekgaa
