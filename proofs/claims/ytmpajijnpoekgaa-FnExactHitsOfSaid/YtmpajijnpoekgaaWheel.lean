/- Wheels that are turned: both sides. No conditions. -/
import Derived.Test.YtmpajijnpoekgaaPin
import Derived.Test.YtmpajijnpoekgaaWg
import Derived.Test.YtmpajijnpoekgaaNm
import Derived.Test.YtmpajijnpoekgaaDgTx
import Derived.Deep.RegionWith
namespace Go.Proofs.Ytmpajijnpoekgaa
open Go.RowKit

/-! ### From one pin to another one -/
def wd (x y : Nat) : Nat := min (absd x y) (10 - absd x y)
def wtK (s t : ByteArray) : Nat → Nat
  | 0 => 0
  | k + 1 => wtK s t k + wd (dgt s k) (dgt t k)
theorem wd_le {x y : Nat} (_hx : x < 10) (_hy : y < 10) : wd x y ≤ 5 := by unfold wd absd; omega
def wtV (s t : ByteArray) : Int := if evB s t then (wtK s t s.size : Nat) else 0
theorem wtV_no {s t : ByteArray} (h : evB s t = false) : wtV s t = 0 := by unfold wtV; rw [h]; rfl
theorem wtV_yes {s t : ByteArray} (h : evB s t = true) : wtV s t = (wtK s t s.size : Nat) := by unfold wtV; rw [h]; rfl
theorem ret_iBt {a a' : Int} {b b' : Bool} (h : a = a') (h2 : b = b') : Ending.returned (.tuple #[.int .i64 a, .bool b]) = .returned (.tuple #[.int .i64 a', .bool b']) := by rw [h, h2]

set_option maxHeartbeats 1000000 in
theorem wtI_any (s t : ByteArray) (w : World) (hs : s.size ≤ maxLen) (ht : t.size ≤ maxLen) : Calls Try.prog 39 #[.string s, .string t] w fun e w' => e = .returned (.tuple #[.int .i64 (wtV s t), .bool (evB s t)]) ∧ Ext w w' := by
  cases h : evB s t
  · have HV := Lib.hid (wtV_no h)
    go_enter Try.func39, Try.ntmps39
    go_wp2_with (go_at_call 64; refine (even_any _ _ _ hs ht).mono ?_; rintro e w' ⟨rfl, rfl⟩; rw [h])
    go_ret2
    exact ⟨ret_iBt HV.out.symm rfl, Ext.refl _⟩
  have HV := Lib.hid (wtV_yes h)
  obtain ⟨p1, p2, p3⟩ := evB_parts h
  have k1 := pinB_wk p1
  have k2 := pinB_wk p2
  have hz := pinB_size p1
  have HD1 := Lib.hid k1
  have HD2 := Lib.hid k2
  have HL1 := Lib.hid (dgs_len s)
  have HL2 := Lib.hid (show (dgs t).length = s.size by rw [dgs_len, p3])
  have HP3 := Lib.hid p3
  clear p1 p2 p3 k1 k2
  go_enter Try.func39, Try.ntmps39
  go_wp2_with (go_at_call 64; refine (even_any _ _ _ hs ht).mono ?_; rintro e w' ⟨rfl, rfl⟩; rw [h])
  refine (digitsOf_any s w HD1.out).mono ?_
  rintro e w1 ⟨v1, rfl, hv1, x1⟩
  clear h
  go_wp2_with fail
  refine (digitsOf_any t w1 HD2.out).mono ?_
  rintro e w2 ⟨v2, rfl, hv2, x2⟩
  have HO1 := Lib.hid (hv1.ext x2)
  have HO2 := Lib.hid hv2
  obtain ⟨a1, cap1, rfl⟩ := hv1.shape
  obtain ⟨a2, cap2, rfl⟩ := hv2.shape
  clear hv1 hv2
  rw [HL1.out]
  rw [HL2.out]
  go_wp2
  go_loopw [8, 21] (fun o i wr => ∃ k : Nat, k ≤ s.size ∧ i = .int .i64 k ∧ o = .int .i64 (wtK s t k : Nat) ∧ wtK s t k ≤ 5 * k ∧ Ext w2 wr) (fun _ i _ => s.size - (intOf i).toNat)
  case atStart => exact ⟨0, Nat.zero_le _, rfl, rfl, Nat.zero_le _, Ext.refl _⟩
  case round =>
    obtain ⟨k, hk, rfl, rfl, hbd, hx⟩ := hrel
    by_cases hlt : k < s.size
    · have a10 := (dgt_of HD1.out hlt).1
      have b10 := (dgt_of HD2.out (show k < t.size by have := HP3.out; omega)).1
      have hkl1 : k < (dgs s).length := by rw [HL1.out]; omega
      have hkl2 : k < (dgs t).length := by rw [HL2.out]; omega
      have h01 := HO1.out.ext hx
      have h02 := HO2.out.ext hx
      obtain ⟨g1, ha1, _, _, c1, _⟩ := h01.at k hkl1
      obtain ⟨g2, ha2, _, _, c2, _⟩ := h02.at k hkl2
      rw [dgs_at] at c1 c2
      have HS := Lib.hid (show wtK s t (k + 1) = wtK s t k + wd (dgt s k) (dgt t k) from rfl)
      have hwd := wd_le a10 b10
      obtain ⟨x, hx0⟩ : ∃ x, x = dgt s k := ⟨_, rfl⟩
      obtain ⟨y, hy0⟩ : ∃ y, y = dgt t k := ⟨_, rfl⟩
      obtain ⟨o, ho⟩ : ∃ o, o = wtK s t k := ⟨_, rfl⟩
      rw [← hx0] at a10 c1 HS hwd
      rw [← hy0] at b10 c2 HS hwd
      rw [← ho] at hbd HS ⊢
      have hki : (k : Int) < (s.size : Int) := by omega
      obtain ⟨q, hq⟩ : ∃ q, q = absd x y := ⟨_, rfl⟩
      have hq10 : q < 10 := by rw [hq]; unfold absd; omega
      have E1 : max ((x : Int) - (y : Int)) ((y : Int) - (x : Int)) = (q : Int) := by rw [hq]; unfold absd; omega
      obtain ⟨r, hr⟩ : ∃ r, r = wd x y := ⟨_, rfl⟩
      have E2 : min (q : Int) (10 - (q : Int)) = (r : Int) := by rw [hr, hq]; unfold wd; omega
      rw [← hr] at HS hwd
      subst ha1 ha2
      clear hx0 hy0 ho h01 h02 hq hr hkl1 hkl2 hlt
      go_wp2
      go_quiet (fail)
      go_wp2
      go_roundw
      case rel => exact ⟨k + 1, by omega, by go_num, by rw [HS.out]; first | rfl | go_num, by rw [HS.out]; omega, ext_drewN hx _⟩
      case measure => simp [intOf]; omega
    · have HK := Lib.hid (show k = s.size by omega)
      go_wp2
      go_ret2
      exact ⟨ret_iBt (by rw [HV.out, HK.out]) rfl, (x1.trans x2).trans hx⟩

theorem least_any (a b : Int) (w : World) : Calls Try.prog 76 #[.int .i64 a, .int .i64 b] w fun e w' => e = .returned (.int .i64 (min a b)) ∧ w = w' := by
  by_cases h0 : a < b
  · go_enter Try.func76, Try.ntmps76
    go_wp2
    all_goals go_ret
    all_goals exact ⟨ret_iD (by omega), rfl⟩
  · go_enter Try.func76, Try.ntmps76
    go_wp2
    all_goals go_ret
    all_goals exact ⟨ret_iD (by omega), rfl⟩

set_option maxHeartbeats 1000000 in
theorem wtS_any (s t : ByteArray) (w : World) (hs : s.size ≤ maxLen) (ht : t.size ≤ maxLen) : Calls Try.prog 38 #[.string s, .string t] w fun e w' => e = .returned (.tuple #[.int .i64 (wtV s t), .bool (evB s t)]) ∧ Ext w w' := by
  have hs2 := hs
  have ht2 := ht
  unfold maxLen at hs2 ht2
  cases h1 : pinB s
  · have HG := Lib.hid (evB_a (b := t) h1)
    have HV := Lib.hid (wtV_no HG.out)
    go_enter Try.func38, Try.ntmps38
    go_wp2_with (go_at_call 61; refine (piPin_any _ _ (by assumption)).mono ?_; rintro e w' ⟨rfl, rfl⟩; rw [h1])
    go_ret2
    exact ⟨ret_iBt HV.out.symm HG.out.symm, Ext.refl _⟩
  cases h2 : pinB t
  · have HG := Lib.hid (evB_b (a := s) h2)
    have HV := Lib.hid (wtV_no HG.out)
    go_enter Try.func38, Try.ntmps38
    go_wp2_with (go_at_call 61; refine (piPin_any _ _ (by assumption)).mono ?_; rintro e w' ⟨rfl, rfl⟩; first | rw [h1] | rw [h2])
    go_ret2
    exact ⟨ret_iBt HV.out.symm HG.out.symm, Ext.refl _⟩
  by_cases h3 : ¬ s.size = t.size
  · have HG := Lib.hid (evB_n h3)
    have HV := Lib.hid (wtV_no HG.out)
    have hb : ((s.size : Int) == (t.size : Int)) = false := by simp; omega
    have hn : ¬ (s.size : Int) = (t.size : Int) := by omega
    clear h3
    go_enter Try.func38, Try.ntmps38
    go_wp2_with (go_at_call 61; refine (piPin_any _ _ (by assumption)).mono ?_; rintro e w' ⟨rfl, rfl⟩; first | rw [h1] | rw [h2])
    go_ret2
    exact ⟨ret_iBt HV.out.symm HG.out.symm, Ext.refl _⟩
  replace h3 : s.size = t.size := Decidable.not_not.1 h3
  have HG := Lib.hid (show evB s t = true by unfold evB; rw [h1, h2, decide_eq_true h3]; rfl)
  have HV := Lib.hid (wtV_yes HG.out)
  have HD1 := Lib.hid (pinB_wk h1)
  have HD2 := Lib.hid (pinB_wk h2)
  have hz := pinB_size h1
  have hb : ((s.size : Int) == (t.size : Int)) = true := by simp [h3]
  have hnb : ((s.size : Int) != (t.size : Int)) = false := by simp [h3]
  have hbi : (s.size : Int) = (t.size : Int) := by omega
  have HP3 := Lib.hid h3
  have H1 := Lib.hid h1
  have H2 := Lib.hid h2
  clear h1 h2 h3
  have hbx := Lib.hid hbi
  clear hbi
  go_enter Try.func38, Try.ntmps38
  go_wp2_with (go_at_call 61; refine (piPin_any _ _ (by assumption)).mono ?_; rintro e w' ⟨rfl, rfl⟩; first | rw [H1.out] | rw [H2.out])
  clear hb
  go_loopw [6, 7] (fun o i wr => ∃ k : Nat, k ≤ s.size ∧ i = .int .i64 k ∧ o = .int .i64 (wtK s t k : Nat) ∧ wtK s t k ≤ 5 * k ∧ Ext w wr) (fun _ i _ => s.size - (intOf i).toNat)
  case atStart => exact ⟨0, Nat.zero_le _, rfl, rfl, Nat.zero_le _, Ext.refl _⟩
  case round =>
    obtain ⟨k, hk, rfl, rfl, hbd, hx⟩ := hrel
    by_cases hlt : k < s.size
    · have hlt2 : k < t.size := by have := HP3.out; omega
      obtain ⟨a10, a48⟩ := dgt_of HD1.out hlt
      obtain ⟨b10, b48⟩ := dgt_of HD2.out hlt2
      have ia : ∀ w, (Instr.index 9 (.string s) (.int .i64 (k : Int))).run Try.prog w = .ok (.int .u8 ((dgt s k : Int) + 48)) w := fun w => by rw [← a48]; exact ixS s k hlt w
      have ib : ∀ w, (Instr.index 9 (.string t) (.int .i64 (k : Int))).run Try.prog w = .ok (.int .u8 ((dgt t k : Int) + 48)) w := fun w => by rw [← b48]; exact ixS t k hlt2 w
      have HS := Lib.hid (show wtK s t (k + 1) = wtK s t k + wd (dgt s k) (dgt t k) from rfl)
      have hwd := wd_le a10 b10
      obtain ⟨x, hx0⟩ : ∃ x, x = dgt s k := ⟨_, rfl⟩
      obtain ⟨y, hy0⟩ : ∃ y, y = dgt t k := ⟨_, rfl⟩
      obtain ⟨o, ho⟩ : ∃ o, o = wtK s t k := ⟨_, rfl⟩
      rw [← hx0] at a10 ia HS hwd
      rw [← hy0] at b10 ib HS hwd
      rw [← ho] at hbd HS ⊢
      obtain ⟨q, hq⟩ : ∃ q, q = absd x y := ⟨_, rfl⟩
      have hq10 : q < 10 := by rw [hq]; unfold absd; omega
      have HA := Lib.hid (fun w => (show Calls Try.prog 75 #[.int .i64 ((x : Int) - (y : Int))] w fun e w' => e = .returned (.int .i64 (q : Int)) ∧ w = w' from (absA_any _ w (by omega) (by omega)).mono fun e w' h => ⟨h.1.trans (ret_iD (by rw [hq]; unfold absd; omega)), h.2⟩))
      obtain ⟨r, hr⟩ : ∃ r, r = wd x y := ⟨_, rfl⟩
      have HM := Lib.hid (fun w => (show Calls Try.prog 76 #[.int .i64 (q : Int), .int .i64 (10 - (q : Int))] w fun e w' => e = .returned (.int .i64 (r : Int)) ∧ w = w' from (least_any _ _ w).mono fun e w' h => ⟨h.1.trans (ret_iD (by rw [hr, hq]; unfold wd; omega)), h.2⟩))
      rw [← hr] at HS hwd
      have Wxy : (x : Int) + 48 - ((y : Int) + 48) = (x : Int) - (y : Int) := by omega
      have Wxw : IntKind.i64.wrap ((x : Int) + 48 - ((y : Int) + 48)) = (x : Int) - (y : Int) := by simp only [IntKind.wrap_i64]; omega
      clear hx0 hy0 ho hq hr a48 b48
      go_wp2
      go_quiet (first | exact Calls.quiet_of_same ((HA.out _).mono fun e w' h => ⟨h.1, h.2.symm⟩))
      go_wp2_with (first | (go_at_call 76; refine (HM.out _).mono ?_; rintro e w' ⟨rfl, rfl⟩))
      go_roundw
      case rel => exact ⟨k + 1, by omega, by go_num, by rw [HS.out]; first | rfl | go_num, by rw [HS.out]; omega, ext_drewN hx _⟩
      case measure => simp [intOf]; omega
    · have HK := Lib.hid (show k = s.size by omega)
      go_wp2
      go_ret2
      exact ⟨ret_iBt (by rw [HV.out, HK.out]) HG.out.symm, hx⟩
end Go.Proofs.Ytmpajijnpoekgaa
