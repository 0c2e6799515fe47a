/- Patterns with left and right exchanged: both sides. No conditions. -/
import Derived.Test.YtmpajijnpoekgaaPatS
import Derived.Test.YtmpajijnpoekgaaPatI
import Derived.Test.YtmpajijnpoekgaaMap
import Derived.Test.YtmpajijnpoekgaaNm
namespace Go.Proofs.Ytmpajijnpoekgaa
open Go.RowKit

theorem mp9 : ∀ p : Nat, p < 9 → mp false p < 9 ∧ (p : Int) - (p : Int) % 3 + 2 - (p : Int) % 3 + 1 = ((mp false p + 1 : Nat) : Int) ∧ dg1T (mp false p + 1) = kB (mp false p) := of_decide_eq_true (by kernel_rfl)
def mdV (t : ByteArray) : ByteArray := if isPt t then kT ((plcs t).map (mp false)) else ⟨#[]⟩
theorem mdV_no {t : ByteArray} (h : isPt t = false) : mdV t = ⟨#[]⟩ := by unfold mdV; rw [h]; rfl
theorem mdV_yes {t : ByteArray} (h : isPt t = true) : mdV t = kT ((plcs t).map (mp false)) := by unfold mdV; rw [h]; rfl
theorem ret_sBm {a a' : ByteArray} {b b' : Bool} (h : a = a') (h2 : b = b') : Ending.returned (.tuple #[.string a, .bool b]) = .returned (.tuple #[.string a', .bool b']) := by rw [h, h2]

theorem mdI_any (t : ByteArray) (w : World) (ht : t.size ≤ maxLen) : Calls Try.prog 26 #[.string t] w fun e w' => e = .returned (.tuple #[.string (mdV t), .bool (isPt t)]) ∧ Ext w w' := by
  cases h : isPt t
  · have HV := Lib.hid (mdV_no h)
    go_enter Try.func26, Try.ntmps26
    go_wp2_with (go_at_call 44; refine (isPat_any _ _ ht).mono ?_; rintro e w1 ⟨rfl, x1⟩; rw [h])
    go_ret2
    exact ⟨ret_sBm HV.out.symm rfl, x1⟩
  have HV := Lib.hid (mdV_yes h)
  have HK := Lib.hid (isPt_all h)
  have h100 : t.size ≤ 100 := by have := isPt_size h; omega
  go_enter Try.func26, Try.ntmps26
  go_wp2_with (first | (go_at_call 44; refine (isPat_any _ _ ht).mono ?_; rintro e w1 ⟨rfl, x1⟩; rw [h]) | (go_at_call 59; refine (mvmirroredPlace_any t _ HK.out h100).mono ?_; rintro e w2 ⟨rfl, x2⟩))
  go_ret2
  exact ⟨ret_sBm HV.out.symm rfl, x1.trans x2⟩

set_option maxHeartbeats 1000000 in
theorem mdS_any (t : ByteArray) (w : World) (ht : t.size ≤ maxLen) : Calls Try.prog 25 #[.string t] w fun e w' => e = .returned (.tuple #[.string (mdV t), .bool (isPt t)]) ∧ Ext w w' := by
  cases h : isPt t
  · have HV := Lib.hid (mdV_no h)
    go_enter Try.func25, Try.ntmps25
    go_wp2_with (go_at_call 42; refine (piPat_any _ _ ht).mono ?_; rintro e w1 ⟨rfl, x1⟩; rw [h])
    go_ret2
    exact ⟨ret_sBm HV.out.symm rfl, x1⟩
  have HV := Lib.hid (mdV_yes h)
  have HD := Lib.hid h
  have hz := isPt_size h
  have HL := Lib.hid (plcs_len t)
  go_enter Try.func25, Try.ntmps25
  go_wp2_with (go_at_call 42; refine (piPat_any _ _ ht).mono ?_; rintro e w1 ⟨rfl, x1⟩; rw [h])
  clear h
  go_loopw [4, 5] (fun o i wr => ∃ k : Nat, k ≤ t.size ∧ i = .int .i64 k ∧ o = .string (kT (((plcs t).map (mp false)).take k)) ∧ Ext w wr) (fun _ i _ => t.size - (intOf i).toNat)
  case atStart => exact ⟨0, Nat.zero_le _, rfl, rfl, x1⟩
  case round =>
    obtain ⟨k, hk, rfl, rfl, hx⟩ := hrel
    by_cases hlt : k < t.size
    · have hlm : k < ((plcs t).map (mp false)).length := by rw [List.length_map, HL.out]; exact hlt
      have hb := isPt_at HD.out k hlt
      have ep := pn_at hb.1 hb.2.1
      obtain ⟨p, hp⟩ : ∃ p, p = pn (t[k]'hlt) := ⟨_, rfl⟩
      have hp9 : p < 9 := by rw [hp, ep.2]; omega
      have hbd : ((t[k]'hlt).toNat : Int) = 49 + (p : Int) := by rw [hp, ep.2]; omega
      obtain ⟨m1, m2, m3⟩ := mp9 p hp9
      have e1 : ((plcs t).map (mp false))[k] = mp false p := by rw [List.getElem_map, plcs_at, hp]
      have HT := Lib.hid (show kT (((plcs t).map (mp false)).take (k + 1)) = kT (((plcs t).map (mp false)).take k) ++ kB (mp false p) by rw [kT_take _ k hlm (by rw [e1]; omega), e1])
      have ik : ∀ w, (Instr.index 9 (.string t) (.int .i64 (k : Int))).run Try.prog w = .ok (.int .u8 (49 + (p : Int))) w := fun w => by rw [← hbd]; exact ixS t k hlt w
      have HNM := Lib.hid (fun w => l1NumD_any (mp false p + 1) w (by omega))
      rw [m3] at HNM
      have hKs := kB_size (mp false p) (by omega)
      obtain ⟨q, hq⟩ : ∃ q, q = mp false p + 1 := ⟨_, rfl⟩
      rw [← hq] at m2 HNM
      obtain ⟨K, hK⟩ : ∃ K, K = kB (mp false p) := ⟨_, rfl⟩
      rw [← hK] at HT HNM hKs
      obtain ⟨r, hr⟩ : ∃ r, r = p % 3 := ⟨_, rfl⟩
      have er : (p : Int) % 3 = (r : Int) := by omega
      have hr3 : r < 3 := by omega
      rw [er] at m2
      have W0 : IntKind.u8.wrap (49 + (p : Int) - 49) = (p : Int) := by rw [IntWalk.u8_in _ (by omega)]; omega
      have hq9 : q ≤ 9 := by omega
      obtain ⟨T, hT⟩ : ∃ T, T = kT (((plcs t).map (mp false)).take k) := ⟨_, rfl⟩
      have hTs : T.size ≤ 9 := by rw [hT, kT_size, List.length_take]; omega
      rw [← hT] at HT ⊢
      clear hr hT hK hq hp hb ep e1 hbd m3 m1 hlm
      go_wp2_with (first | (go_at_call 58; refine (HNM.out _).mono ?_; rintro e w2 ⟨rfl, x2⟩))
      go_roundw
      case rel => exact ⟨k + 1, by omega, by go_num, by rw [HT.out], hx.trans x2⟩
      case measure => simp [intOf]; omega
    · have HE := Lib.hid (show ((plcs t).map (mp false)).take k = (plcs t).map (mp false) from List.take_of_length_le (by rw [List.length_map, HL.out]; omega))
      go_wp2
      go_ret2
      exact ⟨ret_sBm (by rw [HV.out, HE.out]) rfl, hx⟩
end Go.Proofs.Ytmpajijnpoekgaa
