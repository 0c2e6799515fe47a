/- Texts that open all locks: the program's text. No conditions. -/
import Derived.Test.YtdhcknknmloopabOaQ
import Derived.Test.YtdhcknknmloopabOaR
import Derived.Test.YtdhcknknmloopabDgTx
import Derived.Test.YtdhcknknmloopabShelf
namespace Go.Proofs.Ytdhcknknmloopab
open Go.RowKit

theorem rep48 (c : Nat) : Lib.repeatL [(48 : UInt8)] c = List.replicate c 48 := by
  induction c with
  | zero => rfl
  | succ c ih => simp [Lib.repeatL, List.replicate_succ, ← ih]
theorem rep0_any (c : Nat) (w : World) (hc : c ≤ 10) : Calls Try.prog 84 #[.string ⟨#[48]⟩, .int .i64 (c : Int)] w fun e w' => e = .returned (.string (dT (List.replicate c 0))) ∧ Ext w w' :=
  (Try.strings_Repeat ⟨#[48]⟩ c w (by omega) (by show 1 * c ≤ _; omega)).mono fun e w' h => ⟨by
    rw [h.1]
    congr 2
    unfold dT dA
    congr 2
    rw [show (⟨#[48]⟩ : ByteArray).data.toList = [48] from rfl, rep48, List.map_replicate]
    rfl, h.2⟩

set_option maxRecDepth 100000 in
set_option maxHeartbeats 2000000 in
theorem oaI_txt (D n : Int) (w : World) : Calls Try.prog 42 #[.int .i64 D, .int .i64 n] w fun e w' => e = .returned (.tuple #[.string (otV D n), .bool (coG D n)]) ∧ Ext w w' := by
  have HP := Lib.hid (fun w => canOpen_any D n w)
  cases hc : coG D n
  · rw [otV_no hc]
    rw [hc] at HP
    go_enter Try.func42, Try.ntmps42
    go_wp2_with (fail)
    refine (HP.out _).mono ?_
    rintro e w' ⟨rfl, rfl⟩
    go_wp2
    go_ret2
    exact ⟨rfl, Ext.refl _⟩
  · obtain ⟨d, l, rfl, rfl, hd1, hd2, hl1, hl2, h300⟩ := coG_parts hc
    obtain ⟨r, hr, he, hr4, hr10, _, _⟩ := same_of (okDL_of hd1 hd2 hl1 hl2 h300)
    rw [otV_yes hc]
    rw [hc] at HP
    have HV := Lib.hid (show dT (oaL d l) = dT r ++ dT (List.replicate (l - 1) 0) by rw [← he, dT_app])
    have HRO := Lib.hid (fun w => round_any d l r w hr ⟨by omega, hl2⟩ ⟨hd1, hd2⟩)
    have HDT := Lib.hid (fun v w (h : Ps w v r) => digitsText_any v r w h hr10 (by omega))
    have HREP := Lib.hid (fun w => rep0_any (l - 1) w (by omega))
    rw [show ((l - 1 : Nat) : Int) = (l : Int) - 1 by omega] at HREP
    have hz1 : (dT r).size ≤ 400 := by rw [dT_size]; exact hr4
    have hz2 : (dT (List.replicate (l - 1) 0)).size ≤ 4 := by rw [dT_size, List.length_replicate]; omega
    obtain ⟨T, hT⟩ : ∃ T, T = dT r := ⟨_, rfl⟩
    obtain ⟨M, hM⟩ : ∃ M, M = dT (List.replicate (l - 1) 0) := ⟨_, rfl⟩
    rw [← hT] at HDT HV hz1
    rw [← hM] at HREP HV hz2
    clear hT hM he hr hr10 hc h300
    go_enter Try.func42, Try.ntmps42
    go_wp2_with (fail)
    refine (HP.out _).mono ?_
    rintro e w' ⟨rfl, rfl⟩
    go_wp2_with (fail)
    refine (HRO.out _).mono ?_
    rintro e w1 ⟨v1, rfl, h1, x1⟩
    have HPS := Lib.hid (RowP.ps h1 (by unfold maxLen; omega))
    have HX1 := Lib.hid x1
    clear h1 x1
    go_wp2_with (fail)
    refine (HDT.out _ _ HPS.out).mono ?_
    rintro e w2 ⟨rfl, x2⟩
    have HX2 := Lib.hid (HX1.out.trans x2)
    clear x2
    go_wp2_with (fail)
    refine (HREP.out _).mono ?_
    rintro e w3 ⟨rfl, x3⟩
    have HX3 := Lib.hid (HX2.out.trans x3)
    clear x3
    go_wp2
    go_ret2
    rw [HV.out]
    exact ⟨rfl, HX3.out⟩
end Go.Proofs.Ytdhcknknmloopab
