/- How many letters two texts have in common: both sides. No conditions. -/
import Derived.Test.YtcfoicogaggkbaaCmnI
import Derived.Test.YtcfoicogaggkbaaCmnT
namespace Go.Proofs.Ytcfoicogaggkbaa
open Go.RowKit

def clV (a b : ByteArray) : Int := ((fcV a b).size : Nat)
theorem clV_no {a b : ByteArray} (h : fcOk a b = false) : clV a b = 0 := by unfold clV; rw [fc_no h]; rfl
theorem clV_yes {a b : ByteArray} (h : fcOk a b = true) : clV a b = (lcN a b 0 0 : Nat) := by unfold clV; rw [fc_yes h, bT_size, lcN_cm]
theorem ret_iBc {a a' : Int} {b b' : Bool} (h : a = a') (h2 : b = b') : Ending.returned (.tuple #[.int .i64 a, .bool b]) = .returned (.tuple #[.int .i64 a', .bool b']) := by rw [h, h2]

theorem clI_any (a b : ByteArray) (w : World) (ha : a.size ≤ maxLen) (hb : b.size ≤ maxLen) : Calls Try.prog 23 #[.string a, .string b] w fun e w' => e = .returned (.tuple #[.int .i64 (clV a b), .bool (fcOk a b)]) ∧ Ext w w' := by
  have HF := Lib.hid (fun w => fcI_any a b w ha hb)
  have HV := Lib.hid (show ((fcV a b).size : Int) = clV a b from rfl)
  obtain ⟨V, hV⟩ : ∃ V, V = fcV a b := ⟨_, rfl⟩
  rw [← hV] at HF HV
  clear hV
  go_enter Try.func23, Try.ntmps23
  go_wp2_with (go_at_call 25; refine (HF.out _).mono ?_; rintro e w1 ⟨rfl, x1⟩)
  go_ret2
  exact ⟨ret_iBc HV.out rfl, x1⟩

theorem clS_any (a b : ByteArray) (w : World) (ha : a.size ≤ maxLen) (hb : b.size ≤ maxLen) : Calls Try.prog 22 #[.string a, .string b] w fun e w' => e = .returned (.tuple #[.int .i64 (clV a b), .bool (fcOk a b)]) ∧ Ext w w' := by
  have HP := Lib.hid (fun w => bkPair_any a b w ha hb)
  rw [show (isT 20 a && isT 20 b) = fcOk a b from rfl] at HP
  cases h : fcOk a b
  · have HV := Lib.hid (clV_no h)
    rw [h] at HP
    go_enter Try.func22, Try.ntmps22
    go_wp2_with (go_at_call 44; refine (HP.out _).mono ?_; rintro e w1 ⟨rfl, rfl⟩)
    go_ret2
    exact ⟨ret_iBc HV.out.symm rfl, Ext.refl _⟩
  have HV := Lib.hid (clV_yes h)
  have hh : (isT 20 a && isT 20 b) = true := h
  rw [h] at HP
  have hz1 : a.size ≤ 20 := by rw [Bool.and_eq_true] at hh; exact isT_size hh.1
  have hz2 : b.size ≤ 20 := by rw [Bool.and_eq_true] at hh; exact isT_size hh.2
  clear hh
  go_enter Try.func22, Try.ntmps22
  go_wp2_with (first | (go_at_call 44; refine (HP.out _).mono ?_; rintro e w1 ⟨rfl, rfl⟩))
  refine (common_any a b _ hz1 hz2).mono ?_
  rintro e w2 ⟨v, U, rfl, hg, x2⟩
  obtain ⟨ga, cap, rfl⟩ := hg.shape
  obtain ⟨g, rfl, _, _, hcell⟩ := hg.at 0 (by omega)
  have c1 := hcell w2 (Ext.refl _) 0 (by omega)
  have c2 := (hg.inner 0 (by omega)).at 0 (by omega)
  obtain ⟨u, hu⟩ : ∃ u, u = U 0 := ⟨_, rfl⟩
  rw [← hu] at c1 c2
  have hpa : (0 : Int) < (a.size : Int) + 1 := by omega
  have hpb : (0 : Int) < (b.size : Int) + 1 := by omega
  clear hu hcell hg
  go_wp2
  go_ret2
  exact ⟨ret_iBc HV.out.symm rfl, by first | exact x2 | exact ext_drewN x2 _⟩
end Go.Proofs.Ytcfoicogaggkbaa
