/- For every two texts and kind of distance the program's KeyDistance answers as its model does. No conditions. -/
import Derived.Test.YtnnbpcookemilaaRows
import Derived.Test.YtnnbpcookemilaaLaw
import Derived.Test.YtnnbpcookemilaaFar
import Derived.Test.YtnnbpcookemilaaStrs
namespace Go.Proofs.Ytnnbpcookemilaa.keyDistance
open Go.ChangeShapes Go.WideShapes Go.ChangeAt Go.RowKit
open Go.ChangeMaps (open_string shut_string)

def kdV (a b : ByteArray) (c : Bool) : Int := (if oneD a && oneD b then far c (p1 a) (p1 b) else 0 : Nat)

theorem impl_any (a b : ByteArray) (c : Bool) (w : World) (ha : a.size ≤ maxLen) (hb : b.size ≤ maxLen) : Calls Try.prog 18 #[.string a, .string b, .bool c] w fun e w' => e = .returned (.tuple #[.int .i64 (kdV a b c), .bool (oneD a && oneD b)]) ∧ Ext w w' :=
  (keyDistance_any a b c w ha hb).mono fun _ _ ⟨h, k⟩ => ⟨h, k ▸ Ext.refl _⟩
set_option maxHeartbeats 1000000 in
theorem spec_any (a b : ByteArray) (c : Bool) (w : World) (ha : a.size ≤ maxLen) (hb : b.size ≤ maxLen) : Calls Try.prog 17 #[.string a, .string b, .bool c] w fun e w' => e = .returned (.tuple #[.int .i64 (kdV a b c), .bool (oneD a && oneD b)]) ∧ Ext w w' := by
  unfold kdV
  cases h1 : oneD a
  · go_enter Try.func17, Try.ntmps17
    go_wp2_with (go_at_call 45; refine (thOne_any _ _ (by assumption)).mono ?_; rintro e w' ⟨rfl, rfl⟩; rw [h1])
    go_ret2
    exact ⟨rfl, Ext.refl _⟩
  cases h2 : oneD b
  · go_enter Try.func17, Try.ntmps17
    go_wp2_with (go_at_call 45; refine (thOne_any _ _ (by assumption)).mono ?_; rintro e w' ⟨rfl, rfl⟩; first | rw [h1] | rw [h2])
    go_ret2
    exact ⟨rfl, Ext.refl _⟩
  have k1 := oneD_size h1
  have k2 := oneD_size h2
  have i1 : 0 < a.size := by omega
  have i2 : 0 < b.size := by omega
  have g1 := oneD_get h1
  have g2 := oneD_get h2
  have z1 : ∀ w, (Instr.index 9 (.string a) (.int .i64 0)).run Try.prog w = .ok (.int .u8 (a[0]'i1).toNat) w := fun w => ixS0 a i1 w
  have z2 : ∀ w, (Instr.index 9 (.string b) (.int .i64 0)).run Try.prog w = .ok (.int .u8 (b[0]'i2).toNat) w := fun w => ixS0 b i2 w
  have e1 := Lib.hid (p1_get h1)
  have e2 := Lib.hid (p1_get h2)
  go_enter Try.func17, Try.ntmps17
  go_wp2_with (first | (go_at_call 45; refine (thOne_any _ _ (by assumption)).mono ?_; rintro e w' ⟨rfl, rfl⟩; first | rw [h1] | rw [h2]) | (go_at_call 46; refine (thFar_any _ _ _ _ (by assumption) (by assumption)).mono ?_; rintro e w' ⟨rfl, rfl⟩))
  go_quiet (first | (exact Calls.quiet_of_same ((thFar_any _ _ _ _ (by assumption) (by assumption)).mono fun e w' h => ⟨h.1, h.2.symm⟩)))
  go_wp2
  go_ret2
  exact ⟨by rw [e1.out, e2.out]; rfl, ext_drewN (Ext.refl _) _⟩

set_option maxHeartbeats 1000000 in
theorem walk (s0 : ByteArray) (hs0 : s0.size ≤ maxLen) (s1 : ByteArray) (hs1 : s1.size ≤ maxLen) (s2 : Bool) (w : World) : Calls Try.prog 4 #[.string s0, .string s1, .bool s2] w fun e w' => e = .returned (.bool true) ∧ Ext w w' := by
  have h63_0 : s0.size ≤ 9223372036854775807 := hs0
  have h63_1 : s1.size ≤ 9223372036854775807 := hs1
  obtain ⟨X0, hX0⟩ : ∃ X, X = (kdV s0 s1 s2) := ⟨_, rfl⟩
  obtain ⟨ok, hok⟩ : ∃ X, X = (oneD s0 && oneD s1) := ⟨_, rfl⟩
  have HP := Lib.hid (show ∀ w, Calls Try.prog 17 #[.string s0, .string s1, .bool s2] w fun e w' => e = .returned (.tuple #[.int .i64 X0, .bool ok]) ∧ Ext w w' from fun w => by rw [hX0, hok]; exact spec_any s0 s1 s2 w hs0 hs1 )
  have HM := Lib.hid (show ∀ w, Calls Try.prog 18 #[.string s0, .string s1, .bool s2] w fun e w' => e = .returned (.tuple #[.int .i64 X0, .bool ok]) ∧ Ext w w' from fun w => by rw [hX0, hok]; exact impl_any s0 s1 s2 w hs0 hs1 )
  clear hX0 hok
  by_cases hbig0 : 1048576 < s0.size
  · go_enter Try.func4, Try.ntmps4
    go_wp2
    go_ret
    exact ⟨rfl, Ext.refl _⟩
  by_cases hbig1 : 1048576 < s1.size
  · go_enter Try.func4, Try.ntmps4
    go_wp2
    go_ret
    exact ⟨rfl, Ext.refl _⟩
  go_enter Try.func4, Try.ntmps4
  go_wp2_with fail
  refine (HP.out _).mono ?_
  rintro e w1 ⟨rfl, x1⟩
  go_wp2_with fail
  refine (HM.out _).mono ?_
  rintro e w2 ⟨rfl, x2⟩
  go_wp2
  go_ret
  exact ⟨rfl, x1.trans x2⟩

set_option maxRecDepth 100000 in
theorem contract (H : Type) (enc : TypeId × Value → H) (W : World) (base : Nat) (args : Array Value) (ds gs : List (DataW H)) (before : List MemPlace)
    (hval : ∀ (j : Nat) t v, Try.f4.params[j]? = some t → args[j]? = some v → Value.okWide Try.prog W .any base t v)
    (hW : DataW.Whole enc Try.prog Try.f4.params.toList Rows.fnExactKeyDistanceSpec.vars false W args.toList ds gs before) :
    Calls Try.prog 4 args W fun e W' => ∃ v, e = .returned v ∧ Rows.fnExactKeyDistanceSpec.post enc Try.prog Try.f4 false true false false W args v W' := by
  have hW' := hW
  obtain ⟨p, q, hA0, hV, rfl, hfz, hnd⟩ := hW
  have hA : DataW.TrodAll enc Try.prog W 0 (fun _ => true) true Try.f4.params.toList args.toList ds p := hA0
  rw [Try.params4] at hA hval
  obtain ⟨v0, vs0, d0, ds0, p0, q0, hargs0, rfl, rfl, h0, r0⟩ := trodAll_cons hA
  obtain ⟨v1, vs1, d1, ds1, p1, q1, hargs1, rfl, rfl, h1, r1⟩ := trodAll_cons r0
  obtain ⟨v2, vs2, d2, ds2, p2, q2, hargs2, rfl, rfl, h2, r2⟩ := trodAll_cons r1
  obtain ⟨rfl, rfl, rfl⟩ := trodAll_nil r2
  subst hargs2
  subst hargs1
  obtain rfl : args = #[v0, v1, v2] := Array.toList_inj.1 hargs0
  obtain ⟨s0, rfl, rfl, rfl, z0⟩ := open_string Try.underlying9 (hval 0 9 v0 rfl rfl) h0
  obtain ⟨s1, rfl, rfl, rfl, z1⟩ := open_string Try.underlying9 (hval 1 9 v1 rfl rfl) h1
  obtain ⟨s2, rfl, rfl, rfl⟩ := open_bool Try.underlying4 (hval 2 4 v2 rfl rfl) h2
  clear hA0
  refine (walk s0 z0 s1 z1 s2 W).mono fun e W' ⟨he, hx⟩ => ?_
  subst he
  exact ⟨_, rfl, post_true (tb := 4) laidOut (by rw [Try.params4]; intro t ht; simp at ht; rcases ht with rfl | rfl <;> exact ⟨by kernel_rfl, of_decide_eq_true (by kernel_rfl)⟩) (by kernel_rfl) hW' hx (by obtain ⟨rfl, rfl⟩ := trodVars_none hV; rfl) rfl Try.underlying4⟩

set_option maxRecDepth 100000 in
theorem lifted (os : Os) (started : os.Started) (H : Type) (enc : TypeId × Value → H) :
    ReturnsInHanded {} Try.checked os 4 .any (Rows.fnExactKeyDistanceSpec.pre6 enc Try.prog Try.f4 Rows.fnExactKeyDistanceRow.domain false) (Rows.fnExactKeyDistanceSpec.post enc Try.prog Try.f4 false true false false) := by
  refine returnsInHanded_of_change (C := Try.checked) own started (by kernel_rfl) Try.func4
    (ChangeSpec.witness6 (enc := enc) (C := Try.checked) false ⟨#[], #[.string ByteArray.empty, .string ByteArray.empty, .bool false], []⟩ 8 (by kernel_rfl) (by kernel_rfl) (by kernel_rfl) (by kernel_rfl)) ?_
  intro W base args ds gs before hval hW _ _
  exact contract H enc W base args ds gs before hval hW

theorem said : Rows.FnExactKeyDistanceSaid :=
  OpenClaim.holds_of_wide 4 Try.f4 rfl rfl rfl rfl rfl rfl rfl ⟨rfl, rfl, rfl, rfl, rfl⟩ rfl rfl rfl rfl rfl (by kernel_rfl) Try.func4 (by kernel_rfl)
    (of_decide_eq_true (by kernel_rfl)) (by unfold Func.isWrapper; first | (rw [if_pos (by decide +kernel)]; kernel_rfl) | (rw [if_neg (by decide +kernel)]; exact ⟨rfl, rfl⟩))
    (fun os started H enc _ => lifted os started H enc)
end Go.Proofs.Ytnnbpcookemilaa.keyDistance
