/- For every keys, start and kind of distance the program's OneThumb answers as its model does. No conditions. -/
import Derived.Test.YtnnbpcookemilaaRows
import Derived.Test.YtnnbpcookemilaaLaw
import Derived.Test.YtnnbpcookemilaaSteps
namespace Go.Proofs.Ytnnbpcookemilaa.oneThumb
open Go.ChangeShapes Go.WideShapes Go.ChangeAt Go.RowKit
open Go.ChangeMaps (open_string shut_string)

def otV (s a : ByteArray) (c : Bool) : Int := (if dlB s [a] then wlk c (p1 a) (plcs s) else 0 : Nat)
theorem otV_no {s a : ByteArray} {c : Bool} (h : dlB s [a] = false) : otV s a c = 0 := by unfold otV; rw [h]; rfl
theorem otV_yes {s a : ByteArray} {c : Bool} (h : dlB s [a] = true) : otV s a c = (wlk c (p1 a) (plcs s) : Nat) := by unfold otV; rw [h]; rfl
theorem dl1 {s a : ByteArray} (h : dlB s [a] = true) : oneD a = true ∧ isD s = true := by unfold dlB at h; simpa using h
theorem dl1_no {s a : ByteArray} (h : oneD a = false) : dlB s [a] = false := by unfold dlB; simp [h]
theorem dl1_no2 {s a : ByteArray} (h : isD s = false) : dlB s [a] = false := by unfold dlB; simp [h]

set_option maxHeartbeats 1000000 in
theorem impl_any (s a : ByteArray) (c : Bool) (w : World) (hs : s.size ≤ maxLen) (ha : a.size ≤ maxLen) : Calls Try.prog 20 #[.string s, .string a, .bool c] w fun e w' => e = .returned (.tuple #[.int .i64 (otV s a c), .bool (dlB s [a])]) ∧ Ext w w' := by
  have X0 : Ext w (w.alloc (.cells #[.string a] 9)) := Below.alloc (Ext.refl _) (Nat.le_refl _) _
  have S0 := Lib.hid (strs1 w a 9 ha)
  cases h : dlB s [a]
  · have HV := Lib.hid (otV_no (c := c) h)
    go_enter Try.func20, Try.ntmps20
    go_wp2_with (go_at_call 51; refine (canDial_any _ _ _ _ S0.out hs).mono ?_; rintro e w1 ⟨rfl, x1⟩; rw [h])
    go_ret2
    exact ⟨by rw [HV.out]; rfl, X0.trans x1⟩
  · have HV := Lib.hid (otV_yes (c := c) h)
    obtain ⟨ho, hd⟩ := dl1 h
    have hp := p1_lt a
    have HPL := Lib.hid (plcs_lt s)
    have h30 : (plcs s).length ≤ 30 := by rw [plcs_len]; exact isD_size hd
    have h1000 : (plcs s).length ≤ 1000 := by omega
    have hml : (plcs s).length ≤ maxLen := by unfold maxLen; omega
    go_enter Try.func20, Try.ntmps20
    go_wp2_with (go_at_call 51; refine (canDial_any _ _ _ _ S0.out hs).mono ?_; rintro e w1 ⟨rfl, x1⟩; rw [h])
    have X1 : Ext w w1 := X0.trans x1
    refine (walkWith_any c w1).mono ?_
    rintro e w2 ⟨f, rfl, hf, x2⟩
    obtain ⟨C, rfl, hC, hcC⟩ := hf
    go_wp2_with (go_at_call 49; refine (place1_any _ _ (by assumption)).mono ?_; rintro e w' ⟨rfl, rfl⟩)
    refine (placesOf_any s w2 hd).mono ?_
    rintro e w3 ⟨v, rfl, hv, x3⟩
    have hP := Lib.hid (RowP.ps hv hml)
    have hC3 : C < w3.heap.size := Nat.lt_of_lt_of_le hC x3.size
    have hcC3 := (x3.cell (p := ⟨C, 0, none⟩) hC).trans hcC
    clear hv hcC
    go_wp2_with fail
    refine (wlk_any (p1 a) v (plcs s) C c w3 hP.out hC3 hcC3 hp HPL.out h1000).mono ?_
    rintro e w4 ⟨rfl, x4⟩
    go_wp2
    go_ret2
    exact ⟨by rw [HV.out]; rfl, ((X1.trans x2).trans x3).trans x4⟩

set_option maxHeartbeats 1000000 in
theorem spec_any (s a : ByteArray) (c : Bool) (w : World) (hs : s.size ≤ maxLen) (ha : a.size ≤ maxLen) : Calls Try.prog 19 #[.string s, .string a, .bool c] w fun e w' => e = .returned (.tuple #[.int .i64 (otV s a c), .bool (dlB s [a])]) ∧ Ext w w' := by
  cases h1 : isD s
  · have H := Lib.hid (dl1_no2 (a := a) h1)
    have HV := Lib.hid (otV_no (c := c) H.out)
    go_enter Try.func19, Try.ntmps19
    go_wp2_with (go_at_call 43; refine (thGood_any _ _ hs).mono ?_; rintro e w' ⟨rfl, rfl⟩; rw [h1])
    go_ret2
    exact ⟨by rw [HV.out, H.out]; rfl, Ext.refl _⟩
  cases h2 : oneD a
  · have H := Lib.hid (dl1_no (s := s) h2)
    have HV := Lib.hid (otV_no (c := c) H.out)
    go_enter Try.func19, Try.ntmps19
    go_wp2_with (first | (go_at_call 43; refine (thGood_any _ _ hs).mono ?_; rintro e w' ⟨rfl, rfl⟩; rw [h1]) | (go_at_call 45; refine (thOne_any _ _ ha).mono ?_; rintro e w' ⟨rfl, rfl⟩; rw [h2]))
    go_ret2
    exact ⟨by rw [HV.out, H.out]; rfl, Ext.refl _⟩
  have H := Lib.hid (show dlB s [a] = true by unfold dlB; simp [h1, h2])
  have HV := Lib.hid (otV_yes (c := c) H.out)
  have g1 := oneD_get h2
  have e1 := Lib.hid (p1_get h2)
  have k1 := oneD_size h2
  have i1 : 0 < a.size := by omega
  have z1 : ∀ w, (Instr.index 9 (.string a) (.int .i64 0)).run Try.prog w = .ok (.int .u8 (a[0]'i1).toNat) w := fun w => ixS0 a i1 w
  go_enter Try.func19, Try.ntmps19
  go_wp2_with (first | (go_at_call 43; refine (thGood_any _ _ hs).mono ?_; rintro e w' ⟨rfl, rfl⟩; rw [h1]) | (go_at_call 45; refine (thOne_any _ _ ha).mono ?_; rintro e w' ⟨rfl, rfl⟩; rw [h2]) | (go_at_call 50; refine (thWalk_any _ _ _ _ h1 g1).mono ?_; rintro e w1 ⟨rfl, x1⟩))
  go_ret2
  exact ⟨by rw [HV.out, H.out, ← e1.out]; rfl, x1⟩

set_option maxHeartbeats 1000000 in
theorem walk (s0 : ByteArray) (hs0 : s0.size ≤ maxLen) (s1 : ByteArray) (hs1 : s1.size ≤ maxLen) (s2 : Bool) (w : World) : Calls Try.prog 5 #[.string s0, .string s1, .bool s2] w fun e w' => e = .returned (.bool true) ∧ Ext w w' := by
  have h63_0 : s0.size ≤ 9223372036854775807 := hs0
  have h63_1 : s1.size ≤ 9223372036854775807 := hs1
  obtain ⟨X0, hX0⟩ : ∃ X, X = (otV s0 s1 s2) := ⟨_, rfl⟩
  obtain ⟨ok, hok⟩ : ∃ X, X = (dlB s0 [s1]) := ⟨_, rfl⟩
  have HP := Lib.hid (show ∀ w, Calls Try.prog 19 #[.string s0, .string s1, .bool s2] w fun e w' => e = .returned (.tuple #[.int .i64 X0, .bool ok]) ∧ Ext w w' from fun w => by rw [hX0, hok]; exact spec_any s0 s1 s2 w hs0 hs1 )
  have HM := Lib.hid (show ∀ w, Calls Try.prog 20 #[.string s0, .string s1, .bool s2] w fun e w' => e = .returned (.tuple #[.int .i64 X0, .bool ok]) ∧ Ext w w' from fun w => by rw [hX0, hok]; exact impl_any s0 s1 s2 w hs0 hs1 )
  clear hX0 hok
  by_cases hbig0 : 1048576 < s0.size
  · go_enter Try.func5, Try.ntmps5
    go_wp2
    go_ret
    exact ⟨rfl, Ext.refl _⟩
  by_cases hbig1 : 1048576 < s1.size
  · go_enter Try.func5, Try.ntmps5
    go_wp2
    go_ret
    exact ⟨rfl, Ext.refl _⟩
  go_enter Try.func5, Try.ntmps5
  go_wp2_with fail
  refine (HP.out _).mono ?_
  rintro e w1 ⟨rfl, x1⟩
  go_wp2_with fail
  refine (HM.out _).mono ?_
  rintro e w2 ⟨rfl, x2⟩
  go_wp2
  go_ret
  exact ⟨rfl, x1.trans x2⟩

set_option maxRecDepth 100000 in
theorem contract (H : Type) (enc : TypeId × Value → H) (W : World) (base : Nat) (args : Array Value) (ds gs : List (DataW H)) (before : List MemPlace)
    (hval : ∀ (j : Nat) t v, Try.f5.params[j]? = some t → args[j]? = some v → Value.okWide Try.prog W .any base t v)
    (hW : DataW.Whole enc Try.prog Try.f5.params.toList Rows.fnExactOneThumbSpec.vars false W args.toList ds gs before) :
    Calls Try.prog 5 args W fun e W' => ∃ v, e = .returned v ∧ Rows.fnExactOneThumbSpec.post enc Try.prog Try.f5 false true false false W args v W' := by
  have hW' := hW
  obtain ⟨p, q, hA0, hV, rfl, hfz, hnd⟩ := hW
  have hA : DataW.TrodAll enc Try.prog W 0 (fun _ => true) true Try.f5.params.toList args.toList ds p := hA0
  rw [Try.params5] at hA hval
  obtain ⟨v0, vs0, d0, ds0, p0, q0, hargs0, rfl, rfl, h0, r0⟩ := trodAll_cons hA
  obtain ⟨v1, vs1, d1, ds1, p1, q1, hargs1, rfl, rfl, h1, r1⟩ := trodAll_cons r0
  obtain ⟨v2, vs2, d2, ds2, p2, q2, hargs2, rfl, rfl, h2, r2⟩ := trodAll_cons r1
  obtain ⟨rfl, rfl, rfl⟩ := trodAll_nil r2
  subst hargs2
  subst hargs1
  obtain rfl : args = #[v0, v1, v2] := Array.toList_inj.1 hargs0
  obtain ⟨s0, rfl, rfl, rfl, z0⟩ := open_string Try.underlying9 (hval 0 9 v0 rfl rfl) h0
  obtain ⟨s1, rfl, rfl, rfl, z1⟩ := open_string Try.underlying9 (hval 1 9 v1 rfl rfl) h1
  obtain ⟨s2, rfl, rfl, rfl⟩ := open_bool Try.underlying4 (hval 2 4 v2 rfl rfl) h2
  clear hA0
  refine (walk s0 z0 s1 z1 s2 W).mono fun e W' ⟨he, hx⟩ => ?_
  subst he
  exact ⟨_, rfl, post_true (tb := 4) laidOut (by rw [Try.params5]; intro t ht; simp at ht; rcases ht with rfl | rfl <;> exact ⟨by kernel_rfl, of_decide_eq_true (by kernel_rfl)⟩) (by kernel_rfl) hW' hx (by obtain ⟨rfl, rfl⟩ := trodVars_none hV; rfl) rfl Try.underlying4⟩

set_option maxRecDepth 100000 in
theorem lifted (os : Os) (started : os.Started) (H : Type) (enc : TypeId × Value → H) :
    ReturnsInHanded {} Try.checked os 5 .any (Rows.fnExactOneThumbSpec.pre6 enc Try.prog Try.f5 Rows.fnExactOneThumbRow.domain false) (Rows.fnExactOneThumbSpec.post enc Try.prog Try.f5 false true false false) := by
  refine returnsInHanded_of_change (C := Try.checked) own started (by kernel_rfl) Try.func5
    (ChangeSpec.witness6 (enc := enc) (C := Try.checked) false ⟨#[], #[.string ByteArray.empty, .string ByteArray.empty, .bool false], []⟩ 8 (by kernel_rfl) (by kernel_rfl) (by kernel_rfl) (by kernel_rfl)) ?_
  intro W base args ds gs before hval hW _ _
  exact contract H enc W base args ds gs before hval hW

theorem said : Rows.FnExactOneThumbSaid :=
  OpenClaim.holds_of_wide 5 Try.f5 rfl rfl rfl rfl rfl rfl rfl ⟨rfl, rfl, rfl, rfl, rfl⟩ rfl rfl rfl rfl rfl (by kernel_rfl) Try.func5 (by kernel_rfl)
    (of_decide_eq_true (by kernel_rfl)) (by unfold Func.isWrapper; first | (rw [if_pos (by decide +kernel)]; kernel_rfl) | (rw [if_neg (by decide +kernel)]; exact ⟨rfl, rfl⟩))
    (fun os started H enc _ => lifted os started H enc)
end Go.Proofs.Ytnnbpcookemilaa.oneThumb
