/- For every list of texts the program's IsCodePlan answers as its model does, and leaves the list alone. No conditions. -/
import Derived.Test.YtinojlbnmnlmhaaRows
import Derived.Test.YtinojlbnmnlmhaaLaw
import Derived.Test.YtinojlbnmnlmhaaPlI
import Derived.Test.YtinojlbnmnlmhaaOpenS
namespace Go.Proofs.Ytinojlbnmnlmhaa.isCodePlan
open Go.ChangeShapes Go.WideShapes Go.ChangeAt Go.RowKit
open Go.ChangeMaps (open_string shut_string)

theorem spec_any (v : Value) (ss : List ByteArray) (w : World) (h : Strs w v ss) : Calls Try.prog 16 #[v] w fun e w' => e = .returned (.bool (plB ss)) ∧ Ext w w' := by
  go_enter Try.func16, Try.ntmps16
  go_wp2_with (go_at_call 51; refine (plGood_any _ _ _ h).mono ?_; rintro e w1 ⟨rfl, x1⟩)
  go_ret
  exact ⟨rfl, x1⟩

set_option maxHeartbeats 1000000 in
theorem walk (w : World) (v : Value) (ss : List ByteArray) (h : Strs w v ss) : Calls Try.prog 3 #[v] w fun e w' => e = .returned (.bool true) ∧ Ext w w' := by
  have H := Lib.hid h
  clear h
  go_enter Try.func3, Try.ntmps3
  go_wp2_with (first | (go_at_call 15; refine (szS_any _ _ _ H.out).mono ?_; rintro e w' ⟨r, hr, rfl, rfl⟩))
  · go_ret
    exact ⟨rfl, Ext.refl _⟩
  · have hf := hr (by assumption)
    obtain ⟨hn, hb⟩ := hf
    refine (toS_any _ _ _ H.out hn).mono ?_
    rintro e w1 ⟨u1, rfl, hu1, x1, _⟩
    have H1 := Lib.hid hu1
    clear hu1 hr
    go_wp2_with fail
    refine (spec_any _ _ _ H1.out).mono ?_
    rintro e w2 ⟨rfl, x2⟩
    go_wp2_with fail
    refine (toS_any _ _ _ (H.out.ext (x1.trans x2)) hn).mono ?_
    rintro e w3 ⟨u3, rfl, hu3, x3, g3, c3, rfl, _, ho3⟩
    have H3 := Lib.hid hu3
    have O3 := Lib.hid ho3
    clear hu3 ho3
    go_wp2_with fail
    refine (isPl_any _ _ _ H3.out (own_cap O3.out)).mono ?_
    rintro e w4 ⟨rfl, x4⟩
    go_wp2_with fail
    refine (toS_any _ _ _ (H.out.ext (((x1.trans x2).trans x3).trans x4)) hn).mono ?_
    rintro e w5 ⟨u5, rfl, hu5, x5, _⟩
    have H5 := Lib.hid hu5
    clear hu5
    go_wp2_with fail
    refine (eqS_any _ _ _ _ (H3.out.ext (x4.trans x5)) H5.out hn).mono ?_
    rintro e w6 ⟨rfl, x6⟩
    go_wp2_with fail
    go_ret
    exact ⟨rfl, ((((x1.trans x2).trans x3).trans x4).trans x5).trans x6⟩

set_option maxRecDepth 100000 in
theorem contract (H : Type) (enc : TypeId × Value → H) (W : World) (base : Nat) (args : Array Value) (ds gs : List (DataW H)) (before : List MemPlace)
    (hval : ∀ (j : Nat) t v, Try.f3.params[j]? = some t → args[j]? = some v → Value.okWide Try.prog W .any base t v)
    (hW : DataW.Whole enc Try.prog Try.f3.params.toList Rows.fnExactIsCodePlanSpec.vars false W args.toList ds gs before) :
    Calls Try.prog 3 args W fun e W' => ∃ v, e = .returned v ∧ Rows.fnExactIsCodePlanSpec.post enc Try.prog Try.f3 false true false false W args v W' := by
  have hW' := hW
  obtain ⟨p, q, hA0, hV, rfl, hfz, hnd⟩ := hW
  have hA : DataW.TrodAll enc Try.prog W 0 (fun _ => true) true Try.f3.params.toList args.toList ds p := hA0
  rw [Try.params3] at hA hval
  obtain ⟨v0, vs0, d0, ds0, p0, q0, hargs0, rfl, rfl, h0, r0⟩ := trodAll_cons hA
  obtain ⟨rfl, rfl, rfl⟩ := trodAll_nil r0
  obtain rfl : args = #[v0] := Array.toList_inj.1 hargs0
  obtain ⟨s0, z0⟩ := strs_of (hval 0 22 v0 rfl rfl) h0
  clear hA0
  refine (walk W v0 s0 z0).mono fun e W' ⟨he, hx⟩ => ?_
  subst he
  exact ⟨_, rfl, post_true (tb := 4) laidOut (by rw [Try.params3]; intro t ht; simp at ht; subst ht; exact ⟨by kernel_rfl, of_decide_eq_true (by kernel_rfl)⟩) (by kernel_rfl) hW' hx (by obtain ⟨rfl, rfl⟩ := trodVars_none hV; rfl) rfl Try.underlying4⟩

set_option maxRecDepth 100000 in
theorem lifted (os : Os) (started : os.Started) (H : Type) (enc : TypeId × Value → H) :
    ReturnsInHanded {} Try.checked os 3 .any (Rows.fnExactIsCodePlanSpec.pre6 enc Try.prog Try.f3 Rows.fnExactIsCodePlanRow.domain false) (Rows.fnExactIsCodePlanSpec.post enc Try.prog Try.f3 false true false false) := by
  refine returnsInHanded_of_change (C := Try.checked) own started (by kernel_rfl) Try.func3
    (ChangeSpec.witness6 (enc := enc) (C := Try.checked) false ⟨#[], #[.slice none 0 0], []⟩ 8 (by kernel_rfl) (by kernel_rfl) (by kernel_rfl) (by kernel_rfl)) ?_
  intro W base args ds gs before hval hW _ _
  exact contract H enc W base args ds gs before hval hW

theorem said : Rows.FnExactIsCodePlanSaid :=
  OpenClaim.holds_of_wide 3 Try.f3 rfl rfl rfl rfl rfl rfl rfl ⟨rfl, rfl, rfl, rfl, rfl⟩ rfl rfl rfl rfl rfl (by kernel_rfl) Try.func3 (by kernel_rfl)
    (of_decide_eq_true (by kernel_rfl)) (by unfold Func.isWrapper; first | (rw [if_pos (by decide +kernel)]; kernel_rfl) | (rw [if_neg (by decide +kernel)]; exact ⟨rfl, rfl⟩))
    (fun os started H enc _ => lifted os started H enc)
end Go.Proofs.Ytinojlbnmnlmhaa.isCodePlan
