/- For every list of guesses the program's AreGuesses answers as its model does, and leaves the list alone. No conditions. -/
import Derived.Test.YtmpajijnpoekgaaRows
import Derived.Test.YtmpajijnpoekgaaLaw
import Derived.Test.YtmpajijnpoekgaaGueI
namespace Go.Proofs.Ytmpajijnpoekgaa.areGuesses
open Go.ChangeShapes Go.WideShapes Go.ChangeAt Go.RowKit
open Go.ChangeMaps (open_string shut_string)

theorem spec_any (v : Value) (gs : List Gu) (w : World) (h : Gus w v gs) : Calls Try.prog 32 #[v] w fun e w' => e = .returned (.bool (guB gs)) ∧ Ext w w' := by
  go_enter Try.func32, Try.ntmps32
  go_wp2_with (go_at_call 67; refine (piGues_any _ _ _ h).mono ?_; rintro e w1 ⟨rfl, x1⟩)
  go_ret
  exact ⟨rfl, x1⟩

set_option maxHeartbeats 1000000 in
theorem walk (w : World) (v : Value) (gs : List Gu) (h : Gus w v gs) : Calls Try.prog 11 #[v] w fun e w' => e = .returned (.bool true) ∧ Ext w w' := by
  have H := Lib.hid h
  clear h
  go_enter Try.func11, Try.ntmps11
  go_wp2_with (first | (go_at_call 31; refine (szGS_any _ _ _ H.out).mono ?_; rintro e w0 ⟨r, hr, rfl, x0⟩))
  · go_ret
    exact ⟨rfl, x0⟩
  · have hf := hr (by assumption)
    obtain ⟨hn, hb⟩ := hf
    refine (toGS_any _ _ _ (H.out.ext x0) hn).mono ?_
    rintro e w1 ⟨u1, rfl, hu1, x1⟩
    have H1 := Lib.hid hu1
    clear hu1 hr
    go_wp2_with fail
    refine (spec_any _ _ _ H1.out).mono ?_
    rintro e w2 ⟨rfl, x2⟩
    go_wp2_with fail
    refine (toGS_any _ _ _ (H.out.ext ((x0.trans x1).trans x2)) hn).mono ?_
    rintro e w3 ⟨u3, rfl, hu3, x3⟩
    have H3 := Lib.hid hu3
    clear hu3
    go_wp2_with fail
    refine (areG_any _ _ _ H3.out).mono ?_
    rintro e w4 ⟨rfl, x4⟩
    go_wp2_with fail
    refine (toGS_any _ _ _ (H.out.ext ((((x0.trans x1).trans x2).trans x3).trans x4)) hn).mono ?_
    rintro e w5 ⟨u5, rfl, hu5, x5⟩
    have H5 := Lib.hid hu5
    clear hu5
    go_wp2_with fail
    refine (eqGS_any _ _ _ _ (H3.out.ext (x4.trans x5)) H5.out hn).mono ?_
    rintro e w6 ⟨rfl, x6⟩
    go_wp2_with fail
    go_ret
    exact ⟨rfl, (((((x0.trans x1).trans x2).trans x3).trans x4).trans x5).trans x6⟩

set_option maxRecDepth 100000 in
theorem contract (H : Type) (enc : TypeId × Value → H) (W : World) (base : Nat) (args : Array Value) (ds gs : List (DataW H)) (before : List MemPlace)
    (hval : ∀ (j : Nat) t v, Try.f11.params[j]? = some t → args[j]? = some v → Value.okWide Try.prog W .any base t v)
    (hW : DataW.Whole enc Try.prog Try.f11.params.toList Rows.fnExactAreGuessesSpec.vars false W args.toList ds gs before) :
    Calls Try.prog 11 args W fun e W' => ∃ v, e = .returned v ∧ Rows.fnExactAreGuessesSpec.post enc Try.prog Try.f11 false true false false W args v W' := by
  have hW' := hW
  obtain ⟨p, q, hA0, hV, rfl, hfz, hnd⟩ := hW
  have hA : DataW.TrodAll enc Try.prog W 0 (fun _ => true) true Try.f11.params.toList args.toList ds p := hA0
  rw [Try.params11] at hA hval
  obtain ⟨v0, vs0, d0, ds0, p0, q0, hargs0, rfl, rfl, h0, r0⟩ := trodAll_cons hA
  obtain ⟨rfl, rfl, rfl⟩ := trodAll_nil r0
  obtain rfl : args = #[v0] := Array.toList_inj.1 hargs0
  obtain ⟨s0, z0⟩ := gus_of (hval 0 36 v0 rfl rfl) h0
  clear hA0
  refine (walk W v0 s0 z0).mono fun e W' ⟨he, hx⟩ => ?_
  subst he
  exact ⟨_, rfl, post_true (tb := 4) laidOut (by rw [Try.params11]; intro t ht; simp at ht; subst ht; exact ⟨by kernel_rfl, of_decide_eq_true (by kernel_rfl)⟩) (by kernel_rfl) hW' hx (by obtain ⟨rfl, rfl⟩ := trodVars_none hV; rfl) rfl Try.underlying4⟩

set_option maxRecDepth 100000 in
theorem lifted (os : Os) (started : os.Started) (H : Type) (enc : TypeId × Value → H) :
    ReturnsInHanded {} Try.checked os 11 .any (Rows.fnExactAreGuessesSpec.pre6 enc Try.prog Try.f11 Rows.fnExactAreGuessesRow.domain false) (Rows.fnExactAreGuessesSpec.post enc Try.prog Try.f11 false true false false) := by
  refine returnsInHanded_of_change (C := Try.checked) own started (by kernel_rfl) Try.func11
    (ChangeSpec.witness6 (enc := enc) (C := Try.checked) false ⟨#[], #[.slice none 0 0], []⟩ 8 (by kernel_rfl) (by kernel_rfl) (by kernel_rfl) (by kernel_rfl)) ?_
  intro W base args ds gs before hval hW _ _
  exact contract H enc W base args ds gs before hval hW

theorem said : Rows.FnExactAreGuessesSaid :=
  OpenClaim.holds_of_wide 11 Try.f11 rfl rfl rfl rfl rfl rfl rfl ⟨rfl, rfl, rfl, rfl, rfl⟩ rfl rfl rfl rfl rfl (by kernel_rfl) Try.func11 (by kernel_rfl)
    (of_decide_eq_true (by kernel_rfl)) (by unfold Func.isWrapper; first | (rw [if_pos (by decide +kernel)]; kernel_rfl) | (rw [if_neg (by decide +kernel)]; exact ⟨rfl, rfl⟩))
    (fun os started H enc _ => lifted os started H enc)
end Go.Proofs.Ytmpajijnpoekgaa.areGuesses
