/- For every list of numbers the program's ArePossible answers as its model does, and leaves the list alone. No conditions. -/
import Derived.Test.YtinojlbnmnlmhaaRows
import Derived.Test.YtinojlbnmnlmhaaLaw
import Derived.Test.YtinojlbnmnlmhaaIntL
namespace Go.Proofs.Ytinojlbnmnlmhaa.arePossible
open Go.ChangeShapes Go.WideShapes Go.ChangeAt Go.RowKit
open Go.ChangeMaps (open_string shut_string)

set_option maxHeartbeats 1000000 in
theorem walk (w : World) (v : Value) (zs : List Int) (h : IntsA w v zs) : Calls Try.prog 10 #[v] w fun e w' => e = .returned (.bool true) ∧ Ext w w' := by
  have H := Lib.hid h
  have hlm := h.1
  unfold maxLen at hlm
  obtain ⟨a, cap, hv⟩ := h.at
  rw [hv] at H ⊢
  clear hv h v
  obtain ⟨X0, hX0⟩ : ∃ X, X = (apV zs) := ⟨_, rfl⟩
  obtain ⟨ok, hok⟩ : ∃ X, X = (lnB zs) := ⟨_, rfl⟩
  have HP := Lib.hid (show ∀ (v : Value) (w : World), IntsA w v zs → Calls Try.prog 40 #[v] w fun e w' => e = .returned (.tuple #[.bool X0, .bool ok]) ∧ Ext w w' from fun v w h => by rw [hX0, hok]; exact apS_any v zs w h)
  have HM := Lib.hid (show ∀ (v : Value) (w : World), IntsA w v zs → Calls Try.prog 42 #[v] w fun e w' => e = .returned (.tuple #[.bool X0, .bool ok]) ∧ Ext w w' from fun v w h => by rw [hX0, hok]; exact apI_any v zs w h)
  clear hX0 hok
  by_cases hbig : 1048576 < zs.length
  · go_enter Try.func10, Try.ntmps10
    go_wp2
    go_ret
    exact ⟨rfl, Ext.refl _⟩
  have hn : zs.length ≤ 1048576 := by omega
  go_enter Try.func10, Try.ntmps10
  go_wp2_with fail
  refine (toI_any _ _ _ H.out hn).mono ?_
  rintro e w1 ⟨u1, rfl, hu1, x1, gx1, cx1, rfl, hgx1, hgl1, hox1⟩
  have H1 := Lib.hid hu1
  clear hu1 hox1
  go_wp2_with fail
  refine (HP.out _ _ H1.out).mono ?_
  rintro e w2 ⟨rfl, x2⟩
  have X2 : Ext w w2 := x1.trans x2
  go_wp2_with fail
  refine (toI_any _ _ _ (H.out.ext X2) hn).mono ?_
  rintro e w3 ⟨u3, rfl, hu3, x3, gx3, cx3, rfl, hgx3, hgl3, hox3⟩
  have H3 := Lib.hid hu3
  have O3 := Lib.hid hox3
  clear hu3 hox3
  have X3 : Ext w w3 := X2.trans x3
  go_wp2_with fail
  refine (HM.out _ _ H3.out).mono ?_
  rintro e w4 ⟨rfl, x4⟩
  have X4 : Ext w w4 := X3.trans x4
  go_wp2_with fail
  refine (toI_any _ _ _ (H.out.ext X4) hn).mono ?_
  rintro e w6 ⟨u6, rfl, hu6, x6, gx6, cx6, rfl, hgx6, hgl6, hox6⟩
  have O6 := Lib.hid hox6
  clear hu6 hox6
  have X6 : Ext w w6 := X4.trans x6
  go_wp2_with fail
  refine (eqI_any _ _ _ _ _ _ (O3.out.ext (x4.trans x6)) O6.out hn).mono ?_
  rintro e w7 ⟨rfl, x7⟩
  go_wp2
  go_ret
  exact ⟨rfl, X6.trans x7⟩

set_option maxRecDepth 100000 in
theorem contract (H : Type) (enc : TypeId × Value → H) (W : World) (base : Nat) (args : Array Value) (ds gs : List (DataW H)) (before : List MemPlace)
    (hval : ∀ (j : Nat) t v, Try.f10.params[j]? = some t → args[j]? = some v → Value.okWide Try.prog W .any base t v)
    (hW : DataW.Whole enc Try.prog Try.f10.params.toList Rows.fnExactArePossibleSpec.vars false W args.toList ds gs before) :
    Calls Try.prog 10 args W fun e W' => ∃ v, e = .returned v ∧ Rows.fnExactArePossibleSpec.post enc Try.prog Try.f10 false true false false W args v W' := by
  have hW' := hW
  obtain ⟨p, q, hA0, hV, rfl, hfz, hnd⟩ := hW
  have hA : DataW.TrodAll enc Try.prog W 0 (fun _ => true) true Try.f10.params.toList args.toList ds p := hA0
  rw [Try.params10] at hA hval
  obtain ⟨v0, vs0, d0, ds0, p0, q0, hargs0, rfl, rfl, h0, r0⟩ := trodAll_cons hA
  obtain ⟨rfl, rfl, rfl⟩ := trodAll_nil r0
  obtain rfl : args = #[v0] := Array.toList_inj.1 hargs0
  obtain ⟨s0, z0⟩ := ints_of (hval 0 42 v0 rfl rfl) h0
  clear hA0
  refine (walk W v0 s0 z0).mono fun e W' ⟨he, hx⟩ => ?_
  subst he
  exact ⟨_, rfl, post_true (tb := 4) laidOut (by rw [Try.params10]; intro t ht; simp at ht; subst ht; exact ⟨by kernel_rfl, of_decide_eq_true (by kernel_rfl)⟩) (by kernel_rfl) hW' hx (by obtain ⟨rfl, rfl⟩ := trodVars_none hV; rfl) rfl Try.underlying4⟩

set_option maxRecDepth 100000 in
theorem lifted (os : Os) (started : os.Started) (H : Type) (enc : TypeId × Value → H) :
    ReturnsInHanded {} Try.checked os 10 .any (Rows.fnExactArePossibleSpec.pre6 enc Try.prog Try.f10 Rows.fnExactArePossibleRow.domain false) (Rows.fnExactArePossibleSpec.post enc Try.prog Try.f10 false true false false) := by
  refine returnsInHanded_of_change (C := Try.checked) own started (by kernel_rfl) Try.func10
    (ChangeSpec.witness6 (enc := enc) (C := Try.checked) false ⟨#[], #[.slice none 0 0], []⟩ 8 (by kernel_rfl) (by kernel_rfl) (by kernel_rfl) (by kernel_rfl)) ?_
  intro W base args ds gs before hval hW _ _
  exact contract H enc W base args ds gs before hval hW

theorem said : Rows.FnExactArePossibleSaid :=
  OpenClaim.holds_of_wide 10 Try.f10 rfl rfl rfl rfl rfl rfl rfl ⟨rfl, rfl, rfl, rfl, rfl⟩ rfl rfl rfl rfl rfl (by kernel_rfl) Try.func10 (by kernel_rfl)
    (of_decide_eq_true (by kernel_rfl)) (by unfold Func.isWrapper; first | (rw [if_pos (by decide +kernel)]; kernel_rfl) | (rw [if_neg (by decide +kernel)]; exact ⟨rfl, rfl⟩))
    (fun os started H enc _ => lifted os started H enc)
end Go.Proofs.Ytinojlbnmnlmhaa.arePossible
