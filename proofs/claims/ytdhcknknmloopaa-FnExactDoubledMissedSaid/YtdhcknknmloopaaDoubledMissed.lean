/- The program's DoubledMissed answers as its model does, in memory of its own, list by list. No conditions. -/
import Derived.Test.YtdhcknknmloopaaRows
import Derived.Test.YtdhcknknmloopaaLaw
import Derived.Test.YtdhcknknmloopaaDmS
namespace Go.Proofs.Ytdhcknknmloopaa.doubledMissed
open Go.ChangeShapes Go.WideShapes Go.ChangeAt Go.RowKit
open Go.ChangeMaps (open_string shut_string)

set_option maxRecDepth 100000 in
set_option maxHeartbeats 4000000 in
theorem walk (w : World) : Calls Try.prog 10 #[] w fun e w' => e = .returned (.bool true) ∧ Ext w w' := by
  have hzl : (prs pX).length ≤ 1048576 := Nat.le_trans (prs_len pX) (by omega)
  have hzm := Lib.hid (prs_at pX)
  have hzt := Lib.hid (prs_tot pX)
  have HSP := Lib.hid (fun w => sDM_any w)
  have HIM := Lib.hid (fun w => iDM_any w)
  obtain ⟨zs, hzs⟩ : ∃ zs, zs = prs pX := ⟨_, rfl⟩
  rw [← hzs] at hzl hzm hzt HSP HIM
  clear hzs
  go_enter Try.func10, Try.ntmps10
  go_wp2_with fail
  refine (HSP.out _).mono ?_
  rintro e w2 ⟨g2, U2, rfl, r2, x2⟩
  have R2 := Lib.hid r2
  clear r2
  go_wp2_with fail
  refine (HIM.out _).mono ?_
  rintro e w4 ⟨g4, U4, rfl, r4, x4⟩
  have R4 := Lib.hid r4
  clear r4
  have X4 : Ext w w4 := x2.trans x4
  go_wp2_with fail
  refine (eqF_any _ _ _ _ _ _ _ _ _ R4.out (R2.out.ext x4) hzl hzm.out).mono ?_
  rintro e w9 ⟨rfl, x9⟩
  have X9 : Ext w w9 := X4.trans x9
  go_wp2_with fail
  refine (markF_any _ _ _ _ _ _ (R4.out.ext x9) hzl hzt.out).mono ?_
  rintro e w10 ⟨rfl, m10, hg10⟩
  have M10 := Lib.hid m10
  have X10 : Ext w w10 := hg10.ext X9 (fun i hi j hj => Nat.le_trans x2.size ((R4.out.2.1 i hi).own_le j hj))
  have S10 := Lib.hid (RowF.keptF R2.out ((R2.out.ext x4).ext x9) hg10 (fun i hi j hj => ((R4.out.2.1 i hi).own_le j hj)))
  clear m10 hg10
  go_wp2_with fail
  refine (heldF_any _ _ _ _ _ _ M10.out hzl hzt.out).mono ?_
  rintro e w11 ⟨rfl, x11⟩
  have X11 : Ext w w11 := X10.trans x11
  go_wp2_with fail
  refine (HIM.out _).mono ?_
  rintro e w13 ⟨g13, U13, rfl, r13, x13⟩
  have R13 := Lib.hid r13
  clear r13
  have X13 : Ext w w13 := X11.trans x13
  go_wp2_with fail
  refine (eqF_any _ _ _ _ _ _ _ _ _ R13.out (S10.out.ext (x11.trans x13)) hzl hzm.out).mono ?_
  rintro e w14 ⟨rfl, x14⟩
  have X14 : Ext w w14 := X13.trans x14
  go_wp2_with fail
  refine (heldF_any _ _ _ _ _ _ (M10.out.ext ((x11.trans x13).trans x14)) hzl hzt.out).mono ?_
  rintro e w15 ⟨rfl, x15⟩
  have X15 : Ext w w15 := X14.trans x15
  go_wp2_with fail
  go_ret
  exact ⟨rfl, X15⟩

set_option maxRecDepth 100000 in
theorem contract (H : Type) (enc : TypeId × Value → H) (W : World) (base : Nat) (args : Array Value) (ds gs : List (DataW H)) (before : List MemPlace)
    (hval : ∀ (j : Nat) t v, Try.f10.params[j]? = some t → args[j]? = some v → Value.okWide Try.prog W .any base t v)
    (hW : DataW.Whole enc Try.prog Try.f10.params.toList Rows.fnExactDoubledMissedSpec.vars false W args.toList ds gs before) :
    Calls Try.prog 10 args W fun e W' => ∃ v, e = .returned v ∧ Rows.fnExactDoubledMissedSpec.post enc Try.prog Try.f10 false true false false W args v W' := by
  have hW' := hW
  obtain ⟨p, q, hA0, hV, rfl, hfz, hnd⟩ := hW
  have hA : DataW.TrodAll enc Try.prog W 0 (fun _ => true) true Try.f10.params.toList args.toList ds p := hA0
  rw [Try.params10] at hA hval
  obtain ⟨hargs0, rfl, rfl⟩ := trodAll_nil hA
  obtain rfl : args = #[] := Array.toList_inj.1 hargs0
  clear hA0
  refine (walk  W).mono fun e W' ⟨he, hx⟩ => ?_
  subst he
  exact ⟨_, rfl, post_true (tb := 4) laidOut (by rw [Try.params10]; intro t ht; simp at ht; skip) (by kernel_rfl) hW' hx (by obtain ⟨rfl, rfl⟩ := trodVars_none hV; rfl) rfl Try.underlying4⟩

set_option maxRecDepth 100000 in
theorem lifted (os : Os) (started : os.Started) (H : Type) (enc : TypeId × Value → H) :
    ReturnsInHanded {} Try.checked os 10 .any (Rows.fnExactDoubledMissedSpec.pre6 enc Try.prog Try.f10 Rows.fnExactDoubledMissedRow.domain false) (Rows.fnExactDoubledMissedSpec.post enc Try.prog Try.f10 false true false false) := by
  refine returnsInHanded_of_change (C := Try.checked) own started (by kernel_rfl) Try.func10
    (ChangeSpec.witness6 (enc := enc) (C := Try.checked) false ⟨#[], #[], []⟩ 8 (by kernel_rfl) (by kernel_rfl) (by kernel_rfl) (by kernel_rfl)) ?_
  intro W base args ds gs before hval hW _ _
  exact contract H enc W base args ds gs before hval hW

theorem said : Rows.FnExactDoubledMissedSaid :=
  OpenClaim.holds_of_wide 10 Try.f10 rfl rfl rfl rfl rfl rfl rfl ⟨rfl, rfl, rfl, rfl, rfl⟩ rfl rfl rfl rfl rfl (by kernel_rfl) Try.func10 (by kernel_rfl)
    (of_decide_eq_true (by kernel_rfl)) (by unfold Func.isWrapper; first | (rw [if_pos (by decide +kernel)]; kernel_rfl) | (rw [if_neg (by decide +kernel)]; exact ⟨rfl, rfl⟩))
    (fun os started H enc _ => lifted os started H enc)
end Go.Proofs.Ytdhcknknmloopaa.doubledMissed
