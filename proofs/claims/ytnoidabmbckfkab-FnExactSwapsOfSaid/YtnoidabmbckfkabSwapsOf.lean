/- For every text the program's SwapsOf answers as its model does, in memory of its own. No conditions. -/
import Derived.Test.YtnoidabmbckfkabRows
import Derived.Test.YtnoidabmbckfkabLaw
import Derived.Test.YtnoidabmbckfkabSwaps
import Derived.Test.YtnoidabmbckfkabMarks
namespace Go.Proofs.Ytnoidabmbckfkab.swapsOf
open Go.ChangeShapes Go.WideShapes Go.ChangeAt Go.RowKit
open Go.ChangeMaps (open_string shut_string)

theorem spec_any (s : ByteArray) (w : World) (hs : s.size ≤ maxLen) : Calls Try.prog 25 #[.string s] w (ResS (swV s) (isT 20 s) w) := swS_any s w hs
theorem impl_any (s : ByteArray) (w : World) (hs : s.size ≤ maxLen) : Calls Try.prog 26 #[.string s] w (ResS (swV s) (isT 20 s) w) := swI_any s w hs

set_option maxHeartbeats 4000000 in
theorem walk (s0 : ByteArray) (hs0 : s0.size ≤ maxLen) (w : World) : Calls Try.prog 6 #[.string s0] w fun e w' => e = .returned (.bool true) ∧ Ext w w' := by
  have h63_0 : s0.size ≤ 9223372036854775807 := hs0
  have hzl : (swV s0).length ≤ 1048576 := swV_len s0
  have hzm := Lib.hid (swV_mem s0)
  obtain ⟨zs, hzs⟩ : ∃ zs, zs = swV s0 := ⟨_, rfl⟩
  have HZ := Lib.hid hzs
  rw [← hzs] at hzl hzm
  clear hzs
  by_cases hbig0 : 1048576 < s0.size
  · go_enter Try.func6, Try.ntmps6
    go_wp2
    go_ret
    exact ⟨rfl, Ext.refl _⟩
  go_enter Try.func6, Try.ntmps6
  go_wp2_with fail
  refine (spec_any _ _ hs0).mono ?_
  rintro e w1 ⟨g1, rfl, r1, x1⟩
  rw [← HZ.out] at r1
  have R1 := Lib.hid r1
  clear r1
  have X1 : Ext w w1 := x1
  go_wp2_with fail
  refine (impl_any _ _ hs0).mono ?_
  rintro e w2 ⟨g2, rfl, r2, x2⟩
  rw [← HZ.out] at r2
  have R2 := Lib.hid r2
  clear r2
  have X2 : Ext w w2 := X1.trans x2
  go_wp2_with fail
  refine (eqS_any _ _ _ _ ((R2.out).strs (by unfold maxLen; omega) hzm.out) ((R1.out.ext x2).strs (by unfold maxLen; omega) hzm.out) hzl).mono ?_
  rintro e w3 ⟨rfl, x3⟩
  have X3 : Ext w w3 := X2.trans x3
  go_wp2_with fail
  refine (markR_any _ _ _ _ (R2.out.ext x3) hzl).mono ?_
  rintro e w4 ⟨rfl, m10, hg10⟩
  have M10 := Lib.hid m10
  have X4 : Ext w w4 := ext_grown X3 hg10 (fun j hj => Nat.le_trans X1.size (R2.out.own_le j hj))
  have S10 := Lib.hid (RowS.kept (R1.out.ext (x2.trans x3)) hg10 (R1.out.apart2 (w2 := w2) R2.out (Nat.le_refl _)))
  clear m10 hg10
  go_wp2_with fail
  refine (heldR_any _ _ _ _ M10.out hzl).mono ?_
  rintro e w5 ⟨rfl, x5⟩
  have X5 : Ext w w5 := X4.trans x5
  go_wp2_with fail
  refine (impl_any _ _ hs0).mono ?_
  rintro e w6 ⟨g6, rfl, r6, x6⟩
  rw [← HZ.out] at r6
  have R6 := Lib.hid r6
  clear r6
  have X6 : Ext w w6 := X5.trans x6
  go_wp2_with fail
  refine (eqS_any _ _ _ _ ((R6.out).strs (by unfold maxLen; omega) hzm.out) ((S10.out.ext (x5.trans x6)).strs (by unfold maxLen; omega) hzm.out) hzl).mono ?_
  rintro e w7 ⟨rfl, x7⟩
  have X7 : Ext w w7 := X6.trans x7
  go_wp2_with fail
  refine (heldR_any _ _ _ _ (M10.out.ext ((x5.trans x6).trans x7)) hzl).mono ?_
  rintro e w8 ⟨rfl, x8⟩
  have X8 : Ext w w8 := X7.trans x8
  go_wp2_with fail
  go_ret
  exact ⟨rfl, X8⟩

set_option maxRecDepth 100000 in
theorem contract (H : Type) (enc : TypeId × Value → H) (W : World) (base : Nat) (args : Array Value) (ds gs : List (DataW H)) (before : List MemPlace)
    (hval : ∀ (j : Nat) t v, Try.f6.params[j]? = some t → args[j]? = some v → Value.okWide Try.prog W .any base t v)
    (hW : DataW.Whole enc Try.prog Try.f6.params.toList Rows.fnExactSwapsOfSpec.vars false W args.toList ds gs before) :
    Calls Try.prog 6 args W fun e W' => ∃ v, e = .returned v ∧ Rows.fnExactSwapsOfSpec.post enc Try.prog Try.f6 false true false false W args v W' := by
  have hW' := hW
  obtain ⟨p, q, hA0, hV, rfl, hfz, hnd⟩ := hW
  have hA : DataW.TrodAll enc Try.prog W 0 (fun _ => true) true Try.f6.params.toList args.toList ds p := hA0
  rw [Try.params6] at hA hval
  obtain ⟨v0, vs0, d0, ds0, p0, q0, hargs0, rfl, rfl, h0, r0⟩ := trodAll_cons hA
  obtain ⟨rfl, rfl, rfl⟩ := trodAll_nil r0
  obtain rfl : args = #[v0] := Array.toList_inj.1 hargs0
  obtain ⟨s0, rfl, rfl, rfl, z0⟩ := open_string Try.underlying9 (hval 0 9 v0 rfl rfl) h0
  clear hA0
  refine (walk s0 z0 W).mono fun e W' ⟨he, hx⟩ => ?_
  subst he
  exact ⟨_, rfl, post_true (tb := 4) laidOut (by rw [Try.params6]; intro t ht; simp at ht; subst ht; exact ⟨by kernel_rfl, of_decide_eq_true (by kernel_rfl)⟩) (by kernel_rfl) hW' hx (by obtain ⟨rfl, rfl⟩ := trodVars_none hV; rfl) rfl Try.underlying4⟩

set_option maxRecDepth 100000 in
theorem lifted (os : Os) (started : os.Started) (H : Type) (enc : TypeId × Value → H) :
    ReturnsInHanded {} Try.checked os 6 .any (Rows.fnExactSwapsOfSpec.pre6 enc Try.prog Try.f6 Rows.fnExactSwapsOfRow.domain false) (Rows.fnExactSwapsOfSpec.post enc Try.prog Try.f6 false true false false) := by
  refine returnsInHanded_of_change (C := Try.checked) own started (by kernel_rfl) Try.func6
    (ChangeSpec.witness6 (enc := enc) (C := Try.checked) false ⟨#[], #[.string ByteArray.empty], []⟩ 8 (by kernel_rfl) (by kernel_rfl) (by kernel_rfl) (by kernel_rfl)) ?_
  intro W base args ds gs before hval hW _ _
  exact contract H enc W base args ds gs before hval hW

theorem said : Rows.FnExactSwapsOfSaid :=
  OpenClaim.holds_of_wide 6 Try.f6 rfl rfl rfl rfl rfl rfl rfl ⟨rfl, rfl, rfl, rfl, rfl⟩ rfl rfl rfl rfl rfl (by kernel_rfl) Try.func6 (by kernel_rfl)
    (of_decide_eq_true (by kernel_rfl)) (by unfold Func.isWrapper; first | (rw [if_pos (by decide +kernel)]; kernel_rfl) | (rw [if_neg (by decide +kernel)]; exact ⟨rfl, rfl⟩))
    (fun os started H enc _ => lifted os started H enc)
end Go.Proofs.Ytnoidabmbckfkab.swapsOf
