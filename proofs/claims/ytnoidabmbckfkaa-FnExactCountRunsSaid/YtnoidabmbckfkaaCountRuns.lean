/- For every text the program's CountRuns answers as its model does, in memory of its own. No conditions. -/
import Derived.Test.YtnoidabmbckfkaaRows
import Derived.Test.YtnoidabmbckfkaaLaw
import Derived.Test.YtnoidabmbckfkaaRuns
namespace Go.Proofs.Ytnoidabmbckfkaa.countRuns
open Go.ChangeShapes Go.WideShapes Go.ChangeAt Go.RowKit
open Go.ChangeMaps (open_string shut_string)

theorem rowKept {B : Nat} {w w' : World} {v : Value} {zs : List Int} {row : Option Nat} (h : RowI B w v zs) (hg : w.grownBy w' row) (hne : v.ownBlock = none ∨ v.ownBlock ≠ row) : RowI B w' v zs := World.ownsRow.kept h hg hne
theorem rowApart {B : Nat} {w : World} {v : Value} {zs : List Int} (h : RowI B w v zs) (g : Nat) (hd : g < B ∨ w.heap.size ≤ g) : v.ownBlock = none ∨ v.ownBlock ≠ some g := by
  rcases h.own with h0 | ⟨g', h0, h1, h2⟩
  · exact .inl h0
  · refine .inr ?_
    rw [h0]
    intro e
    injection e with e
    omega
theorem rowApart2 {B B2 : Nat} {w w2 : World} {v u : Value} {zs ys : List Int} (h : RowI B w v zs) (h2 : RowI B2 w2 u ys) (hd : w.heap.size ≤ B2) : v.ownBlock = none ∨ v.ownBlock ≠ u.ownBlock := by
  rcases h2.own with h0 | ⟨g', h0, h1, _⟩
  · rw [h0]
    cases hv : v.ownBlock
    · exact .inl rfl
    · exact .inr (by intro e; cases e)
  · rw [h0]
    exact rowApart h g' (.inr (Nat.le_trans hd h1))

set_option maxHeartbeats 2000000 in
theorem walk (s : ByteArray) (hs : s.size ≤ maxLen) (w : World) : Calls Try.prog 5 #[.string s] w fun e w' => e = .returned (.bool true) ∧ Ext w w' := by
  have h63 : s.size ≤ 9223372036854775807 := hs
  have hzl := runsV_len s
  by_cases hbig : 1048576 < s.size
  · go_enter Try.func5, Try.ntmps5
    go_wp2
    go_ret
    exact ⟨rfl, Ext.refl _⟩
  go_enter Try.func5, Try.ntmps5
  go_wp2_with fail
  refine (runsS_any _ _ hs).mono ?_
  rintro e w2 ⟨v0, rfl, r0, x2⟩
  have R0 := Lib.hid r0
  clear r0
  go_wp2_with fail
  refine (runsI_any _ _ hs).mono ?_
  rintro e w4 ⟨g0, rfl, r4, x4⟩
  have R4 := Lib.hid r4
  clear r4
  go_wp2_with fail
  refine (eqI_any _ _ _ _ _ _ R4.out (R0.out.ext x4) (by omega)).mono ?_
  rintro e w5 ⟨rfl, x5⟩
  have X5 : Ext w w5 := (x2.trans x4).trans x5
  go_wp2_with fail
  refine (markI_any _ _ _ _ (R4.out.ext x5) (by omega)).mono ?_
  rintro e w10 ⟨rfl, m10, hg10⟩
  have M10 := Lib.hid m10
  have X10 : Ext w w10 := ext_grown X5 hg10 (fun j hj => Nat.le_trans x2.size (R4.out.own_le j hj))
  have R10 := Lib.hid (rowKept (R0.out.ext (x4.trans x5)) hg10 (rowApart2 R0.out R4.out (Nat.le_refl _)))
  clear m10 hg10
  go_wp2_with fail
  refine (heldI_any _ _ _ _ M10.out (by omega)).mono ?_
  rintro e w' ⟨rfl, rfl⟩
  go_wp2_with fail
  refine (runsI_any _ _ hs).mono ?_
  rintro e w12 ⟨h0, rfl, r12, x12⟩
  have R12 := Lib.hid r12
  clear r12
  go_wp2_with fail
  refine (eqI_any _ _ _ _ _ _ R12.out (R10.out.ext x12) (by omega)).mono ?_
  rintro e w13 ⟨rfl, x13⟩
  go_wp2_with fail
  refine (heldI_any _ _ _ _ (M10.out.ext (x12.trans x13)) (by omega)).mono ?_
  rintro e w' ⟨rfl, rfl⟩
  go_wp2_with fail
  go_ret
  exact ⟨rfl, (X10.trans x12).trans x13⟩

set_option maxRecDepth 100000 in
theorem contract (H : Type) (enc : TypeId × Value → H) (W : World) (base : Nat) (args : Array Value) (ds gs : List (DataW H)) (before : List MemPlace)
    (hval : ∀ (j : Nat) t v, Try.f5.params[j]? = some t → args[j]? = some v → Value.okWide Try.prog W .any base t v)
    (hW : DataW.Whole enc Try.prog Try.f5.params.toList Rows.fnExactCountRunsSpec.vars false W args.toList ds gs before) :
    Calls Try.prog 5 args W fun e W' => ∃ v, e = .returned v ∧ Rows.fnExactCountRunsSpec.post enc Try.prog Try.f5 false true false false W args v W' := by
  have hW' := hW
  obtain ⟨p, q, hA0, hV, rfl, hfz, hnd⟩ := hW
  have hA : DataW.TrodAll enc Try.prog W 0 (fun _ => true) true Try.f5.params.toList args.toList ds p := hA0
  rw [Try.params5] at hA hval
  obtain ⟨v0, vs0, d0, ds0, p0, q0, hargs0, rfl, rfl, h0, r0⟩ := trodAll_cons hA
  obtain ⟨rfl, rfl, rfl⟩ := trodAll_nil r0
  obtain rfl : args = #[v0] := Array.toList_inj.1 hargs0
  obtain ⟨s0, rfl, rfl, rfl, z0⟩ := open_string Try.underlying9 (hval 0 9 v0 rfl rfl) h0
  clear hA0
  refine (walk s0 z0 W).mono fun e W' ⟨he, hx⟩ => ?_
  subst he
  exact ⟨_, rfl, post_true (tb := 4) laidOut (by rw [Try.params5]; intro t ht; simp at ht; subst ht; exact ⟨by kernel_rfl, of_decide_eq_true (by kernel_rfl)⟩) (by kernel_rfl) hW' hx (by obtain ⟨rfl, rfl⟩ := trodVars_none hV; rfl) rfl Try.underlying4⟩

set_option maxRecDepth 100000 in
theorem lifted (os : Os) (started : os.Started) (H : Type) (enc : TypeId × Value → H) :
    ReturnsInHanded {} Try.checked os 5 .any (Rows.fnExactCountRunsSpec.pre6 enc Try.prog Try.f5 Rows.fnExactCountRunsRow.domain false) (Rows.fnExactCountRunsSpec.post enc Try.prog Try.f5 false true false false) := by
  refine returnsInHanded_of_change (C := Try.checked) own started (by kernel_rfl) Try.func5
    (ChangeSpec.witness6 (enc := enc) (C := Try.checked) false ⟨#[], #[.string ByteArray.empty], []⟩ 8 (by kernel_rfl) (by kernel_rfl) (by kernel_rfl) (by kernel_rfl)) ?_
  intro W base args ds gs before hval hW _ _
  exact contract H enc W base args ds gs before hval hW

theorem said : Rows.FnExactCountRunsSaid :=
  OpenClaim.holds_of_wide 5 Try.f5 rfl rfl rfl rfl rfl rfl rfl ⟨rfl, rfl, rfl, rfl, rfl⟩ rfl rfl rfl rfl rfl (by kernel_rfl) Try.func5 (by kernel_rfl)
    (of_decide_eq_true (by kernel_rfl)) (by unfold Func.isWrapper; first | (rw [if_pos (by decide +kernel)]; kernel_rfl) | (rw [if_neg (by decide +kernel)]; exact ⟨rfl, rfl⟩))
    (fun os started H enc _ => lifted os started H enc)
end Go.Proofs.Ytnoidabmbckfkaa.countRuns
