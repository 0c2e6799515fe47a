/- For every puzzle, IsPuzzle returns the same value as the reference model and leaves its argument unmodified. Conditions: none. -/
import Derived.Test.YtbldbopmpflpcaaRows
import Derived.Test.YtbldbopmpflpcaaLaw
import Derived.Test.YtbldbopmpflpcaaHsn
import Derived.OpenShut
import Derived.ChangeMaps
namespace Go.Proofs.Ytbldbopmpflpcaa.isPuzzle
open Go.ChangeShapes Go.WideShapes Go.ChangeAt Go.RowKit
open Go.ChangeMaps (open_string shut_string)

set_option maxRecDepth 100000 in
set_option maxHeartbeats 2000000 in
theorem walk (w : World) (v : Value) (d : Int) (u : Value) (gs : List Cl) (hv : v = .agg #[.int .i64 d, u]) (_hm : -9223372036854775808 ≤ d ∧ d ≤ 9223372036854775807) (h : Cls w u gs)  : Calls Try.prog 4 #[v] w fun e w' => e = .returned (.bool true) ∧ Ext w w' := by
  subst hv
  obtain ⟨X0, hX0⟩ : ∃ X, X = (isPz d gs) := ⟨_, rfl⟩
  have HP := Lib.hid (show ∀ (w : World) (v : Value) (h : Cls w v gs), Calls Try.prog 11 #[.agg #[.int .i64 d, v]] w fun e w' => e = .returned (.bool X0) ∧ Ext w w' from fun w v h => by rw [hX0]; exact isPzS_any d v gs w h)
  have HM := Lib.hid (show ∀ (w : World) (v : Value) (h : Cls w v gs), Calls Try.prog 13 #[.agg #[.int .i64 d, v]] w fun e w' => e = .returned (.bool X0) ∧ Ext w w' from fun w v h => by rw [hX0]; exact isPzP_any d v gs w h)
  have H := Lib.hid h
  have X0 := Lib.hid (show Ext w (w.alloc (.cells #[.int .i64 d, u] 30)) from (Ext.refl w).alloc _)
  clear h hX0
  by_cases hbig : 1048576 < gs.length
  · go_enter Try.func4, Try.ntmps4
    go_wp2_with (go_at_call 10; refine (szPz_any d u gs _ (H.out.ext X0.out)).mono ?_; rintro e w1 ⟨rfl, x1⟩; rw [if_pos hbig])
    go_ret
    exact ⟨rfl, X0.out.trans x1⟩
  have hn : gs.length ≤ 1048576 := by omega
  go_enter Try.func4, Try.ntmps4
  go_wp2_with fail
  refine (szPz_any d u gs _ (H.out.ext X0.out)).mono ?_
  rintro e w1 ⟨rfl, x1⟩
  rw [if_neg hbig]
  have XA1 := Lib.hid x1
  obtain ⟨a1, a2⟩ := pz_cells x1
  clear x1
  go_wp2_with fail
  refine (toPz_any d u gs _ (H.out.ext (X0.out.trans XA1.out)) hn).mono ?_
  rintro e w2 ⟨u2, rfl, hu2, _, x2⟩
  have XA2 := Lib.hid (XA1.out.trans x2)
  have HU2 := Lib.hid hu2
  clear a1 a2 x2 hu2
  obtain ⟨a1, a2⟩ := pz_cells XA2.out
  go_wp2_with fail
  refine (HP.out _ _ HU2.out).mono ?_
  rintro e w3 ⟨rfl, x3⟩
  have XA3 := Lib.hid (XA2.out.trans x3)
  clear a1 a2 x3
  obtain ⟨a1, a2⟩ := pz_cells XA3.out
  go_wp2_with fail
  refine (toPz_any d u gs _ (H.out.ext (X0.out.trans XA3.out)) hn).mono ?_
  rintro e w4 ⟨u4, rfl, hu4, _, x4⟩
  have XA4 := Lib.hid ((XA3.out.trans x4).trans ((Ext.refl w4).alloc (.cells #[.int .i64 d, u4] 35)))
  have HU4 := Lib.hid (hu4.ext ((Ext.refl w4).alloc (.cells #[.int .i64 d, u4] 35)))
  have X4 := Lib.hid x4
  obtain ⟨g4, c4, hg4, _⟩ := hu4.at
  subst hg4
  clear a1 a2 x4 hu4
  go_wp2_with fail
  refine (HM.out _ _ HU4.out).mono ?_
  rintro e w5 ⟨rfl, x5⟩
  have XA5 := Lib.hid (XA4.out.trans x5)
  have HU5 := Lib.hid (HU4.out.ext x5)
  obtain ⟨a1, a2⟩ := pz_cells XA5.out
  obtain ⟨d1, d2⟩ := pz_cells x5
  have X5 := Lib.hid x5
  clear x5
  go_wp2
  go_region_with (first | (go_at_call 12; refine (toPz_any d u gs _ (H.out.ext (X0.out.trans (ext_drewN XA5.out _))) hn).mono ?_; rintro e w6 ⟨u6, rfl, hu6, _, x6⟩; have HU6 := Lib.hid hu6; have XA6 := Lib.hid ((ext_drewN XA5.out _).trans x6); have HU7 := Lib.hid ((HU5.out.ext (ext_drewN (Ext.refl _) _)).ext x6); obtain ⟨d1, d2⟩ := pz_cells ((ext_drewN X5.out _).trans x6); clear x6 hu6) | (go_at_call 14; refine (eqPz_any d _ u6 gs _ HU7.out HU6.out hn).mono ?_; rintro e w7 ⟨rfl, x7⟩))
  all_goals go_wp2
  all_goals go_ret
  all_goals exact ⟨rfl, X0.out.trans (XA6.out.trans x7)⟩

set_option maxRecDepth 100000 in
theorem contract (H : Type) (enc : TypeId × Value → H) (W : World) (base : Nat) (args : Array Value) (ds gs : List (DataW H)) (before : List MemPlace)
    (hval : ∀ (j : Nat) t v, Try.f4.params[j]? = some t → args[j]? = some v → Value.okWide Try.prog W .any base t v)
    (hW : DataW.Whole enc Try.prog Try.f4.params.toList Rows.fnExactIsPuzzleSpec.vars false W args.toList ds gs before) :
    Calls Try.prog 4 args W fun e W' => ∃ v, e = .returned v ∧ Rows.fnExactIsPuzzleSpec.post enc Try.prog Try.f4 false true false false W args v W' := by
  have hW' := hW
  obtain ⟨p, q, hA0, hV, rfl, hfz, hnd⟩ := hW
  have hA : DataW.TrodAll enc Try.prog W 0 (fun _ => true) true Try.f4.params.toList args.toList ds p := hA0
  rw [Try.params4] at hA hval
  obtain ⟨v0, vs0, d0, ds0, p0, q0, hargs0, rfl, rfl, h0, r0⟩ := trodAll_cons hA
  obtain ⟨rfl, rfl, rfl⟩ := trodAll_nil r0
  obtain rfl : args = #[v0] := Array.toList_inj.1 hargs0
  obtain ⟨d0_, u0, gs0, hv0, hm0, hi0⟩ := puz_of (hval 0 30 v0 rfl rfl) h0
  clear hA0
  refine (walk W v0 d0_ u0 gs0 hv0 hm0 hi0).mono fun e W' ⟨he, hx⟩ => ?_
  subst he
  exact ⟨_, rfl, post_true (tb := 4) laidOut (by rw [Try.params4]; intro t ht; simp at ht; subst ht; exact ⟨by kernel_rfl, of_decide_eq_true (by kernel_rfl)⟩) (by kernel_rfl) hW' hx (by obtain ⟨rfl, rfl⟩ := trodVars_none hV; rfl) rfl Try.underlying4⟩

set_option maxRecDepth 100000 in
theorem lifted (os : Os) (started : os.Started) (H : Type) (enc : TypeId × Value → H) :
    ReturnsInHanded {} Try.checked os 4 .any (Rows.fnExactIsPuzzleSpec.pre6 enc Try.prog Try.f4 Rows.fnExactIsPuzzleRow.domain false) (Rows.fnExactIsPuzzleSpec.post enc Try.prog Try.f4 false true false false) := by
  refine returnsInHanded_of_change (C := Try.checked) own started (by kernel_rfl) Try.func4
    (ChangeSpec.witness6 (enc := enc) (C := Try.checked) false ⟨#[], #[.agg #[.int .i64 0, .slice none 0 0]], []⟩ 8 (by kernel_rfl) (by kernel_rfl) (by kernel_rfl) (by kernel_rfl)) ?_
  intro W base args ds gs before hval hW _ _
  exact contract H enc W base args ds gs before hval hW

theorem said : Rows.FnExactIsPuzzleSaid :=
  OpenClaim.holds_of_wide 4 Try.f4 rfl rfl rfl rfl rfl rfl rfl ⟨rfl, rfl, rfl, rfl, rfl⟩ rfl rfl rfl rfl rfl (by kernel_rfl) Try.func4 (by kernel_rfl)
    (of_decide_eq_true (by kernel_rfl)) (by unfold Func.isWrapper; first | (rw [if_pos (by decide +kernel)]; kernel_rfl) | (rw [if_neg (by decide +kernel)]; exact ⟨rfl, rfl⟩))
    (fun os started H enc _ => lifted os started H enc)
end Go.Proofs.Ytbldbopmpflpcaa.isPuzzle
