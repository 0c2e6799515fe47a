/- For every puzzle, SureDigits returns the same values as the reference model and leaves its argument unmodified. Conditions: the package variables read as the program's text lays them. -/
import Derived.Test.YtpdnpphjlnlneaaGreatDoorCards
import Derived.Test.YtpdnpphjlnlneaaGreatDoorTie
import Derived.Test.YtpdnpphjlnlneaaGreatDoorLaw
import Derived.Lay
import Derived.MakeChecks
import Derived.LaidMore
import Derived.SevenTiedAt
import Derived.Stop.Joined
import Derived.Deep.DeepHandedRow
import Derived.Test.YtpdnpphjlnlneaaGreatDoorSur
import Derived.Test.YtpdnpphjlnlneaaGreatDoorSurP
namespace Go.Proofs.YtpdnpphjlnlneaaGreatDoor.sureDigits
open Go.ChangeShapes Go.WideShapes Go.ChangeAt Go.RowKit
open Go.ChangeMaps (open_string shut_string)

set_option maxRecDepth 100000 in
set_option maxHeartbeats 2000000 in
theorem walk (w : World) (v : Value) (d : Int) (u : Value) (gs : List Cl) (hv : v = .agg #[.int .i64 d, u]) (_hm : -9223372036854775808 ≤ d ∧ d ≤ 9223372036854775807) (h : Cls w u gs)  : Calls Tryz.prog 11 #[v] w fun e w' => e = .returned (.bool true) ∧ Ext w w' := by
  subst hv
  obtain ⟨X0, hX0⟩ : ∃ X, X = (surV d gs) := ⟨_, rfl⟩
  obtain ⟨ok, hok⟩ : ∃ X, X = (surOk d gs) := ⟨_, rfl⟩
  have HP := Lib.hid (show ∀ (w : World) (v : Value) (h : Cls w v gs), Calls Tryz.prog 41 #[.agg #[.int .i64 d, v]] w fun e w' => e = .returned (.tuple #[.string X0, .bool ok]) ∧ Ext w w' from fun w v h => by rw [hX0, hok]; exact suS_any d v gs w h)
  have HM := Lib.hid (show ∀ (w : World) (v : Value) (h : Cls w v gs), Calls Tryz.prog 42 #[.agg #[.int .i64 d, v]] w fun e w' => e = .returned (.tuple #[.string X0, .bool ok]) ∧ Ext w w' from fun w v h => by rw [hX0, hok]; exact suP_any d v gs w h)
  have H := Lib.hid h
  have X0 := Lib.hid (show Ext w (w.alloc (.cells #[.int .i64 d, u] 31)) from (Ext.refl w).alloc _)
  clear h hX0 hok
  by_cases hbig : 1048576 < gs.length
  · go_enter Tryz.func11, Tryz.ntmps11
    go_wp2_with (go_at_call 17; refine (szPz_any d u gs _ (H.out.ext X0.out)).mono ?_; rintro e w1 ⟨rfl, x1⟩; rw [if_pos hbig])
    go_ret
    exact ⟨rfl, X0.out.trans x1⟩
  have hn : gs.length ≤ 1048576 := by omega
  go_enter Tryz.func11, Tryz.ntmps11
  go_wp2_with fail
  refine (szPz_any d u gs _ (H.out.ext X0.out)).mono ?_
  rintro e w1 ⟨rfl, x1⟩
  rw [if_neg hbig]
  have XA1 := Lib.hid x1
  obtain ⟨a1, a2⟩ := pz_cells x1
  clear x1
  go_wp2_with fail
  refine (toPz_any d u gs _ (H.out.ext (X0.out.trans XA1.out)) hn).mono ?_
  rintro e w2 ⟨u2, rfl, hu2, _, x2⟩
  have XA2 := Lib.hid (XA1.out.trans x2)
  have HU2 := Lib.hid hu2
  clear a1 a2 x2 hu2
  obtain ⟨a1, a2⟩ := pz_cells XA2.out
  go_wp2_with fail
  refine (HP.out _ _ HU2.out).mono ?_
  rintro e w3 ⟨rfl, x3⟩
  have XA3 := Lib.hid (XA2.out.trans x3)
  clear a1 a2 x3
  obtain ⟨a1, a2⟩ := pz_cells XA3.out
  go_wp2_with fail
  refine (toPz_any d u gs _ (H.out.ext (X0.out.trans XA3.out)) hn).mono ?_
  rintro e w4 ⟨u4, rfl, hu4, _, x4⟩
  have XA4 := Lib.hid ((XA3.out.trans x4).trans ((Ext.refl w4).alloc (.cells #[.int .i64 d, u4] 37)))
  have HU4 := Lib.hid (hu4.ext ((Ext.refl w4).alloc (.cells #[.int .i64 d, u4] 37)))
  have X4 := Lib.hid x4
  obtain ⟨g4, c4, hg4, _⟩ := hu4.at
  subst hg4
  clear a1 a2 x4 hu4
  go_wp2_with fail
  refine (HM.out _ _ HU4.out).mono ?_
  rintro e w5 ⟨rfl, x5⟩
  have XA5 := Lib.hid (XA4.out.trans x5)
  have HU5 := Lib.hid (HU4.out.ext x5)
  obtain ⟨a1, a2⟩ := pz_cells XA5.out
  obtain ⟨d1, d2⟩ := pz_cells x5
  have X5 := Lib.hid x5
  clear x5
  go_wp2
  go_region_with (first | (go_at_call 19; refine (toPz_any d u gs _ (H.out.ext (X0.out.trans (ext_drewN XA5.out _))) hn).mono ?_; rintro e w6 ⟨u6, rfl, hu6, _, x6⟩; have HU6 := Lib.hid hu6; have XA6 := Lib.hid ((ext_drewN XA5.out _).trans x6); have HU7 := Lib.hid ((HU5.out.ext (ext_drewN (Ext.refl _) _)).ext x6); obtain ⟨d1, d2⟩ := pz_cells ((ext_drewN X5.out _).trans x6); clear x6 hu6) | (go_at_call 21; refine (eqPz_any d _ u6 gs _ HU7.out HU6.out hn).mono ?_; rintro e w7 ⟨rfl, x7⟩))
  all_goals go_wp2
  all_goals go_ret
  all_goals exact ⟨rfl, X0.out.trans (XA6.out.trans x7)⟩

set_option maxRecDepth 100000 in
theorem contract (H : Type) (enc : TypeId × Value → H) (W : World) (base : Nat) (args : Array Value) (ds gs : List (DataW H)) (before : List MemPlace)
    (hval : ∀ (j : Nat) t v, Tryz.f11.params[j]? = some t → args[j]? = some v → Value.okWide Tryz.prog W .any base t v)
    (hW : DataW.Whole enc Tryz.prog Tryz.f11.params.toList Rows.fnExactSureDigitsSpec.vars false W args.toList ds gs before) (_hS : W.ShapedOpen Tryz.prog) :
    Calls Tryz.prog 11 args W fun e W' => ∃ v, e = .returned v ∧ Rows.fnExactSureDigitsSpec.post enc Tryz.prog Tryz.f11 false true false false W args v W' := by
  have hW' := hW
  obtain ⟨p, q, hA0, hV, rfl, hfz, hnd⟩ := hW
  have hA : DataW.TrodAll enc Tryz.prog W 0 (fun _ => true) true Tryz.f11.params.toList args.toList ds p := hA0
  rw [Tryz.params11] at hA hval
  obtain ⟨v0, vs0, d0, ds0, p0, q0, hargs0, rfl, rfl, h0, r0⟩ := trodAll_cons hA
  obtain ⟨rfl, rfl, rfl⟩ := trodAll_nil r0
  obtain rfl : args = #[v0] := Array.toList_inj.1 hargs0
  obtain ⟨d0_, u0, gs0, hv0, hm0, hi0⟩ := puz_of (hval 0 31 v0 rfl rfl) h0
  clear hA0
  refine (walk W v0 d0_ u0 gs0 hv0 hm0 hi0).mono fun e W' ⟨he, hx⟩ => ?_
  subst he
  exact ⟨_, rfl, post_true (tb := 4) laidOut (by rw [Tryz.params11]; intro t ht; simp at ht; subst ht; exact ⟨by kernel_rfl, of_decide_eq_true (by kernel_rfl)⟩) (by kernel_rfl) hW' hx (by obtain ⟨rfl, rfl⟩ := trodVars_none hV; rfl) rfl Tryz.underlying4⟩

theorem laid_met (os : Os) (args : Array Value) : laidMetH Tryz.prog Rows.fnExactSureDigitsRow.laid ((World.laidAll Tryz.prog os Rows.fnExactSureDigitsRow.laid).forCall (fun _ _ => 0) ⟨#[], args, []⟩).memory := by
  rw [MakeChecks.laidMetH_plain _ _ _ (by kernel_rfl)]
  exact laidMet_laidAll _ (by kernel_rfl) (by kernel_rfl)
theorem reads (os : Os) {H : Type} (enc : TypeId × Value → H) : DataW.whole enc Tryz.prog ((World.laidAll Tryz.prog os Rows.fnExactSureDigitsRow.laid).forCall (fun _ _ => 0) ⟨#[], #[.agg #[.int .i64 0, .slice none 0 0]], []⟩).memory Tryz.f11.params.toList Rows.fnExactSureDigitsSpec.vars false (#[.agg #[.int .i64 0, .slice none 0 0]] : Array Value).toList 8 = some ([.agg [.lit (.int .i64 0), .nil]], [], []) := by kernel_rfl

set_option maxRecDepth 100000 in
theorem lifted (os : Os) (started : os.Started) (H : Type) (enc : TypeId × Value → H) (F : Stop.Interp) :
    ReturnsInHanded {} Tryz.checked os 11 .any ((OpenSpec.ofChange Rows.fnExactSureDigitsSpec).preRow enc Tryz.prog Tryz.f11 Rows.fnExactSureDigitsRow.domain false Rows.fnExactSureDigitsRow.laid) (((OpenSpec.ofChange Rows.fnExactSureDigitsSpec).at F).post enc Tryz.prog Tryz.f11 false true false false) := by
  have hx := reads os enc (H := H)
  have hok : Input.okWideB Tryz.prog ((World.laidAll Tryz.prog os Rows.fnExactSureDigitsRow.laid).forCall (fun _ _ => 0) ⟨#[], #[.agg #[.int .i64 0, .slice none 0 0]], []⟩) 11 ⟨#[], #[.agg #[.int .i64 0, .slice none 0 0]], []⟩ = true := by kernel_rfl
  refine returnsInHanded_of_row (C := Tryz.checked) (s := OpenSpec.ofChange Rows.fnExactSureDigitsSpec) own started (by kernel_rfl) Tryz.func11
    ⟨World.laidAll Tryz.prog os Rows.fnExactSureDigitsRow.laid, fun _ _ => 0, ⟨#[], #[.agg #[.int .i64 0, .slice none 0 0]], []⟩, World.laidAll_os _ _ _, World.shaped_of_ZipB (by kernel_rfl) (by kernel_rfl), (Input.okWide_of_okWideB (base := 0) hok).1, (Input.okWide_of_okWideB hok).2,
      OpenSpec.preRow_of_cond 8 hx (by kernel_rfl) (fun k hk => by cases hk) (by kernel_rfl) (laid_met os _), by
        simp only [Assume.holds]
        exact ⟨by simp, by simp, fun _ => Modest.zero, by simp, by simp⟩⟩ ?_
  intro W base args ds gs before hval hW _ _ _ _ hS _
  exact contract H enc W base args ds gs before hval hW hS

theorem said : Rows.FnExactSureDigitsSaid :=
  OpenClaim.holds_of_cond 11 Tryz.f11 rfl rfl rfl rfl rfl rfl rfl ⟨rfl, rfl, rfl, rfl, rfl⟩ rfl rfl rfl rfl rfl (by kernel_rfl) Tryz.func11 (by kernel_rfl)
    (of_decide_eq_true (by kernel_rfl)) (by unfold Func.isWrapper; first | (rw [if_pos (by decide +kernel)]; kernel_rfl) | (rw [if_neg (by decide +kernel)]; exact ⟨rfl, rfl⟩))
    (fun os started H enc _ F => by rw [OpenClaim.pre_eq_preRow]; exact lifted os started H enc F)

theorem plain (f : FuncId) (fn : Func) (hf : Tryz.pinned.checked.prog.funcNamed "loop.example/g01350/laws.FnExactSureDigits" = some f) (hfn : Tryz.pinned.checked.prog.funcs[f]? = some fn) :
    true = Tryz.pinned.checked.prog.looks [] ∧ ∀ (j : Nat) t, fn.params[j]? = some t → Tryz.pinned.checked.prog.wantsStandIn t = false := by
  obtain rfl : f = 11 := Option.some.inj ((show Tryz.prog.funcNamed "loop.example/g01350/laws.FnExactSureDigits" = some 11 by kernel_rfl).symm.trans hf) |>.symm
  obtain rfl : fn = Tryz.f11 := (Option.some.inj (Tryz.func11.symm.trans hfn)).symm
  refine ⟨by kernel_rfl, fun j t ht => ?_⟩
  rw [Tryz.params11] at ht
  have hm := Array.mem_of_getElem? ht
  have hall : (#[31].toList.all fun u => !Tryz.prog.wantsStandIn u) = true := by kernel_rfl
  exact (show Tryz.prog.wantsStandIn t = false by simpa using List.all_eq_true.1 hall t (by simpa using hm))

/-- THE CARD -/
theorem card : Rows.FnExactSureDigitsCardSaid :=
  Claim7.holds_tied_plain_at .later [] _ _ _ _ said (fun _ h => by cases h) (by kernel_rfl) (fun _ h => by cases h) fnExactSureDigits_row_tie rfl ⟨rfl, rfl⟩ (by kernel_rfl) rfl plain (by kernel_rfl)
end Go.Proofs.YtpdnpphjlnlneaaGreatDoor.sureDigits
