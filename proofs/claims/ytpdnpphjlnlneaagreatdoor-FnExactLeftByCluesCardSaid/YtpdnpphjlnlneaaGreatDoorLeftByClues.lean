/- For every puzzle, LeftByClues returns the same values as the reference model, in memory of its own, and leaves its argument unmodified. Conditions: the package variables read as the program's text lays them. -/
import Derived.Test.YtpdnpphjlnlneaaGreatDoorCards
import Derived.Test.YtpdnpphjlnlneaaGreatDoorTie
import Derived.Test.YtpdnpphjlnlneaaGreatDoorLaw
import Derived.Lay
import Derived.MakeChecks
import Derived.LaidMore
import Derived.SevenTiedAt
import Derived.Stop.Joined
import Derived.Deep.DeepHandedRow
import Derived.Test.YtpdnpphjlnlneaaGreatDoorLbc
import Derived.Test.YtpdnpphjlnlneaaGreatDoorApo
namespace Go.Proofs.YtpdnpphjlnlneaaGreatDoor.leftByClues
open Go.ChangeShapes Go.WideShapes Go.ChangeAt Go.RowKit
open Go.ChangeMaps (open_string shut_string)

theorem lef_len (d : Int) (gs : List Cl) : (lefV d gs).length ≤ 1048576 := by
  cases h : isPz d gs
  · rw [lefV_no h]; simp
  · rw [lefV_yes h, List.length_map, List.length_range]
    have := (isPz_bd h).l
    omega

set_option maxRecDepth 100000 in
set_option maxHeartbeats 4000000 in
theorem walk (w : World) (v : Value) (d : Int) (u : Value) (gs : List Cl) (hv : v = .agg #[.int .i64 d, u]) (_hm : -9223372036854775808 ≤ d ∧ d ≤ 9223372036854775807) (h : Cls w u gs)  : Calls Tryz.prog 6 #[v] w fun e w' => e = .returned (.bool true) ∧ Ext w w' := by
  subst hv
  have hzl := Lib.hid (lef_len d gs)
  have hzm := Lib.hid True.intro
  obtain ⟨X, hX⟩ : ∃ X, X = lefV d gs := ⟨_, rfl⟩
  obtain ⟨ok, hok⟩ : ∃ X, X = isPz d gs := ⟨_, rfl⟩
  rw [← hX] at hzl
  have HP := Lib.hid (show ∀ (w : World) (v : Value) (h : Clc w v gs), Calls Tryz.prog 24 #[.agg #[.int .i64 d, v]] w (ResI X ok w) from fun w v h => by rw [hX, hok]; exact lbS_any d v gs w h)
  have HM := Lib.hid (show ∀ (w : World) (v : Value) (h : Clc w v gs), Calls Tryz.prog 25 #[.agg #[.int .i64 d, v]] w (ResI X ok w) from fun w v h => by rw [hX, hok]; exact lbP_any d v gs w h)
  have H := Lib.hid h
  have X0 := Lib.hid (show Ext w (w.alloc (.cells #[.int .i64 d, u] 31)) from (Ext.refl w).alloc _)
  clear h hX hok
  by_cases hbig : 1048576 < gs.length
  · go_enter Tryz.func6, Tryz.ntmps6
    go_wp2_with (go_at_call 17; refine (szPz_any d u gs _ (H.out.ext X0.out)).mono ?_; rintro e w1 ⟨rfl, x1⟩; rw [if_pos hbig])
    go_ret
    exact ⟨rfl, X0.out.trans x1⟩
  have hn : gs.length ≤ 1048576 := by omega
  go_enter Tryz.func6, Tryz.ntmps6
  go_wp2_with fail
  refine (szPz_any d u gs _ (H.out.ext X0.out)).mono ?_
  rintro e w1 ⟨rfl, x1⟩
  rw [if_neg hbig]
  have XA1 := Lib.hid x1
  obtain ⟨a1, a2⟩ := pz_cells x1
  clear x1
  go_wp2_with fail
  refine (toPz_any d u gs _ (H.out.ext (X0.out.trans XA1.out)) hn).mono ?_
  rintro e w2 ⟨u2, rfl, hu2, ho2, x2⟩
  have XA2 := Lib.hid (XA1.out.trans x2)
  have HU2 := Lib.hid (clc_of hu2 ho2)
  clear a1 a2 x2 hu2 ho2
  go_wp2_with fail
  refine (HP.out _ _ HU2.out).mono ?_
  rintro e w3 ⟨g2, rfl, r2, x3⟩
  have R2 := Lib.hid r2
  have XA3 := Lib.hid (XA2.out.trans x3)
  clear x3 r2
  obtain ⟨a1, a2⟩ := pz_cells XA3.out
  go_wp2_with fail
  refine (toPz_any d u gs _ (H.out.ext (X0.out.trans XA3.out)) hn).mono ?_
  rintro e w4 ⟨u4, rfl, hu4, hr4, x4⟩
  obtain ⟨a4, c4, rfl⟩ := hr4.shape
  have HOB := Lib.hid hr4.own
  have HI4 := Lib.hid (hu4.ext ((Ext.refl w4).alloc (.cells #[.int .i64 d, .slice a4 gs.length c4] 37)))
  have HO4 := Lib.hid (hr4.ext ((Ext.refl w4).alloc (.cells #[.int .i64 d, .slice a4 gs.length c4] 37)))
  have X4 := Lib.hid (x4.trans ((Ext.refl w4).alloc (.cells #[.int .i64 d, .slice a4 gs.length c4] 37)))
  have XA4 := Lib.hid (XA3.out.trans X4.out)
  clear a1 a2 x4 hu4 hr4
  go_wp2_with fail
  refine (HM.out _ _ (clc_of HI4.out HO4.out)).mono ?_
  rintro e w5 ⟨g5, rfl, r5, x5⟩
  have R5 := Lib.hid r5
  have X5 := Lib.hid x5
  have XA5 := Lib.hid (XA4.out.trans x5)
  clear x5 r5
  go_wp2_with fail
  refine (eqI_any _ _ _ _ _ _ R5.out (R2.out.ext (X4.out.trans X5.out)) (by have := hzl.out; omega)).mono ?_
  rintro e w6 ⟨rfl, x6⟩
  have XA6 := Lib.hid (XA5.out.trans x6)
  have X6 := Lib.hid (X5.out.trans x6)
  have x6h := Lib.hid x6
  obtain ⟨a1, a2⟩ := pz_cells XA6.out
  obtain ⟨d1, d2⟩ := pz_cells X6.out
  clear x6
  go_wp2
  go_region_with (first | (go_at_call 19; refine (toPz_any d u gs _ (H.out.ext (X0.out.trans (ext_drewN XA6.out _))) hn).mono ?_; rintro e w7 ⟨u7, rfl, hu7, _, x7⟩; have HU7 := Lib.hid hu7; have x7h := Lib.hid (Ext.trans (ext_drewN (Ext.refl w6) _) x7); have HU8 := Lib.hid ((HI4.out.ext (ext_drewN X6.out _)).ext x7); obtain ⟨d1, d2⟩ := pz_cells ((ext_drewN X6.out _).trans x7); clear x7 hu7) | (go_at_call 21; refine (eqPz_any d _ u7 gs _ HU8.out HU7.out hn).mono ?_; rintro e w8 ⟨rfl, x8⟩))
  all_goals (have X8 := Lib.hid (x7h.out.trans x8))
  all_goals clear x8 x7h HU7 HU8 d1 d2 a1 a2
  all_goals (obtain ⟨d1, d2⟩ := pz_cells (X6.out.trans X8.out))
  all_goals go_wp2_with fail
  all_goals refine (markPz_any d _ gs _ w8 (HO4.out.ext (X6.out.trans X8.out)) hn).mono ?_
  all_goals rintro e w9 ⟨rfl, _, hg9⟩
  all_goals (
    have Y8 := Lib.hid (X8.out.trans ((Ext.refl w8).alloc (.cells #[.int .i64 d, .slice a4 gs.length c4] 37)))
    have XA9 := Lib.hid (ext_grown (XA6.out.trans Y8.out) hg9 (fun j hj => Nat.le_trans XA3.out.size (ob_ge HOB.out j hj)))
    have S9 := Lib.hid (RowI.kept (R2.out.ext (X4.out.trans (X6.out.trans Y8.out))) hg9 (apI_hi R2.out HOB.out))
    have G9 := Lib.hid (RowI.kept (R5.out.ext (x6h.out.trans Y8.out)) hg9 (apI_lo R5.out HOB.out (by simp)))
    clear hg9 d1 d2
    go_wp2_with fail
    refine (eqI_any _ _ _ _ _ _ G9.out S9.out (by have := hzl.out; omega)).mono ?_
    rintro e w10 ⟨rfl, x10⟩
    have XA10 := Lib.hid (XA9.out.trans x10)
    go_wp2_with fail
    refine (markI_any _ _ _ _ (G9.out.ext x10) (by have := hzl.out; omega)).mono ?_
    rintro e w11 ⟨rfl, m11, hg11⟩
    have M11 := Lib.hid m11
    have XA11 := Lib.hid (ext_grown XA10.out hg11 (fun j hj => Nat.le_trans XA4.out.size (R5.out.own_le j hj)))
    have S11 := Lib.hid (RowI.kept (S9.out.ext x10) hg11 (R2.out.apart2 R5.out X4.out.size))
    clear m11 hg11 x10
    go_wp2_with fail
    refine (heldI_any _ _ _ _ M11.out (by have := hzl.out; omega)).mono ?_
    rintro e w12 ⟨rfl, x12⟩
    subst x12
    have XA12 := Lib.hid XA11.out
    have x12h := Lib.hid (Ext.refl w11)
    obtain ⟨a1, a2⟩ := pz_cells XA12.out
    go_wp2_with fail
    refine (toPz_any d u gs _ (H.out.ext (X0.out.trans XA12.out)) hn).mono ?_
    rintro e w13 ⟨u13, rfl, hu13, ho13, x13⟩
    have HU13 := Lib.hid (clc_of hu13 ho13)
    have XA13 := Lib.hid (XA12.out.trans x13)
    have Y13 := Lib.hid (x12h.out.trans x13)
    clear a1 a2 hu13 ho13 x13
    go_wp2_with fail
    refine (HM.out _ _ HU13.out).mono ?_
    rintro e w14 ⟨g14, rfl, r14, x14⟩
    have R14 := Lib.hid r14
    have XA14 := Lib.hid (XA13.out.trans x14)
    have Y14 := Lib.hid (Y13.out.trans x14)
    clear r14 x14
    go_wp2_with fail
    refine (eqI_any _ _ _ _ _ _ R14.out (S11.out.ext Y14.out) (by have := hzl.out; omega)).mono ?_
    rintro e w15 ⟨rfl, x15⟩
    have XA15 := Lib.hid (XA14.out.trans x15)
    have Y15 := Lib.hid (Y14.out.trans x15)
    clear x15
    go_wp2_with fail
    refine (heldI_any _ _ _ _ (M11.out.ext Y15.out) (by have := hzl.out; omega)).mono ?_
    rintro e w16 ⟨rfl, x16⟩
    subst x16
    go_wp2_with fail
    go_ret
    exact ⟨rfl, X0.out.trans XA15.out⟩)

set_option maxRecDepth 100000 in
theorem contract (H : Type) (enc : TypeId × Value → H) (W : World) (base : Nat) (args : Array Value) (ds gs : List (DataW H)) (before : List MemPlace)
    (hval : ∀ (j : Nat) t v, Tryz.f6.params[j]? = some t → args[j]? = some v → Value.okWide Tryz.prog W .any base t v)
    (hW : DataW.Whole enc Tryz.prog Tryz.f6.params.toList Rows.fnExactLeftByCluesSpec.vars false W args.toList ds gs before) (_hS : W.ShapedOpen Tryz.prog) :
    Calls Tryz.prog 6 args W fun e W' => ∃ v, e = .returned v ∧ Rows.fnExactLeftByCluesSpec.post enc Tryz.prog Tryz.f6 false true false false W args v W' := by
  have hW' := hW
  obtain ⟨p, q, hA0, hV, rfl, hfz, hnd⟩ := hW
  have hA : DataW.TrodAll enc Tryz.prog W 0 (fun _ => true) true Tryz.f6.params.toList args.toList ds p := hA0
  rw [Tryz.params6] at hA hval
  obtain ⟨v0, vs0, d0, ds0, p0, q0, hargs0, rfl, rfl, h0, r0⟩ := trodAll_cons hA
  obtain ⟨rfl, rfl, rfl⟩ := trodAll_nil r0
  obtain rfl : args = #[v0] := Array.toList_inj.1 hargs0
  obtain ⟨d0_, u0, gs0, hv0, hm0, hi0⟩ := puz_of (hval 0 31 v0 rfl rfl) h0
  clear hA0
  refine (walk W v0 d0_ u0 gs0 hv0 hm0 hi0).mono fun e W' ⟨he, hx⟩ => ?_
  subst he
  exact ⟨_, rfl, post_true (tb := 4) laidOut (by rw [Tryz.params6]; intro t ht; simp at ht; subst ht; exact ⟨by kernel_rfl, of_decide_eq_true (by kernel_rfl)⟩) (by kernel_rfl) hW' hx (by obtain ⟨rfl, rfl⟩ := trodVars_none hV; rfl) rfl Tryz.underlying4⟩

theorem laid_met (os : Os) (args : Array Value) : laidMetH Tryz.prog Rows.fnExactLeftByCluesRow.laid ((World.laidAll Tryz.prog os Rows.fnExactLeftByCluesRow.laid).forCall (fun _ _ => 0) ⟨#[], args, []⟩).memory := by
  rw [MakeChecks.laidMetH_plain _ _ _ (by kernel_rfl)]
  exact laidMet_laidAll _ (by kernel_rfl) (by kernel_rfl)
theorem reads (os : Os) {H : Type} (enc : TypeId × Value → H) : DataW.whole enc Tryz.prog ((World.laidAll Tryz.prog os Rows.fnExactLeftByCluesRow.laid).forCall (fun _ _ => 0) ⟨#[], #[.agg #[.int .i64 0, .slice none 0 0]], []⟩).memory Tryz.f6.params.toList Rows.fnExactLeftByCluesSpec.vars false (#[.agg #[.int .i64 0, .slice none 0 0]] : Array Value).toList 8 = some ([.agg [.lit (.int .i64 0), .nil]], [], []) := by kernel_rfl

set_option maxRecDepth 100000 in
theorem lifted (os : Os) (started : os.Started) (H : Type) (enc : TypeId × Value → H) (F : Stop.Interp) :
    ReturnsInHanded {} Tryz.checked os 6 .any ((OpenSpec.ofChange Rows.fnExactLeftByCluesSpec).preRow enc Tryz.prog Tryz.f6 Rows.fnExactLeftByCluesRow.domain false Rows.fnExactLeftByCluesRow.laid) (((OpenSpec.ofChange Rows.fnExactLeftByCluesSpec).at F).post enc Tryz.prog Tryz.f6 false true false false) := by
  have hx := reads os enc (H := H)
  have hok : Input.okWideB Tryz.prog ((World.laidAll Tryz.prog os Rows.fnExactLeftByCluesRow.laid).forCall (fun _ _ => 0) ⟨#[], #[.agg #[.int .i64 0, .slice none 0 0]], []⟩) 6 ⟨#[], #[.agg #[.int .i64 0, .slice none 0 0]], []⟩ = true := by kernel_rfl
  refine returnsInHanded_of_row (C := Tryz.checked) (s := OpenSpec.ofChange Rows.fnExactLeftByCluesSpec) own started (by kernel_rfl) Tryz.func6
    ⟨World.laidAll Tryz.prog os Rows.fnExactLeftByCluesRow.laid, fun _ _ => 0, ⟨#[], #[.agg #[.int .i64 0, .slice none 0 0]], []⟩, World.laidAll_os _ _ _, World.shaped_of_ZipB (by kernel_rfl) (by kernel_rfl), (Input.okWide_of_okWideB (base := 0) hok).1, (Input.okWide_of_okWideB hok).2,
      OpenSpec.preRow_of_cond 8 hx (by kernel_rfl) (fun k hk => by cases hk) (by kernel_rfl) (laid_met os _), by
        simp only [Assume.holds]
        exact ⟨by simp, by simp, fun _ => Modest.zero, by simp, by simp⟩⟩ ?_
  intro W base args ds gs before hval hW _ _ _ _ hS _
  exact contract H enc W base args ds gs before hval hW hS

theorem said : Rows.FnExactLeftByCluesSaid :=
  OpenClaim.holds_of_cond 6 Tryz.f6 rfl rfl rfl rfl rfl rfl rfl ⟨rfl, rfl, rfl, rfl, rfl⟩ rfl rfl rfl rfl rfl (by kernel_rfl) Tryz.func6 (by kernel_rfl)
    (of_decide_eq_true (by kernel_rfl)) (by unfold Func.isWrapper; first | (rw [if_pos (by decide +kernel)]; kernel_rfl) | (rw [if_neg (by decide +kernel)]; exact ⟨rfl, rfl⟩))
    (fun os started H enc _ F => by rw [OpenClaim.pre_eq_preRow]; exact lifted os started H enc F)

theorem plain (f : FuncId) (fn : Func) (hf : Tryz.pinned.checked.prog.funcNamed "loop.example/g01350/laws.FnExactLeftByClues" = some f) (hfn : Tryz.pinned.checked.prog.funcs[f]? = some fn) :
    true = Tryz.pinned.checked.prog.looks [] ∧ ∀ (j : Nat) t, fn.params[j]? = some t → Tryz.pinned.checked.prog.wantsStandIn t = false := by
  obtain rfl : f = 6 := Option.some.inj ((show Tryz.prog.funcNamed "loop.example/g01350/laws.FnExactLeftByClues" = some 6 by kernel_rfl).symm.trans hf) |>.symm
  obtain rfl : fn = Tryz.f6 := (Option.some.inj (Tryz.func6.symm.trans hfn)).symm
  refine ⟨by kernel_rfl, fun j t ht => ?_⟩
  rw [Tryz.params6] at ht
  have hm := Array.mem_of_getElem? ht
  have hall : (#[31].toList.all fun u => !Tryz.prog.wantsStandIn u) = true := by kernel_rfl
  exact (show Tryz.prog.wantsStandIn t = false by simpa using List.all_eq_true.1 hall t (by simpa using hm))

/-- THE CARD -/
theorem card : Rows.FnExactLeftByCluesCardSaid :=
  Claim7.holds_tied_plain_at .later [] _ _ _ _ said (fun _ h => by cases h) (by kernel_rfl) (fun _ h => by cases h) fnExactLeftByClues_row_tie rfl ⟨rfl, rfl⟩ (by kernel_rfl) rfl plain (by kernel_rfl)
end Go.Proofs.YtpdnpphjlnlneaaGreatDoor.leftByClues
