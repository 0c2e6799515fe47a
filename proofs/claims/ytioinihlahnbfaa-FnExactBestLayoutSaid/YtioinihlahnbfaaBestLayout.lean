/- For every list of counts and number of keys the program's BestLayout answers as its model does, in memory of its own, and leaves the list alone. No conditions. -/
import Derived.Test.YtioinihlahnbfaaRows
import Derived.Test.YtioinihlahnbfaaLaw
import Derived.Test.YtioinihlahnbfaaBestL
import Derived.StillTailTactics
namespace Go.Proofs.Ytioinihlahnbfaa.bestLayout
open Go.ChangeShapes Go.WideShapes Go.ChangeAt Go.RowKit
open Go.ChangeMaps (open_string shut_string)

set_option maxHeartbeats 4000000 in
theorem walk (w : World) (v : Value) (zs : List Int) (h : IntsA w v zs) (n : Int) (_hn1 : (Lit.int .i64 n).wf = true) : Calls Try.prog 5 #[v, .int .i64 n] w fun e w' => e = .returned (.bool true) ∧ Ext w w' := by
  have H := Lib.hid h
  have hlm := h.1
  unfold maxLen at hlm
  obtain ⟨a, cap, hv⟩ := h.at
  rw [hv] at H ⊢
  clear hv h v
  have htl : (bV zs n).length ≤ 1048576 := bV_len zs n
  obtain ⟨ts, hts⟩ : ∃ ts, ts = bV zs n := ⟨_, rfl⟩
  obtain ⟨X, hX⟩ : ∃ X, X = bN zs n := ⟨_, rfl⟩
  obtain ⟨ok, hok⟩ : ∃ ok, ok = bOk zs n := ⟨_, rfl⟩
  have HP := Lib.hid (show ∀ (v : Value) (w : World), IntsA w v zs → Calls Try.prog 15 #[v, .int .i64 n] w (ResB ts X ok w) from fun v w h => by rw [hts, hX, hok]; exact spec_best v zs n w h)
  have HM := Lib.hid (show ∀ (v : Value) (w : World), IntsA w v zs → Calls Try.prog 17 #[v, .int .i64 n] w (ResB ts X ok w) from fun v w h => by rw [hts, hX, hok]; exact impl_best v zs n w h)
  rw [← hts] at htl
  clear hts hX hok
  by_cases hbig : 1048576 < zs.length
  · go_enter Try.func5, Try.ntmps5
    go_wp2
    go_ret
    exact ⟨rfl, Ext.refl _⟩
  have hn : zs.length ≤ 1048576 := by omega
  go_enter Try.func5, Try.ntmps5
  go_wp2_with fail
  refine (toI_any _ _ _ H.out hn).mono ?_
  rintro e w1 ⟨u1, rfl, hu1, x1, gx1, cx1, rfl, hgx1, hgl1, hox1⟩
  have H1 := Lib.hid hu1
  clear hu1 hox1
  have X1 : Ext w w1 := x1
  go_wp2_with fail
  refine (HP.out _ _ H1.out).mono ?_
  rintro e w2 ⟨g2, rfl, r2, x2⟩
  have R2 := Lib.hid r2
  clear r2
  have X2 : Ext w w2 := X1.trans x2
  go_wp2_with fail
  refine (toI_any _ _ _ (H.out.ext X2) hn).mono ?_
  rintro e w3 ⟨u3, rfl, hu3, x3, gx3, cx3, rfl, hgx3, hgl3, hox3⟩
  have H3 := Lib.hid hu3
  have O3 := Lib.hid hox3
  clear hu3 hox3
  have X3 : Ext w w3 := X2.trans x3
  go_wp2_with fail
  refine (HM.out _ _ H3.out).mono ?_
  rintro e w4 ⟨g4, rfl, r4, x4⟩
  have R4 := Lib.hid r4
  clear r4
  have X4 : Ext w w4 := X3.trans x4
  go_wp2_with fail
  refine (eqI_any _ _ _ _ _ _ R4.out (R2.out.ext (x3.trans x4)) htl).mono ?_
  rintro e w5 ⟨rfl, x5⟩
  have X5 : Ext w w5 := X4.trans x5
  go_wp2_with fail
  refine (toI_any _ _ _ (H.out.ext X5) hn).mono ?_
  rintro e w6 ⟨u6, rfl, hu6, x6, gx6, cx6, rfl, hgx6, hgl6, hox6⟩
  have O6 := Lib.hid hox6
  clear hu6 hox6
  have X6 : Ext w w6 := X5.trans x6
  go_wp2_with fail
  refine (eqI_any _ _ _ _ _ _ (O3.out.ext ((x4.trans x5).trans x6)) O6.out hn).mono ?_
  rintro e w7 ⟨rfl, x7⟩
  have X7 : Ext w w7 := X6.trans x7
  go_wp2_with fail
  refine (markI_any _ _ _ _ (O3.out.ext (((x4.trans x5).trans x6).trans x7)) hn).mono ?_
  rintro e w8 ⟨rfl, _, hg8⟩
  have X8 : Ext w w8 := ext_grown X7 hg8 (fun j hj => by cases hj; exact Nat.le_trans X2.size hgx3)
  have S8 := Lib.hid (RowI.kept (R2.out.ext ((((x3.trans x4).trans x5).trans x6).trans x7)) hg8 (R2.out.apart gx3 (.inr hgx3)))
  have G8 := Lib.hid (RowI.kept (R4.out.ext ((x5.trans x6).trans x7)) hg8 (R4.out.apart gx3 (.inl hgl3)))
  clear hg8
  go_wp2_with fail
  refine (eqI_any _ _ _ _ _ _ G8.out S8.out htl).mono ?_
  rintro e w9 ⟨rfl, x9⟩
  have X9 : Ext w w9 := X8.trans x9
  go_wp2_with fail
  refine (markI_any _ _ _ _ (G8.out.ext x9) htl).mono ?_
  rintro e w10 ⟨rfl, m10, hg10⟩
  have M10 := Lib.hid m10
  have X10 : Ext w w10 := ext_grown X9 hg10 (fun j hj => Nat.le_trans X3.size (R4.out.own_le j hj))
  have S10 := Lib.hid (RowI.kept (S8.out.ext x9) hg10 (R2.out.apart2 (w2 := w4) R4.out (x3).size))
  clear m10 hg10
  go_wp2_with fail
  refine (heldI_any _ _ _ _ M10.out htl).mono ?_
  rintro e w11 ⟨rfl, rfl⟩
  go_wp2_with fail
  refine (toI_any _ _ _ (H.out.ext X10) hn).mono ?_
  rintro e w12 ⟨u12, rfl, hu12, x12, gx12, cx12, rfl, hgx12, hgl12, hox12⟩
  have H12 := Lib.hid hu12
  clear hu12 hox12
  have X12 : Ext w w12 := X10.trans x12
  go_wp2_with fail
  refine (HM.out _ _ H12.out).mono ?_
  rintro e w13 ⟨g13, rfl, r13, x13⟩
  have R13 := Lib.hid r13
  clear r13
  have X13 : Ext w w13 := X12.trans x13
  go_wp2_with fail
  refine (eqI_any _ _ _ _ _ _ R13.out (S10.out.ext (x12.trans x13)) htl).mono ?_
  rintro e w14 ⟨rfl, x14⟩
  have X14 : Ext w w14 := X13.trans x14
  go_wp2_with fail
  refine (heldI_any _ _ _ _ (M10.out.ext ((x12.trans x13).trans x14)) htl).mono ?_
  rintro e w15 ⟨rfl, rfl⟩
  go_wp2_with fail
  go_ret
  exact ⟨rfl, X14⟩

set_option maxRecDepth 100000 in
theorem contract (H : Type) (enc : TypeId × Value → H) (W : World) (base : Nat) (args : Array Value) (ds gs : List (DataW H)) (before : List MemPlace)
    (hval : ∀ (j : Nat) t v, Try.f5.params[j]? = some t → args[j]? = some v → Value.okWide Try.prog W .any base t v)
    (hW : DataW.Whole enc Try.prog Try.f5.params.toList Rows.fnExactBestLayoutSpec.vars false W args.toList ds gs before) :
    Calls Try.prog 5 args W fun e W' => ∃ v, e = .returned v ∧ Rows.fnExactBestLayoutSpec.post enc Try.prog Try.f5 false true false false W args v W' := by
  have hW' := hW
  obtain ⟨p, q, hA0, hV, rfl, hfz, hnd⟩ := hW
  have hA : DataW.TrodAll enc Try.prog W 0 (fun _ => true) true Try.f5.params.toList args.toList ds p := hA0
  rw [Try.params5] at hA hval
  obtain ⟨v0, vs0, d0, ds0, p0, q0, hargs0, rfl, rfl, h0, r0⟩ := trodAll_cons hA
  obtain ⟨v1, vs1, d1, ds1, p1, q1, hargs1, rfl, rfl, h1, r1⟩ := trodAll_cons r0
  obtain ⟨rfl, rfl, rfl⟩ := trodAll_nil r1
  subst hargs1
  obtain rfl : args = #[v0, v1] := Array.toList_inj.1 hargs0
  obtain ⟨s0, z0⟩ := ints_of (hval 0 31 v0 rfl rfl) h0
  obtain ⟨s1, rfl, rfl, rfl, z1⟩ := open_int Try.underlying3 (hval 1 3 v1 rfl rfl) h1
  clear hA0
  refine (walk W v0 s0 z0 s1 z1).mono fun e W' ⟨he, hx⟩ => ?_
  subst he
  exact ⟨_, rfl, post_true (tb := 4) laidOut (by rw [Try.params5]; intro t ht; simp at ht; rcases ht with rfl | rfl <;> exact ⟨by kernel_rfl, of_decide_eq_true (by kernel_rfl)⟩) (by kernel_rfl) hW' hx (by obtain ⟨rfl, rfl⟩ := trodVars_none hV; rfl) rfl Try.underlying4⟩

set_option maxRecDepth 100000 in
theorem lifted (os : Os) (started : os.Started) (H : Type) (enc : TypeId × Value → H) :
    ReturnsInHanded {} Try.checked os 5 .any (Rows.fnExactBestLayoutSpec.pre6 enc Try.prog Try.f5 Rows.fnExactBestLayoutRow.domain false) (Rows.fnExactBestLayoutSpec.post enc Try.prog Try.f5 false true false false) := by
  refine returnsInHanded_of_change (C := Try.checked) own started (by kernel_rfl) Try.func5
    (ChangeSpec.witness6 (enc := enc) (C := Try.checked) false ⟨#[], #[.slice none 0 0, .int .i64 0], []⟩ 8 (by kernel_rfl) (by kernel_rfl) (by kernel_rfl) (by kernel_rfl)) ?_
  intro W base args ds gs before hval hW _ _
  exact contract H enc W base args ds gs before hval hW

theorem said : Rows.FnExactBestLayoutSaid :=
  OpenClaim.holds_of_wide 5 Try.f5 rfl rfl rfl rfl rfl rfl rfl ⟨rfl, rfl, rfl, rfl, rfl⟩ rfl rfl rfl rfl rfl (by kernel_rfl) Try.func5 (by kernel_rfl)
    (of_decide_eq_true (by kernel_rfl)) (by unfold Func.isWrapper; first | (rw [if_pos (by decide +kernel)]; kernel_rfl) | (rw [if_neg (by decide +kernel)]; exact ⟨rfl, rfl⟩))
    (fun os started H enc _ => lifted os started H enc)
end Go.Proofs.Ytioinihlahnbfaa.bestLayout
