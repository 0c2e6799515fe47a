/- For every list of texts the program's LengthsOf answers as its model does, in memory of its own, and leaves the list alone. No conditions. -/
import Derived.Test.YtinojlbnmnlmhaaRows
import Derived.Test.YtinojlbnmnlmhaaLaw
import Derived.Test.YtinojlbnmnlmhaaLgo
import Derived.Test.YtinojlbnmnlmhaaMarks
import Derived.Test.YtinojlbnmnlmhaaOpenS
namespace Go.Proofs.Ytinojlbnmnlmhaa.lengthsOf
open Go.ChangeShapes Go.WideShapes Go.ChangeAt Go.RowKit
open Go.ChangeMaps (open_string shut_string)

set_option maxRecDepth 100000 in
set_option maxHeartbeats 4000000 in
theorem walk (w : World) (v : Value) (ss : List ByteArray) (h : Strs w v ss) : Calls Try.prog 9 #[v] w fun e w' => e = .returned (.bool true) ∧ Ext w w' := by
  have H := Lib.hid h
  clear h
  have hzl := Lib.hid (lgV_len ss)
  obtain ⟨X, hX⟩ : ∃ X, X = lgV ss := ⟨_, rfl⟩
  obtain ⟨ok, hok⟩ : ∃ X, X = plB ss := ⟨_, rfl⟩
  rw [← hX] at hzl
  have HP := Lib.hid (show ∀ (w : World) (v : Value) (h : Strs w v ss), Calls Try.prog 35 #[v] w (ResI X ok w) from fun w v h => by rw [hX, hok]; exact lgS_any v ss w h)
  have HM := Lib.hid (show ∀ (w : World) (v : Value) (h : Strs w v ss) (hc : CapOk v), Calls Try.prog 36 #[v] w (ResI X ok w) from fun w v h hc => by rw [hX, hok]; exact lgI_any v ss w h hc)
  clear hX hok
  go_enter Try.func9, Try.ntmps9
  go_wp2_with (first | (go_at_call 15; refine (szS_any _ _ _ H.out).mono ?_; rintro e w' ⟨r, hr, rfl, rfl⟩))
  · go_ret
    exact ⟨rfl, Ext.refl _⟩
  · have hf := hr (by assumption)
    obtain ⟨hn, hb⟩ := hf
    clear hr
    refine (toS_any _ _ _ H.out hn).mono ?_
    rintro e w1 ⟨u1, rfl, hu1, x1, gx1, cx1, rfl, hgx1, hox1⟩
    have H1 := Lib.hid hu1
    have XA1 := Lib.hid x1
    clear hu1 hox1 x1
    go_wp2_with fail
    refine (HP.out _ _ H1.out).mono ?_
    rintro e w2 ⟨g2, rfl, r2, x2⟩
    have R2 := Lib.hid r2
    have XA2 := Lib.hid (XA1.out.trans x2)
    clear r2 x2
    go_wp2_with fail
    refine (toS_any _ _ _ (H.out.ext XA2.out) hn).mono ?_
    rintro e w3 ⟨u3, rfl, hu3, x3, gx3, cx3, rfl, hgx3, hox3⟩
    have H3 := Lib.hid hu3
    have O3 := Lib.hid hox3
    have HG3 := Lib.hid hgx3
    have HG3b := Lib.hid (show gx3 < w3.heap.size by
      rcases hox3.2 with ⟨h3, _⟩ | ⟨g', c, cur, h3, _, hg, _⟩
      · cases h3
      · cases h3
        exact heap_lt hg)
    have X3 := Lib.hid x3
    have XA3 := Lib.hid (XA2.out.trans x3)
    clear hu3 hox3 hgx3 x3
    go_wp2_with fail
    refine (HM.out _ _ H3.out (own_cap O3.out)).mono ?_
    rintro e w4 ⟨g4, rfl, r4, x4⟩
    have R4 := Lib.hid r4
    have X4 := Lib.hid x4
    have XA4 := Lib.hid (XA3.out.trans x4)
    clear r4 x4
    go_wp2_with fail
    refine (eqI_any _ _ _ _ _ _ R4.out (R2.out.ext (X3.out.trans X4.out)) hzl.out).mono ?_
    rintro e w5 ⟨rfl, x5⟩
    have X5 := Lib.hid x5
    have XA5 := Lib.hid (XA4.out.trans x5)
    clear x5
    go_wp2_with fail
    refine (toS_any _ _ _ (H.out.ext XA5.out) hn).mono ?_
    rintro e w6 ⟨u6, rfl, hu6, x6, gx6, cx6, rfl, hgx6, hox6⟩
    have H6 := Lib.hid hu6
    have X6 := Lib.hid x6
    have XA6 := Lib.hid (XA5.out.trans x6)
    clear hu6 hox6 x6
    go_wp2_with fail
    refine (eqS_any _ _ _ _ (H3.out.ext (X4.out.trans (X5.out.trans X6.out))) H6.out hn).mono ?_
    rintro e w7 ⟨rfl, x7⟩
    have Y7 := Lib.hid (X5.out.trans (X6.out.trans x7))
    have XA7 := Lib.hid (XA6.out.trans x7)
    clear x7
    go_wp2_with fail
    refine (markS_any _ _ _ gx3 _ _ _ rfl (row_ext O3.out (X4.out.trans Y7.out)) hn).mono ?_
    rintro e w8 ⟨rfl, hg8⟩
    have XA8 := Lib.hid (ext_grown XA7.out hg8 (fun j hj => by cases hj; exact Nat.le_trans XA2.out.size HG3.out))
    have S8 := Lib.hid (RowI.kept (R2.out.ext (X3.out.trans (X4.out.trans Y7.out))) hg8 (R2.out.apart gx3 (.inr HG3.out)))
    have G8 := Lib.hid (RowI.kept (R4.out.ext Y7.out) hg8 (R4.out.apart gx3 (.inl HG3b.out)))
    clear hg8
    go_wp2_with fail
    refine (eqI_any _ _ _ _ _ _ G8.out S8.out hzl.out).mono ?_
    rintro e w9 ⟨rfl, x9⟩
    have XA9 := Lib.hid (XA8.out.trans x9)
    have S9 := Lib.hid (S8.out.ext x9)
    have G9 := Lib.hid (G8.out.ext x9)
    clear x9
    go_wp2_with fail
    refine (markI_any _ _ _ _ G9.out hzl.out).mono ?_
    rintro e w10 ⟨rfl, m10, hg10⟩
    have M10 := Lib.hid m10
    have XA10 := Lib.hid (ext_grown XA9.out hg10 (fun j hj => Nat.le_trans XA3.out.size (R4.out.own_le j hj)))
    have S10 := Lib.hid (RowI.kept S9.out hg10 (R2.out.apart2 R4.out X3.out.size))
    clear m10 hg10
    go_wp2_with fail
    refine (heldI_any _ _ _ _ M10.out hzl.out).mono ?_
    rintro e w11 ⟨rfl, rfl⟩
    have XA11 := Lib.hid XA10.out
    go_wp2_with fail
    refine (toS_any _ _ _ (H.out.ext XA11.out) hn).mono ?_
    rintro e w12 ⟨u12, rfl, hu12, x12, gx12, cx12, rfl, hgx12, hox12⟩
    have H12 := Lib.hid hu12
    have O12 := Lib.hid hox12
    have Y12 := Lib.hid x12
    have XA12 := Lib.hid (XA11.out.trans x12)
    clear hu12 hox12 x12
    go_wp2_with fail
    refine (HM.out _ _ H12.out (own_cap O12.out)).mono ?_
    rintro e w13 ⟨g13, rfl, r13, x13⟩
    have R13 := Lib.hid r13
    have Y13 := Lib.hid (Y12.out.trans x13)
    have XA13 := Lib.hid (XA12.out.trans x13)
    clear r13 x13
    go_wp2_with fail
    refine (eqI_any _ _ _ _ _ _ R13.out (S10.out.ext Y13.out) hzl.out).mono ?_
    rintro e w14 ⟨rfl, x14⟩
    have XA14 := Lib.hid (XA13.out.trans x14)
    have Y14 := Lib.hid (Y13.out.trans x14)
    clear x14
    go_wp2_with fail
    refine (heldI_any _ _ _ _ (M10.out.ext Y14.out) hzl.out).mono ?_
    rintro e w15 ⟨rfl, rfl⟩
    go_wp2_with fail
    go_ret
    exact ⟨rfl, XA14.out⟩

set_option maxRecDepth 100000 in
theorem contract (H : Type) (enc : TypeId × Value → H) (W : World) (base : Nat) (args : Array Value) (ds gs : List (DataW H)) (before : List MemPlace)
    (hval : ∀ (j : Nat) t v, Try.f9.params[j]? = some t → args[j]? = some v → Value.okWide Try.prog W .any base t v)
    (hW : DataW.Whole enc Try.prog Try.f9.params.toList Rows.fnExactLengthsOfSpec.vars false W args.toList ds gs before) :
    Calls Try.prog 9 args W fun e W' => ∃ v, e = .returned v ∧ Rows.fnExactLengthsOfSpec.post enc Try.prog Try.f9 false true false false W args v W' := by
  have hW' := hW
  obtain ⟨p, q, hA0, hV, rfl, hfz, hnd⟩ := hW
  have hA : DataW.TrodAll enc Try.prog W 0 (fun _ => true) true Try.f9.params.toList args.toList ds p := hA0
  rw [Try.params9] at hA hval
  obtain ⟨v0, vs0, d0, ds0, p0, q0, hargs0, rfl, rfl, h0, r0⟩ := trodAll_cons hA
  obtain ⟨rfl, rfl, rfl⟩ := trodAll_nil r0
  obtain rfl : args = #[v0] := Array.toList_inj.1 hargs0
  obtain ⟨s0, z0⟩ := strs_of (hval 0 22 v0 rfl rfl) h0
  clear hA0
  refine (walk W v0 s0 z0).mono fun e W' ⟨he, hx⟩ => ?_
  subst he
  exact ⟨_, rfl, post_true (tb := 4) laidOut (by rw [Try.params9]; intro t ht; simp at ht; subst ht; exact ⟨by kernel_rfl, of_decide_eq_true (by kernel_rfl)⟩) (by kernel_rfl) hW' hx (by obtain ⟨rfl, rfl⟩ := trodVars_none hV; rfl) rfl Try.underlying4⟩

set_option maxRecDepth 100000 in
theorem lifted (os : Os) (started : os.Started) (H : Type) (enc : TypeId × Value → H) :
    ReturnsInHanded {} Try.checked os 9 .any (Rows.fnExactLengthsOfSpec.pre6 enc Try.prog Try.f9 Rows.fnExactLengthsOfRow.domain false) (Rows.fnExactLengthsOfSpec.post enc Try.prog Try.f9 false true false false) := by
  refine returnsInHanded_of_change (C := Try.checked) own started (by kernel_rfl) Try.func9
    (ChangeSpec.witness6 (enc := enc) (C := Try.checked) false ⟨#[], #[.slice none 0 0], []⟩ 8 (by kernel_rfl) (by kernel_rfl) (by kernel_rfl) (by kernel_rfl)) ?_
  intro W base args ds gs before hval hW _ _
  exact contract H enc W base args ds gs before hval hW

theorem said : Rows.FnExactLengthsOfSaid :=
  OpenClaim.holds_of_wide 9 Try.f9 rfl rfl rfl rfl rfl rfl rfl ⟨rfl, rfl, rfl, rfl, rfl⟩ rfl rfl rfl rfl rfl (by kernel_rfl) Try.func9 (by kernel_rfl)
    (of_decide_eq_true (by kernel_rfl)) (by unfold Func.isWrapper; first | (rw [if_pos (by decide +kernel)]; kernel_rfl) | (rw [if_neg (by decide +kernel)]; exact ⟨rfl, rfl⟩))
    (fun os started H enc _ => lifted os started H enc)
end Go.Proofs.Ytinojlbnmnlmhaa.lengthsOf
