/- For every list of texts and text the program's SplitCode answers as its model does, in memory of its own, and leaves the list alone. No conditions. -/
import Derived.Test.YtinojlbnmnlmhabRows
import Derived.Test.YtinojlbnmnlmhabLaw
import Derived.Conc.Holds
import Derived.Leaving
import Derived.ClaimOpenTies
import Derived.Test.YtinojlbnmnlmhabSpc
import Derived.Test.YtinojlbnmnlmhabMarks
import Derived.Test.YtinojlbnmnlmhabOpenS
namespace Go.Proofs.Ytinojlbnmnlmhab.splitCode
open Go.ChangeShapes Go.WideShapes Go.ChangeAt Go.RowKit
open Go.ChangeMaps (open_string shut_string)

set_option maxHeartbeats 4000000 in
theorem walk (w : World) (v : Value) (ss : List ByteArray) (h : Strs w v ss) (s1 : ByteArray) (hs1 : s1.size ≤ maxLen) : Calls Try.prog 3 #[v, .string s1] w fun e w' => e = .returned (.bool true) ∧ Ext w w' := by
  have H := Lib.hid h
  clear h
  have h63_1 : s1.size ≤ 9223372036854775807 := hs1
  have hzl : (vS ss s1).length ≤ 1048576 := vS_len ss s1
  have hzm := Lib.hid (vS_sz ss s1)
  obtain ⟨zs, hzs⟩ : ∃ zs, zs = vS ss s1 := ⟨_, rfl⟩
  have HZ := Lib.hid hzs
  rw [← hzs] at hzl hzm
  clear hzs
  by_cases hbig1 : 1048576 < s1.size
  · go_enter Try.func3, Try.ntmps3
    go_wp2
    go_ret
    exact ⟨rfl, Ext.refl _⟩
  go_enter Try.func3, Try.ntmps3
  go_wp2_with (first | (go_at_call 12; refine (szS_any _ _ _ H.out).mono ?_; rintro e w' ⟨r, hr, rfl, rfl⟩))
  · go_ret
    exact ⟨rfl, Ext.refl _⟩
  · have hf := hr (by assumption)
    obtain ⟨hn, hb⟩ := hf
    clear hr
    refine (toS_any _ _ _ (H.out) hn).mono ?_
    rintro e w1 ⟨u1, rfl, hu1, x1, gx1, cx1, rfl, hgx1, hox1⟩
    have H1 := Lib.hid hu1
    have O1 := Lib.hid hox1
    have hg1 : gx1 < w1.heap.size := by
      rcases hox1.2 with ⟨h3, _⟩ | ⟨g', c, cur, h3, _, hg, _⟩
      · cases h3
      · cases h3
        exact heap_lt hg
    clear hu1 hox1
    have X1 : Ext w w1 := x1
    go_wp2_with fail
    refine (spS_any _ _ _ _ H1.out hs1).mono ?_
    rintro e w2 ⟨g2, rfl, r2, x2⟩
    rw [← HZ.out] at r2
    have R2 := Lib.hid r2
    clear r2
    have X2 : Ext w w2 := X1.trans x2
    go_wp2_with fail
    refine (toS_any _ _ _ (H.out.ext X2) hn).mono ?_
    rintro e w3 ⟨u3, rfl, hu3, x3, gx3, cx3, rfl, hgx3, hox3⟩
    have H3 := Lib.hid hu3
    have O3 := Lib.hid hox3
    have hg3 : gx3 < w3.heap.size := by
      rcases hox3.2 with ⟨h3, _⟩ | ⟨g', c, cur, h3, _, hg, _⟩
      · cases h3
      · cases h3
        exact heap_lt hg
    clear hu3 hox3
    have X3 : Ext w w3 := X2.trans x3
    go_wp2_with fail
    refine (spI_any _ _ _ _ H3.out hs1 (own_cap O3.out)).mono ?_
    rintro e w4 ⟨g4, rfl, r4, x4⟩
    rw [← HZ.out] at r4
    have R4 := Lib.hid r4
    clear r4
    have X4 : Ext w w4 := X3.trans x4
    go_wp2_with fail
    refine (eqS_any _ _ _ _ ((R4.out).strs (by unfold maxLen; omega) hzm.out) ((R2.out.ext (x3.trans x4)).strs (by unfold maxLen; omega) hzm.out) hzl).mono ?_
    rintro e w5 ⟨rfl, x5⟩
    have X5 : Ext w w5 := X4.trans x5
    go_wp2_with fail
    refine (toS_any _ _ _ (H.out.ext X5) hn).mono ?_
    rintro e w6 ⟨u6, rfl, hu6, x6, gx6, cx6, rfl, hgx6, hox6⟩
    have H6 := Lib.hid hu6
    have O6 := Lib.hid hox6
    have hg6 : gx6 < w6.heap.size := by
      rcases hox6.2 with ⟨h3, _⟩ | ⟨g', c, cur, h3, _, hg, _⟩
      · cases h3
      · cases h3
        exact heap_lt hg
    clear hu6 hox6
    have X6 : Ext w w6 := X5.trans x6
    go_wp2_with fail
    refine (eqS_any _ _ _ _ (H3.out.ext ((x4.trans x5).trans x6)) (H6.out) hn).mono ?_
    rintro e w7 ⟨rfl, x7⟩
    have X7 : Ext w w7 := X6.trans x7
    go_wp2_with fail
    refine (markS_any _ _ _ gx3 _ _ _ rfl (row_ext O3.out (((x4.trans x5).trans x6).trans x7)) hn).mono ?_
    rintro e w8 ⟨rfl, hg8⟩
    have X8 : Ext w w8 := ext_grown X7 hg8 (fun j hj => by cases hj; exact Nat.le_trans X2.size hgx3)
    have S8 := Lib.hid (RowS.kept (R2.out.ext ((((x3.trans x4).trans x5).trans x6).trans x7)) hg8 (R2.out.apart gx3 (.inr (Nat.le_trans (Nat.le_refl _) hgx3))))
    have G8 := Lib.hid (RowS.kept (R4.out.ext ((x5.trans x6).trans x7)) hg8 (R4.out.apart gx3 (.inl hg3)))
    clear hg8
    go_wp2_with fail
    refine (eqS_any _ _ _ _ ((G8.out).strs (by unfold maxLen; omega) hzm.out) ((S8.out).strs (by unfold maxLen; omega) hzm.out) hzl).mono ?_
    rintro e w9 ⟨rfl, x9⟩
    have X9 : Ext w w9 := X8.trans x9
    go_wp2_with fail
    refine (markR_any _ _ _ _ (G8.out.ext x9) hzl).mono ?_
    rintro e w10 ⟨rfl, m10, hg10⟩
    have M10 := Lib.hid m10
    have X10 : Ext w w10 := ext_grown X9 hg10 (fun j hj => Nat.le_trans X3.size (R4.out.own_le j hj))
    have S10 := Lib.hid (RowS.kept (S8.out.ext x9) hg10 (R2.out.apart2 (w2 := w4) R4.out (x3).size))
    clear m10 hg10
    go_wp2_with fail
    refine (heldR_any _ _ _ _ M10.out hzl).mono ?_
    rintro e w11 ⟨rfl, x11⟩
    have X11 : Ext w w11 := X10.trans x11
    go_wp2_with fail
    refine (toS_any _ _ _ (H.out.ext X11) hn).mono ?_
    rintro e w12 ⟨u12, rfl, hu12, x12, gx12, cx12, rfl, hgx12, hox12⟩
    have H12 := Lib.hid hu12
    have O12 := Lib.hid hox12
    have hg12 : gx12 < w12.heap.size := by
      rcases hox12.2 with ⟨h3, _⟩ | ⟨g', c, cur, h3, _, hg, _⟩
      · cases h3
      · cases h3
        exact heap_lt hg
    clear hu12 hox12
    have X12 : Ext w w12 := X11.trans x12
    go_wp2_with fail
    refine (spI_any _ _ _ _ H12.out hs1 (own_cap O12.out)).mono ?_
    rintro e w13 ⟨g13, rfl, r13, x13⟩
    rw [← HZ.out] at r13
    have R13 := Lib.hid r13
    clear r13
    have X13 : Ext w w13 := X12.trans x13
    go_wp2_with fail
    refine (eqS_any _ _ _ _ ((R13.out).strs (by unfold maxLen; omega) hzm.out) ((S10.out.ext ((x11.trans x12).trans x13)).strs (by unfold maxLen; omega) hzm.out) hzl).mono ?_
    rintro e w14 ⟨rfl, x14⟩
    have X14 : Ext w w14 := X13.trans x14
    go_wp2_with fail
    refine (heldR_any _ _ _ _ (M10.out.ext (((x11.trans x12).trans x13).trans x14)) hzl).mono ?_
    rintro e w15 ⟨rfl, x15⟩
    have X15 : Ext w w15 := X14.trans x15
    go_wp2_with fail
    go_ret
    exact ⟨rfl, X15⟩

set_option maxRecDepth 100000 in
theorem contract (H : Type) (enc : TypeId × Value → H) (W : World) (base : Nat) (args : Array Value) (ds gs : List (DataW H)) (before : List MemPlace)
    (hval : ∀ (j : Nat) t v, Try.f3.params[j]? = some t → args[j]? = some v → Value.okWide Try.prog W .any base t v)
    (hW : DataW.Whole enc Try.prog Try.f3.params.toList Rows.fnExactSplitCodeSpec.vars false W args.toList ds gs before) :
    Calls Try.prog 3 args W fun e W' => ∃ v, e = .returned v ∧ Rows.fnExactSplitCodeSpec.post enc Try.prog Try.f3 false true false false W args v W' := by
  have hW' := hW
  obtain ⟨p, q, hA0, hV, rfl, hfz, hnd⟩ := hW
  have hA : DataW.TrodAll enc Try.prog W 0 (fun _ => true) true Try.f3.params.toList args.toList ds p := hA0
  rw [Try.params3] at hA hval
  obtain ⟨v0, vs0, d0, ds0, p0, q0, hargs0, rfl, rfl, h0, r0⟩ := trodAll_cons hA
  obtain ⟨v1, vs1, d1, ds1, p1, q1, hargs1, rfl, rfl, h1, r1⟩ := trodAll_cons r0
  obtain ⟨rfl, rfl, rfl⟩ := trodAll_nil r1
  subst hargs1
  obtain rfl : args = #[v0, v1] := Array.toList_inj.1 hargs0
  obtain ⟨s0, z0⟩ := strs_of (hval 0 22 v0 rfl rfl) h0
  obtain ⟨s1, rfl, rfl, rfl, z1⟩ := open_string Try.underlying9 (hval 1 9 v1 rfl rfl) h1
  clear hA0
  refine (walk W v0 s0 z0 s1 z1).mono fun e W' ⟨he, hx⟩ => ?_
  subst he
  exact ⟨_, rfl, post_true (tb := 4) laidOut (by rw [Try.params3]; intro t ht; simp at ht; rcases ht with rfl | rfl <;> exact ⟨by kernel_rfl, of_decide_eq_true (by kernel_rfl)⟩) (by kernel_rfl) hW' hx (by obtain ⟨rfl, rfl⟩ := trodVars_none hV; rfl) rfl Try.underlying4⟩

set_option maxRecDepth 100000 in
theorem lifted (os : Os) (started : os.Started) (H : Type) (enc : TypeId × Value → H) :
    ReturnsInHanded {} Try.checked os 3 .any (Rows.fnExactSplitCodeSpec.pre6 enc Try.prog Try.f3 Rows.fnExactSplitCodeRow.domain false) (Rows.fnExactSplitCodeSpec.post enc Try.prog Try.f3 false true false false) := by
  refine returnsInHanded_of_change (C := Try.checked) own started (by kernel_rfl) Try.func3
    (ChangeSpec.witness6 (enc := enc) (C := Try.checked) false ⟨#[], #[.slice none 0 0, .string ByteArray.empty], []⟩ 8 (by kernel_rfl) (by kernel_rfl) (by kernel_rfl) (by kernel_rfl)) ?_
  intro W base args ds gs before hval hW _ _
  exact contract H enc W base args ds gs before hval hW

theorem leaving_of {a : Assume} {C : Checked} {os : Os} {f : FuncId} {r : Reach} {Pre : World → Array Value → Prop} {Post : World → Array Value → Value → World → Prop} (h : ReturnsInHanded a C os f r Pre Post) : ReturnsInLeavingWide a C os f r Pre Post :=
  fun e => ReturnsInOpen.mono (fun _ _ _ x => ⟨x.2.1, onlyLeaving_of_quiet x.1, x.2.2⟩) (fun _ x => x) (h e)

theorem said : Rows.FnExactSplitCodeSaid :=
  OpenClaim.holds_of_wide_leaving 3 Try.f3 rfl rfl rfl rfl rfl rfl rfl ⟨rfl, rfl, rfl, rfl, rfl⟩ rfl rfl rfl rfl rfl (by kernel_rfl) Try.func3 (by kernel_rfl)
    (of_decide_eq_true (by kernel_rfl)) (by unfold Func.isWrapper; first | (rw [if_pos (by decide +kernel)]; kernel_rfl) | (rw [if_neg (by decide +kernel)]; exact ⟨rfl, rfl⟩))
    (fun os started H enc _ => leaving_of (lifted os started H enc))
end Go.Proofs.Ytinojlbnmnlmhab.splitCode
