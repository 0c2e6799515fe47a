/- For every list of texts and text the program's FewestWords answers as its model does, and leaves the list alone, the pad's table being as the program lays it. -/
import Derived.Test.YtioinihlahnbfaaDoorCards
import Derived.Test.YtioinihlahnbfaaDoorTie
import Derived.Test.YtioinihlahnbfaaDoorTab
import Derived.Test.YtioinihlahnbfaaDoorFewSplit
import Derived.Test.YtioinihlahnbfaaDoorMarks
import Derived.Test.YtioinihlahnbfaaDoorOpenS
namespace Go.Proofs.YtioinihlahnbfaaDoor.fewestWords
open Go.ChangeShapes Go.WideShapes Go.ChangeAt Go.RowKit
open Go.ChangeMaps (open_string shut_string)

def cV (ss : List ByteArray) (s : ByteArray) : Int := ((fV ss s).length : Int)
theorem cV_no {ss : List ByteArray} {s : ByteArray} (h : okV ss s = false) : cV ss s = 0 := by unfold cV; rw [fV_no h]; rfl
theorem cV_yes {ss : List ByteArray} {s : ByteArray} (h : okV ss s = true) : cV ss s = (fq ss s 0 : Int) := by
  have hb := okV_and h
  have h0 : ¬ tq ss s 0 = 0 := by rw [okV_eq hb] at h; exact of_decide_eq_true h
  unfold cV
  rw [fV_yes h, firstF_len (okB_and hb).1 s (spK_ok (okB_and hb).2).1 h0]
theorem ret_cb {a a' : Int} {b b' : Bool} (h : a = a') (h2 : b = b') : Ending.returned (.tuple #[.int .i64 a, .bool b]) = .returned (.tuple #[.int .i64 a', .bool b']) := by rw [h, h2]

set_option maxHeartbeats 1000000 in
theorem spec_any (v : Value) (ss : List ByteArray) (s : ByteArray) (w : World) (h : Strs w v ss) (hs : s.size ≤ maxLen) : Calls Tryd.prog 20 #[v, .string s] w fun e w' => e = .returned (.tuple #[.int .i64 (cV ss s), .bool (okV ss s)]) ∧ Ext w w' := by
  have HS := Lib.hid h
  clear h
  cases hok : okB ss s
  · have H := Lib.hid (okV_no hok)
    have hand : (dicB ss && spK s) = false := hok
    go_enter Tryd.func20, Tryd.ntmps20
    go_wp2_with (go_at_call 44; refine (wdAsked_any _ _ _ _ HS.out hs).mono ?_; rintro e w1 ⟨rfl, x1⟩; rw [hand])
    go_ret2
    exact ⟨ret_cb (a := 0) (b := false) (cV_no H.out).symm H.out.symm, x1⟩
  have HK := Lib.hid (okB_and hok)
  have hq : s.size ≤ 20 := (spK_ok HK.out.2).1
  have hand : (dicB ss && spK s) = true := hok
  obtain ⟨N, hN⟩ : ∃ N, N = s.size + 1 := ⟨_, rfl⟩
  have HN := Lib.hid hN
  have hN0 : 0 < N := by omega
  have hN0i : (0 : Int) < (N : Int) := by omega
  clear hN
  obtain ⟨c, hc⟩ : ∃ c, c = tq ss s 0 := ⟨_, rfl⟩
  have HC := Lib.hid (show tFrom ss s 0 0 = c by unfold tFrom; rw [if_pos (by omega), hc])
  by_cases h0 : tq ss s 0 = 0
  · have t1 : (c == 0) = true := by simp [hc, h0]
    have H := Lib.hid (show okV ss s = false by rw [okV_eq hok]; exact decide_eq_false (fun h => h h0))
    clear h0 hc
    go_enter Tryd.func20, Tryd.ntmps20
    go_wp2_with (first | (go_at_call 44; refine (wdAsked_any _ _ _ _ HS.out hs).mono ?_; rintro e w1 ⟨rfl, x1⟩; rw [hand]) | (go_at_call 45; refine (wdTables2_any _ _ _ _ (HS.out.ext x1) HK.out.1 hq).mono ?_; rintro e w2 ⟨g1, g2, rfl, r1, r2, x2⟩; rw [← HN.out] at r1 r2 ⊢; have c0 := (r1.at 0 hN0).trans (congrArg (fun i => some (Value.int .i64 i)) HC.out); clear r1 r2))
    go_ret2
    exact ⟨ret_cb (a := 0) (b := false) (cV_no H.out).symm H.out.symm, x1.trans x2⟩
  · have t1 : (c == 0) = false := by simp [hc, h0]
    have H := Lib.hid (show okV ss s = true by rw [okV_eq hok]; exact decide_eq_true h0)
    have HF := Lib.hid (show fFrom ss s 0 0 = cV ss s by rw [cV_yes H.out]; unfold fFrom; rw [if_pos (by omega), encF_lt (by have := fq_small HK.out.1 s hq 0 (Nat.zero_le _) h0; omega)])
    clear h0 hc
    go_enter Tryd.func20, Tryd.ntmps20
    go_wp2_with (first | (go_at_call 44; refine (wdAsked_any _ _ _ _ HS.out hs).mono ?_; rintro e w1 ⟨rfl, x1⟩; rw [hand]) | (go_at_call 45; refine (wdTables2_any _ _ _ _ (HS.out.ext x1) HK.out.1 hq).mono ?_; rintro e w2 ⟨g1, g2, rfl, r1, r2, x2⟩; rw [← HN.out] at r1 r2 ⊢; have c0 := (r1.at 0 hN0).trans (congrArg (fun i => some (Value.int .i64 i)) HC.out); have c1 := (r2.at 0 hN0).trans (congrArg (fun i => some (Value.int .i64 i)) HF.out); clear r1 r2))
    go_ret2
    exact ⟨ret_cb (b := true) rfl H.out.symm, x1.trans x2⟩

set_option maxHeartbeats 1000000 in
theorem impl_any (v : Value) (ss : List ByteArray) (s : ByteArray) (w : World) (h : Strs w v ss) (hs : s.size ≤ maxLen) (hp : PadIs w) : Calls Tryd.prog 21 #[v, .string s] w fun e w' => e = .returned (.tuple #[.int .i64 (cV ss s), .bool (okV ss s)]) ∧ Ext w w' := by
  have HS := Lib.hid h
  clear h
  go_enter Tryd.func21, Tryd.ntmps21
  go_wp2_with (go_at_call 23; refine (firstFewest_any _ _ _ _ HS.out hs hp).mono ?_; rintro e w1 ⟨v1, rfl, r1, x1⟩; obtain ⟨a1, c1, rfl⟩ := r1.shape)
  go_ret2
  exact ⟨rfl, x1⟩

set_option maxHeartbeats 4000000 in
theorem walk (w : World) (v : Value) (ss : List ByteArray) (h : Strs w v ss) (s1 : ByteArray) (hs1 : s1.size ≤ maxLen) (hp : PadIs w) : Calls Tryd.prog 6 #[v, .string s1] w fun e w' => e = .returned (.bool true) ∧ Ext w w' := by
  have H := Lib.hid h
  clear h
  have h63_1 : s1.size ≤ 9223372036854775807 := hs1
  by_cases hbig1 : 1048576 < s1.size
  · go_enter Tryd.func6, Tryd.ntmps6
    go_wp2
    go_ret
    exact ⟨rfl, Ext.refl _⟩
  go_enter Tryd.func6, Tryd.ntmps6
  go_wp2_with (first | (go_at_call 9; refine (szS_any _ _ _ H.out).mono ?_; rintro e w' ⟨r, hr, rfl, rfl⟩))
  · go_ret
    exact ⟨rfl, Ext.refl _⟩
  · have hf := hr (by assumption)
    obtain ⟨hn, hb⟩ := hf
    clear hr
    refine (toS_any _ _ _ (H.out) hn).mono ?_
    rintro e w1 ⟨u1, rfl, hu1, x1, gx1, cx1, rfl, hgx1, hox1⟩
    have H1 := Lib.hid hu1
    have O1 := Lib.hid hox1
    have hg1 : gx1 < w1.heap.size := by
      rcases hox1.2 with ⟨h3, _⟩ | ⟨g', c, cur, h3, _, hg, _⟩
      · cases h3
      · cases h3
        exact heap_lt hg
    clear hu1 hox1
    have X1 : Ext w w1 := x1
    go_wp2_with fail
    refine (spec_any _ _ _ _ H1.out hs1).mono ?_
    rintro e w2 ⟨rfl, x2⟩
    have X2 : Ext w w2 := X1.trans x2
    go_wp2_with fail
    refine (toS_any _ _ _ (H.out.ext X2) hn).mono ?_
    rintro e w3 ⟨u3, rfl, hu3, x3, gx3, cx3, rfl, hgx3, hox3⟩
    have H3 := Lib.hid hu3
    have O3 := Lib.hid hox3
    have hg3 : gx3 < w3.heap.size := by
      rcases hox3.2 with ⟨h3, _⟩ | ⟨g', c, cur, h3, _, hg, _⟩
      · cases h3
      · cases h3
        exact heap_lt hg
    clear hu3 hox3
    have X3 : Ext w w3 := X2.trans x3
    go_wp2_with fail
    refine (impl_any _ _ _ _ H3.out hs1 (hp.ext X3)).mono ?_
    rintro e w4 ⟨rfl, x4⟩
    have X4 : Ext w w4 := X3.trans x4
    go_wp2_with fail
    refine (toS_any _ _ _ (H.out.ext X4) hn).mono ?_
    rintro e w5 ⟨u5, rfl, hu5, x5, gx5, cx5, rfl, hgx5, hox5⟩
    have H5 := Lib.hid hu5
    have O5 := Lib.hid hox5
    have hg5 : gx5 < w5.heap.size := by
      rcases hox5.2 with ⟨h3, _⟩ | ⟨g', c, cur, h3, _, hg, _⟩
      · cases h3
      · cases h3
        exact heap_lt hg
    clear hu5 hox5
    have X5 : Ext w w5 := X4.trans x5
    go_wp2_with fail
    refine (eqS_any _ _ _ _ (H3.out.ext (x4.trans x5)) (H5.out) hn).mono ?_
    rintro e w6 ⟨rfl, x6⟩
    have X6 : Ext w w6 := X5.trans x6
    go_wp2_with fail
    go_ret
    exact ⟨rfl, X6⟩

set_option maxRecDepth 100000 in
theorem contract (H : Type) (enc : TypeId × Value → H) (W : World) (base : Nat) (args : Array Value) (ds gs : List (DataW H)) (before : List MemPlace)
    (hval : ∀ (j : Nat) t v, Tryd.f6.params[j]? = some t → args[j]? = some v → Value.okWide Tryd.prog W .any base t v)
    (hW : DataW.Whole enc Tryd.prog Tryd.f6.params.toList Rows.fnExactFewestWordsSpec.vars false W args.toList ds gs before) (hL : laidMetH Tryd.prog Rows.fnExactFewestWordsRow.laid W) :
    Calls Tryd.prog 6 args W fun e W' => ∃ v, e = .returned v ∧ Rows.fnExactFewestWordsSpec.post enc Tryd.prog Tryd.f6 false true false false W args v W' := by
  have hW' := hW
  obtain ⟨p, q, hA0, hV, rfl, hfz, hnd⟩ := hW
  have hA : DataW.TrodAll enc Tryd.prog W 0 (fun _ => true) true Tryd.f6.params.toList args.toList ds p := hA0
  rw [Tryd.params6] at hA hval
  obtain ⟨v0, vs0, d0, ds0, p0, q0, hargs0, rfl, rfl, h0, r0⟩ := trodAll_cons hA
  obtain ⟨v1, vs1, d1, ds1, p1, q1, hargs1, rfl, rfl, h1, r1⟩ := trodAll_cons r0
  obtain ⟨rfl, rfl, rfl⟩ := trodAll_nil r1
  subst hargs1
  obtain rfl : args = #[v0, v1] := Array.toList_inj.1 hargs0
  obtain ⟨s0, z0⟩ := strs_of (hval 0 22 v0 rfl rfl) h0
  obtain ⟨s1, rfl, rfl, rfl, z1⟩ := open_string Tryd.underlying9 (hval 1 9 v1 rfl rfl) h1
  clear hA0
  refine (walk W v0 s0 z0 s1 z1 (padIs_of_laid hL)).mono fun e W' ⟨he, hx⟩ => ?_
  subst he
  exact ⟨_, rfl, post_true (tb := 4) laidOut (by rw [Tryd.params6]; intro t ht; simp at ht; rcases ht with rfl | rfl <;> exact ⟨by kernel_rfl, of_decide_eq_true (by kernel_rfl)⟩) (by kernel_rfl) hW' hx (by obtain ⟨g, t, cs, fuel, d, p', rfl, _⟩ := trodVars_one hV; rfl) rfl Tryd.underlying4⟩

theorem reads (os : Os) {H : Type} (enc : TypeId × Value → H) : ∃ gs places, DataW.whole enc Tryd.prog ((laidWorld os).forCall (fun _ _ => 0) ⟨#[], #[.slice none 0 0, .string ByteArray.empty], []⟩).memory Tryd.f6.params.toList Rows.fnExactFewestWordsSpec.vars false (#[.slice none 0 0, .string ByteArray.empty] : Array Value).toList 8 = some ([.nil, .lit (.string [])], gs, places) :=
  ⟨[Rows.laid_loop_example_g01350_impl_padKeys], MemPlace.row ⟨0, 0, none⟩ 16, by kernel_rfl⟩

set_option maxRecDepth 100000 in
theorem lifted (os : Os) (started : os.Started) (H : Type) (enc : TypeId × Value → H) (F : Stop.Interp) :
    ReturnsInHanded {} Tryd.checked os 6 .any ((OpenSpec.ofChange Rows.fnExactFewestWordsSpec).preRow enc Tryd.prog Tryd.f6 Rows.fnExactFewestWordsRow.domain false Rows.fnExactFewestWordsRow.laid) (((OpenSpec.ofChange Rows.fnExactFewestWordsSpec).at F).post enc Tryd.prog Tryd.f6 false true false false) := by
  obtain ⟨gs, places, hx⟩ := reads os enc
  refine returnsInHanded_of_row (C := Tryd.checked) (s := OpenSpec.ofChange Rows.fnExactFewestWordsSpec) own started (by kernel_rfl) Tryd.func6
    (witness_row_at (enc := enc) (C := Tryd.checked) false (laidWorld os) #[.slice none 0 0, .string ByteArray.empty] rfl (by kernel_rfl) (by kernel_rfl) (by kernel_rfl)
      (OpenSpec.preRow_of_cond 8 hx (by kernel_rfl) (fun k hk => by cases hk) (by kernel_rfl) (laid_met os _))) ?_
  intro W base args ds gs before hval hW _ _ _ hL _ _
  exact contract H enc W base args ds gs before hval hW hL

theorem said : Rows.FnExactFewestWordsSaid :=
  OpenClaim.holds_of_cond 6 Tryd.f6 rfl rfl rfl rfl rfl rfl rfl ⟨rfl, rfl, rfl, rfl, rfl⟩ rfl rfl rfl rfl rfl (by kernel_rfl) Tryd.func6 (by kernel_rfl)
    (of_decide_eq_true (by kernel_rfl)) (by unfold Func.isWrapper; first | (rw [if_pos (by decide +kernel)]; kernel_rfl) | (rw [if_neg (by decide +kernel)]; exact ⟨rfl, rfl⟩))
    (fun os started H enc _ F => by rw [OpenClaim.pre_eq_preRow]; exact lifted os started H enc F)

theorem plain (f : FuncId) (fn : Func) (hf : Tryd.pinned.checked.prog.funcNamed "loop.example/g01350/laws.FnExactFewestWords" = some f) (hfn : Tryd.pinned.checked.prog.funcs[f]? = some fn) :
    false = Tryd.pinned.checked.prog.looks [] ∧ ∀ (j : Nat) t, fn.params[j]? = some t → Tryd.pinned.checked.prog.wantsStandIn t = false := by
  obtain rfl : f = 6 := Option.some.inj ((show Tryd.prog.funcNamed "loop.example/g01350/laws.FnExactFewestWords" = some 6 by kernel_rfl).symm.trans hf) |>.symm
  obtain rfl : fn = Tryd.f6 := (Option.some.inj (Tryd.func6.symm.trans hfn)).symm
  refine ⟨by kernel_rfl, fun j t ht => ?_⟩
  rw [Tryd.params6] at ht
  have hm := Array.mem_of_getElem? ht
  have hall : (#[22, 9].toList.all fun u => !Tryd.prog.wantsStandIn u) = true := by kernel_rfl
  exact (show Tryd.prog.wantsStandIn t = false by simpa using List.all_eq_true.1 hall t (by simpa using hm))

/-- THE CARD -/
theorem card : Rows.FnExactFewestWordsCardSaid :=
  Claim7.holds_tied_plain_at .later [] _ _ _ _ said (fun _ h => by cases h) (by kernel_rfl) (fun _ h => by cases h) fnExactFewestWords_row_tie rfl ⟨rfl, rfl⟩ (by kernel_rfl) rfl plain (by kernel_rfl)
end Go.Proofs.YtioinihlahnbfaaDoor.fewestWords
