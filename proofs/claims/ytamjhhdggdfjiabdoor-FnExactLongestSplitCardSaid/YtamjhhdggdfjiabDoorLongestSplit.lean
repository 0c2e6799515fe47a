/- For every list of texts and text the program's LongestSplit answers as its model does, and leaves the list alone, the pad's table being as the program lays it. -/
import Derived.Test.YtamjhhdggdfjiabDoorCards
import Derived.Test.YtamjhhdggdfjiabDoorTie
import Derived.Test.YtamjhhdggdfjiabDoorTab
import Derived.Test.YtamjhhdggdfjiabDoorLongs
import Derived.Test.YtamjhhdggdfjiabDoorMarks
import Derived.Test.YtamjhhdggdfjiabDoorOpenS
namespace Go.Proofs.YtamjhhdggdfjiabDoor.longestSplit
open Go.ChangeShapes Go.WideShapes Go.ChangeAt Go.RowKit
open Go.ChangeMaps (open_string shut_string)

theorem spK_ok {s : ByteArray} (h : spK s = true) : okQ s := by
  unfold spK at h
  simp only [Bool.and_eq_true, decide_eq_true_eq] at h
  refine ⟨h.2, fun i hi h0 => ?_⟩
  have h1 := isK_get h.1 i hi
  have e : s.data.toList.getD i 0 = s[i] := by
    rw [List.getD_eq_getElem?_getD, List.getElem?_eq_getElem (by simpa using hi)]
    rfl
  rw [e] at h0
  rw [h0] at h1
  exact absurd h1 (by decide)
def okB (ss : List ByteArray) (s : ByteArray) : Bool := dicB ss && spK s
def cV (ss : List ByteArray) (s : ByteArray) : Nat := if okB ss s then longV ss s else 0
theorem okB_d {ss : List ByteArray} {s : ByteArray} (h : dicB ss = false) : okB ss s = false := by unfold okB; simp [h]
theorem okB_k {ss : List ByteArray} {s : ByteArray} (h : spK s = false) : okB ss s = false := by unfold okB; simp [h]
theorem okB_yes {ss : List ByteArray} {s : ByteArray} (h : dicB ss = true) (h2 : spK s = true) : okB ss s = true := by unfold okB; simp [h, h2]
theorem okB_and {ss : List ByteArray} {s : ByteArray} (h : okB ss s = true) : dicB ss = true ∧ spK s = true := by unfold okB at h; simpa using h
theorem cV_no {ss : List ByteArray} {s : ByteArray} (h : okB ss s = false) : cV ss s = 0 := by unfold cV; simp [h]
theorem cV_yes {ss : List ByteArray} {s : ByteArray} (h : okB ss s = true) : cV ss s = longV ss s := by unfold cV; simp [h]
theorem tFrom_zero (ss : List ByteArray) (s : ByteArray) : tFrom ss s 0 0 = tq ss s 0 := by unfold tFrom; rw [if_pos (by omega)]
theorem ixT (t : Nat → Int) (w : World) : (Instr.index 48 (.agg (tabL t).toArray) (.int .i64 0)).run Tryd.prog w = .ok (.int .i64 (t 0)) w := by kernel_rfl
theorem ret_nb {a a' : Nat} {b b' : Bool} (h : a = a') (h2 : b = b') : Ending.returned (.tuple #[.int .i64 (a : Int), .bool b]) = .returned (.tuple #[.int .i64 (a' : Int), .bool b']) := by rw [h, h2]
theorem spK_asc {s : ByteArray} (h : spK s = true) : ∀ i (hi : i < s.size), (s[i]'hi).toNat < 128 := by
  intro i hi
  unfold spK at h
  simp only [Bool.and_eq_true, decide_eq_true_eq] at h
  have h1 := isK_get h.1 i hi
  unfold isD at h1
  simp only [Bool.and_eq_true, decide_eq_true_eq] at h1
  omega
theorem mark_zero (ss : List ByteArray) (q : ByteArray) : markAll ss q q.size 0 = true := by
  have := markAll_up ss q 0 0 q.size (by simp [markAll])
  rwa [Nat.zero_add] at this

set_option maxHeartbeats 1000000 in
theorem spec_any (v : Value) (ss : List ByteArray) (s : ByteArray) (w : World) (h : Strs w v ss) (hs : s.size ≤ maxLen) : Calls Tryd.prog 27 #[v, .string s] w fun e w' => e = .returned (.tuple #[.int .i64 (cV ss s : Int), .bool (okB ss s)]) ∧ Ext w w' := by
  have HS := Lib.hid h
  clear h
  cases hok : okB ss s
  · have H := Lib.hid (cV_no hok)
    have hand : (dicB ss && spK s) = false := hok
    go_enter Tryd.func27, Tryd.ntmps27
    go_wp2_with (go_at_call 38; refine (wdAsked_any _ _ _ _ HS.out hs).mono ?_; rintro e w1 ⟨rfl, x1⟩; rw [hand])
    go_ret2
    exact ⟨ret_nb (a := 0) (b := false) H.out.symm rfl, x1⟩
  · have hK := okB_and hok
    exact (specLong_any v ss s w HS.out hK.1 (spK_ok hK.2).1 hK.2 hs (spK_asc hK.2)).mono fun e w' h => ⟨h.1.trans (ret_nb (cV_yes hok).symm rfl), h.2⟩

set_option maxHeartbeats 1000000 in
theorem impl_any (v : Value) (ss : List ByteArray) (s : ByteArray) (w : World) (h : Strs w v ss) (hs : s.size ≤ maxLen) (hp : PadIs w) : Calls Tryd.prog 28 #[v, .string s] w fun e w' => e = .returned (.tuple #[.int .i64 (cV ss s : Int), .bool (okB ss s)]) ∧ Ext w w' := by
  have HS := Lib.hid h
  clear h
  cases hd : dicB ss
  · have H := Lib.hid (okB_d (s := s) hd)
    go_enter Tryd.func28, Tryd.ntmps28
    go_wp2_with (go_at_call 40; refine (dict_any _ _ _ HS.out).mono ?_; rintro e w1 ⟨rfl, x1⟩)
    go_ret2
    exact ⟨ret_nb (cV_no H.out).symm H.out.symm, x1⟩
  cases hk : spK s
  · have H := Lib.hid (okB_k (ss := ss) hk)
    go_enter Tryd.func28, Tryd.ntmps28
    go_wp2_with (first | (go_at_call 40; refine (dict_any _ _ _ HS.out).mono ?_; rintro e w1 ⟨rfl, x1⟩) | (go_at_call 41; refine (areSplit_any _ _ hs).mono ?_; rintro e w' ⟨rfl, rfl⟩))
    go_ret2
    exact ⟨ret_nb (cV_no H.out).symm H.out.symm, x1⟩
  have H := Lib.hid (okB_yes hd hk)
  have HD := Lib.hid hd
  have HQ := Lib.hid (spK_ok hk)
  have hq20 : s.size ≤ 20 := HQ.out.1
  have h63 : s.size ≤ 9223372036854775807 := hs
  go_enter Tryd.func28, Tryd.ntmps28
  go_wp2_with (first | (go_at_call 40; refine (dict_any _ _ _ HS.out).mono ?_; rintro e w1 ⟨rfl, x1⟩) | (go_at_call 41; refine (areSplit_any _ _ hs).mono ?_; rintro e w' ⟨rfl, rfl⟩) | (go_at_call 42; refine (keep_any _ _ _ (HS.out.ext x1) HD.out (hp.ext x1)).mono ?_; rintro e w2 ⟨rfl, k2, x2⟩))
  clear hd hk
  go_loopw [7] (fun l wr => ∃ L : Nat, L ≤ s.size ∧ l = .int .i64 L ∧ longV ss s = lastT (markAll ss s s.size) L ∧ Ext w2 wr) (fun l _ => (intOf l).toNat)
  case atStart => exact ⟨s.size, Nat.le_refl _, rfl, rfl, Ext.refl _⟩
  case round =>
    obtain ⟨L, hL, rfl, hV, hx⟩ := hrel
    have HV := Lib.hid hV
    have KX := Lib.hid (kept_grown k2 hx)
    have hLi : (L : Int) ≤ (s.size : Int) := by omega
    have HOQ := Lib.hid (okQ_part HQ.out 0 L (Nat.zero_le _) hL)
    have HC := Lib.hid (cut_mark HD.out s hq20 L hL)
    obtain ⟨c, hc⟩ : ∃ c, c = tq ss (s.extract 0 L) 0 := ⟨_, rfl⟩
    have g0 := fun w => (ixT (tFrom ss (s.extract 0 L) 0) w).trans (by rw [tFrom_zero, ← hc])
    have HC2 := Lib.hid (show c = 0 ↔ markAll ss s s.size L = false by rw [hc]; exact HC.out)
    obtain ⟨T, hT⟩ : ∃ T, T = (tabL (tFrom ss (s.extract 0 L) 0)).toArray := ⟨_, rfl⟩
    have HT := Lib.hid hT
    rw [← hT] at g0
    clear hT hc hV
    by_cases hc0 : c = 0
    · have t1 : (c == 0) = true := by simp [hc0]
      have hm := HC2.out.1 hc0
      have hL0 : L ≠ 0 := by
        rintro rfl
        rw [mark_zero] at hm; cases hm
      have HN := Lib.hid (show longV ss s = lastT (markAll ss s s.size) (L - 1) by
        rw [HV.out]
        obtain ⟨k, rfl⟩ : ∃ k, L = k + 1 := ⟨L - 1, by omega⟩
        rw [lastT_no hm]; rfl)
      clear hc0 hm
      go_wp2_with (first | (go_at_call 46; refine (countFrom_any _ _ _ _ _ KX.out HOQ.out).mono ?_; rintro e w3 ⟨rfl, x3⟩; rw [← HT.out]))
      exact ⟨⟨L - 1, by omega, by congr 1; omega, HN.out, hx.trans x3⟩, by simp [intOf]; omega⟩
    · have t1 : (c == 0) = false := by simp [hc0]
      have hm : markAll ss s s.size L = true := by
        cases hb : markAll ss s s.size L
        · exact absurd (HC2.out.2 hb) hc0
        · rfl
      have HN := Lib.hid (show longV ss s = L by rw [HV.out, lastT_yes hm])
      clear hc0 hm
      go_wp2_with (first | (go_at_call 46; refine (countFrom_any _ _ _ _ _ KX.out HOQ.out).mono ?_; rintro e w3 ⟨rfl, x3⟩; rw [← HT.out]))
      go_ret2
      exact ⟨ret_nb (HN.out.symm.trans (cV_yes H.out).symm) H.out.symm, ((x1.trans x2).trans hx).trans x3⟩

set_option maxHeartbeats 4000000 in
theorem walk (w : World) (v : Value) (ss : List ByteArray) (h : Strs w v ss) (s1 : ByteArray) (hs1 : s1.size ≤ maxLen) (hp : PadIs w) : Calls Tryd.prog 8 #[v, .string s1] w fun e w' => e = .returned (.bool true) ∧ Ext w w' := by
  have H := Lib.hid h
  clear h
  have h63_1 : s1.size ≤ 9223372036854775807 := hs1
  by_cases hbig1 : 1048576 < s1.size
  · go_enter Tryd.func8, Tryd.ntmps8
    go_wp2
    go_ret
    exact ⟨rfl, Ext.refl _⟩
  go_enter Tryd.func8, Tryd.ntmps8
  go_wp2_with (first | (go_at_call 12; refine (szS_any _ _ _ H.out).mono ?_; rintro e w' ⟨r, hr, rfl, rfl⟩))
  · go_ret
    exact ⟨rfl, Ext.refl _⟩
  · have hf := hr (by assumption)
    obtain ⟨hn, hb⟩ := hf
    clear hr
    refine (toS_any _ _ _ (H.out) hn).mono ?_
    rintro e w1 ⟨u1, rfl, hu1, x1, gx1, cx1, rfl, hgx1, hox1⟩
    have H1 := Lib.hid hu1
    have O1 := Lib.hid hox1
    have hg1 : gx1 < w1.heap.size := by
      rcases hox1.2 with ⟨h3, _⟩ | ⟨g', c, cur, h3, _, hg, _⟩
      · cases h3
      · cases h3
        exact heap_lt hg
    clear hu1 hox1
    have X1 : Ext w w1 := x1
    go_wp2_with fail
    refine (spec_any _ _ _ _ H1.out hs1).mono ?_
    rintro e w2 ⟨rfl, x2⟩
    have X2 : Ext w w2 := X1.trans x2
    go_wp2_with fail
    refine (toS_any _ _ _ (H.out.ext X2) hn).mono ?_
    rintro e w3 ⟨u3, rfl, hu3, x3, gx3, cx3, rfl, hgx3, hox3⟩
    have H3 := Lib.hid hu3
    have O3 := Lib.hid hox3
    have hg3 : gx3 < w3.heap.size := by
      rcases hox3.2 with ⟨h3, _⟩ | ⟨g', c, cur, h3, _, hg, _⟩
      · cases h3
      · cases h3
        exact heap_lt hg
    clear hu3 hox3
    have X3 : Ext w w3 := X2.trans x3
    go_wp2_with fail
    refine (impl_any _ _ _ _ H3.out hs1 (hp.ext X3)).mono ?_
    rintro e w4 ⟨rfl, x4⟩
    have X4 : Ext w w4 := X3.trans x4
    go_wp2_with fail
    refine (toS_any _ _ _ (H.out.ext X4) hn).mono ?_
    rintro e w5 ⟨u5, rfl, hu5, x5, gx5, cx5, rfl, hgx5, hox5⟩
    have H5 := Lib.hid hu5
    have O5 := Lib.hid hox5
    have hg5 : gx5 < w5.heap.size := by
      rcases hox5.2 with ⟨h3, _⟩ | ⟨g', c, cur, h3, _, hg, _⟩
      · cases h3
      · cases h3
        exact heap_lt hg
    clear hu5 hox5
    have X5 : Ext w w5 := X4.trans x5
    go_wp2_with fail
    refine (eqS_any _ _ _ _ (H3.out.ext (x4.trans x5)) (H5.out) hn).mono ?_
    rintro e w6 ⟨rfl, x6⟩
    have X6 : Ext w w6 := X5.trans x6
    go_wp2_with fail
    go_ret
    exact ⟨rfl, X6⟩

set_option maxRecDepth 100000 in
theorem contract (H : Type) (enc : TypeId × Value → H) (W : World) (base : Nat) (args : Array Value) (ds gs : List (DataW H)) (before : List MemPlace)
    (hval : ∀ (j : Nat) t v, Tryd.f8.params[j]? = some t → args[j]? = some v → Value.okWide Tryd.prog W .any base t v)
    (hW : DataW.Whole enc Tryd.prog Tryd.f8.params.toList Rows.fnExactLongestSplitSpec.vars false W args.toList ds gs before) (hL : laidMetH Tryd.prog Rows.fnExactLongestSplitRow.laid W) :
    Calls Tryd.prog 8 args W fun e W' => ∃ v, e = .returned v ∧ Rows.fnExactLongestSplitSpec.post enc Tryd.prog Tryd.f8 false true false false W args v W' := by
  have hW' := hW
  obtain ⟨p, q, hA0, hV, rfl, hfz, hnd⟩ := hW
  have hA : DataW.TrodAll enc Tryd.prog W 0 (fun _ => true) true Tryd.f8.params.toList args.toList ds p := hA0
  rw [Tryd.params8] at hA hval
  obtain ⟨v0, vs0, d0, ds0, p0, q0, hargs0, rfl, rfl, h0, r0⟩ := trodAll_cons hA
  obtain ⟨v1, vs1, d1, ds1, p1, q1, hargs1, rfl, rfl, h1, r1⟩ := trodAll_cons r0
  obtain ⟨rfl, rfl, rfl⟩ := trodAll_nil r1
  subst hargs1
  obtain rfl : args = #[v0, v1] := Array.toList_inj.1 hargs0
  obtain ⟨s0, z0⟩ := strs_of (hval 0 22 v0 rfl rfl) h0
  obtain ⟨s1, rfl, rfl, rfl, z1⟩ := open_string Tryd.underlying9 (hval 1 9 v1 rfl rfl) h1
  clear hA0
  refine (walk W v0 s0 z0 s1 z1 (padIs_of_laid hL)).mono fun e W' ⟨he, hx⟩ => ?_
  subst he
  exact ⟨_, rfl, post_true (tb := 4) laidOut (by rw [Tryd.params8]; intro t ht; simp at ht; rcases ht with rfl | rfl <;> exact ⟨by kernel_rfl, of_decide_eq_true (by kernel_rfl)⟩) (by kernel_rfl) hW' hx (by obtain ⟨g, t, cs, fuel, d, p', rfl, _⟩ := trodVars_one hV; rfl) rfl Tryd.underlying4⟩

theorem reads (os : Os) {H : Type} (enc : TypeId × Value → H) : ∃ gs places, DataW.whole enc Tryd.prog ((laidWorld os).forCall (fun _ _ => 0) ⟨#[], #[.slice none 0 0, .string ByteArray.empty], []⟩).memory Tryd.f8.params.toList Rows.fnExactLongestSplitSpec.vars false (#[.slice none 0 0, .string ByteArray.empty] : Array Value).toList 8 = some ([.nil, .lit (.string [])], gs, places) :=
  ⟨[Rows.laid_loop_example_g01350_impl_padKeys], MemPlace.row ⟨0, 0, none⟩ 16, by kernel_rfl⟩

set_option maxRecDepth 100000 in
theorem lifted (os : Os) (started : os.Started) (H : Type) (enc : TypeId × Value → H) (F : Stop.Interp) :
    ReturnsInHanded {} Tryd.checked os 8 .any ((OpenSpec.ofChange Rows.fnExactLongestSplitSpec).preRow enc Tryd.prog Tryd.f8 Rows.fnExactLongestSplitRow.domain false Rows.fnExactLongestSplitRow.laid) (((OpenSpec.ofChange Rows.fnExactLongestSplitSpec).at F).post enc Tryd.prog Tryd.f8 false true false false) := by
  obtain ⟨gs, places, hx⟩ := reads os enc
  refine returnsInHanded_of_row (C := Tryd.checked) (s := OpenSpec.ofChange Rows.fnExactLongestSplitSpec) own started (by kernel_rfl) Tryd.func8
    (witness_row_at (enc := enc) (C := Tryd.checked) false (laidWorld os) #[.slice none 0 0, .string ByteArray.empty] rfl (by kernel_rfl) (by kernel_rfl) (by kernel_rfl)
      (OpenSpec.preRow_of_cond 8 hx (by kernel_rfl) (fun k hk => by cases hk) (by kernel_rfl) (laid_met os _))) ?_
  intro W base args ds gs before hval hW _ _ _ hL _ _
  exact contract H enc W base args ds gs before hval hW hL

theorem said : Rows.FnExactLongestSplitSaid :=
  OpenClaim.holds_of_cond 8 Tryd.f8 rfl rfl rfl rfl rfl rfl rfl ⟨rfl, rfl, rfl, rfl, rfl⟩ rfl rfl rfl rfl rfl (by kernel_rfl) Tryd.func8 (by kernel_rfl)
    (of_decide_eq_true (by kernel_rfl)) (by unfold Func.isWrapper; first | (rw [if_pos (by decide +kernel)]; kernel_rfl) | (rw [if_neg (by decide +kernel)]; exact ⟨rfl, rfl⟩))
    (fun os started H enc _ F => by rw [OpenClaim.pre_eq_preRow]; exact lifted os started H enc F)

theorem plain (f : FuncId) (fn : Func) (hf : Tryd.pinned.checked.prog.funcNamed "loop.example/g01350/laws.FnExactLongestSplit" = some f) (hfn : Tryd.pinned.checked.prog.funcs[f]? = some fn) :
    false = Tryd.pinned.checked.prog.looks [] ∧ ∀ (j : Nat) t, fn.params[j]? = some t → Tryd.pinned.checked.prog.wantsStandIn t = false := by
  obtain rfl : f = 8 := Option.some.inj ((show Tryd.prog.funcNamed "loop.example/g01350/laws.FnExactLongestSplit" = some 8 by kernel_rfl).symm.trans hf) |>.symm
  obtain rfl : fn = Tryd.f8 := (Option.some.inj (Tryd.func8.symm.trans hfn)).symm
  refine ⟨by kernel_rfl, fun j t ht => ?_⟩
  rw [Tryd.params8] at ht
  have hm := Array.mem_of_getElem? ht
  have hall : (#[22, 9].toList.all fun u => !Tryd.prog.wantsStandIn u) = true := by kernel_rfl
  exact (show Tryd.prog.wantsStandIn t = false by simpa using List.all_eq_true.1 hall t (by simpa using hm))

/-- THE CARD -/
theorem card : Rows.FnExactLongestSplitCardSaid :=
  Claim7.holds_tied_plain_at .later [] _ _ _ _ said (fun _ h => by cases h) (by kernel_rfl) (fun _ h => by cases h) fnExactLongestSplit_row_tie rfl ⟨rfl, rfl⟩ (by kernel_rfl) rfl plain (by kernel_rfl)
end Go.Proofs.YtamjhhdggdfjiabDoor.longestSplit
