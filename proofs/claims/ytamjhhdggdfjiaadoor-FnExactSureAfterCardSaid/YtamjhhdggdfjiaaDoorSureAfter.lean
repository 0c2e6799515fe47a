/- For every list of texts and text the program's SureAfter answers as its model does, and leaves the list alone, the pad's table being as the program lays it. -/
import Derived.Test.YtamjhhdggdfjiaaDoorCards
import Derived.Test.YtamjhhdggdfjiaaDoorTie
import Derived.Test.YtamjhhdggdfjiaaDoorTab
import Derived.Test.YtamjhhdggdfjiaaDoorBegs
import Derived.Test.YtamjhhdggdfjiaaDoorFind
import Derived.Test.YtamjhhdggdfjiaaDoorOpenS
namespace Go.Proofs.YtamjhhdggdfjiaaDoor.sureAfter
open Go.ChangeShapes Go.WideShapes Go.ChangeAt Go.RowKit
open Go.ChangeMaps (open_string shut_string)

/-- The first letters' keys of a word. -/
def kt (s : ByteArray) (n : Nat) : ByteArray := (keysB s).extract 0 n
/-- With so many keys the word is alone. -/
def aloneAt (ss : List ByteArray) (s : ByteArray) (n : Nat) : Bool := decide ((begs ss (kt s n)).length = 1)
/-- The least such number from n on, or none. -/
def sureFrom (ss : List ByteArray) (s : ByteArray) : Nat → Nat → Nat
  | 0, _ => 0
  | f + 1, n => if aloneAt ss s n then n else sureFrom ss s f (n + 1)
def sureV (ss : List ByteArray) (s : ByteArray) : Nat := if ofB ss s then sureFrom ss s s.size 1 else 0
def okB (ss : List ByteArray) (s : ByteArray) : Bool := ofB ss s && decide (0 < sureV ss s)
theorem sureV_no {ss : List ByteArray} {s : ByteArray} (h : ofB ss s = false) : sureV ss s = 0 := by unfold sureV; simp [h]
theorem sureV_yes {ss : List ByteArray} {s : ByteArray} (h : ofB ss s = true) : sureV ss s = sureFrom ss s s.size 1 := by unfold sureV; simp [h]
theorem okB_no {ss : List ByteArray} {s : ByteArray} (h : ofB ss s = false) : okB ss s = false := by unfold okB; simp [h]
theorem okB_none {ss : List ByteArray} {s : ByteArray} (h : ofB ss s = true) (h2 : sureFrom ss s s.size 1 = 0) : okB ss s = false := by unfold okB; rw [sureV_yes h, h2]; simp
theorem okB_hit {ss : List ByteArray} {s : ByteArray} (h : ofB ss s = true) {n : Nat} (hn : 0 < n) (h2 : sureFrom ss s s.size 1 = n) : okB ss s = true := by unfold okB; rw [sureV_yes h, h2, h, decide_eq_true hn]; rfl
theorem sure_hit {ss : List ByteArray} {s : ByteArray} {f n : Nat} (h : aloneAt ss s n = true) : sureFrom ss s (f + 1) n = n := by unfold sureFrom; simp [h]
theorem sure_miss {ss : List ByteArray} {s : ByteArray} {f n : Nat} (h : aloneAt ss s n = false) : sureFrom ss s (f + 1) n = sureFrom ss s f (n + 1) := by rw [sureFrom]; simp [h]
theorem ofB_dic {ss : List ByteArray} {s : ByteArray} (h : ofB ss s = true) : dicB ss = true := by unfold ofB at h; simp only [Bool.and_eq_true] at h; exact h.1
theorem ofB_word {ss : List ByteArray} {s : ByteArray} (h : ofB ss s = true) : wdW s = true := by
  have hd := ofB_dic h
  unfold ofB at h
  simp only [Bool.and_eq_true] at h
  obtain ⟨hl, he⟩ := fx_at h.2
  rw [← he]
  exact dicB_at hd _ hl
theorem kt_size (s : ByteArray) (n : Nat) (h : s.size ≤ maxLen) : (kt s n).size ≤ maxLen := by
  unfold kt
  rw [ByteArray.size_extract, keysB_size]
  omega

set_option maxHeartbeats 2000000 in
theorem spec_any (v : Value) (ss : List ByteArray) (s : ByteArray) (w : World) (h : Strs w v ss) (hs : s.size ≤ maxLen) : Calls Tryd.prog 24 #[v, .string s] w fun e w' => e = .returned (.tuple #[.int .i64 (sureV ss s : Int), .bool (okB ss s)]) ∧ Ext w w' := by
  have HS := Lib.hid h
  obtain ⟨a, cap, hv, hnil⟩ := h.at
  rw [hv] at HS ⊢
  clear hv hnil h v
  have h63 : s.size ≤ 9223372036854775807 := hs
  cases hd : ofB ss s
  · have H := Lib.hid (okB_no hd)
    have H2 := Lib.hid (sureV_no hd)
    go_enter Tryd.func24, Tryd.ntmps24
    go_wp2_with (go_at_call 46; refine (wdHas_any _ _ _ _ HS.out).mono ?_; rintro e w1 ⟨rfl, x1⟩)
    go_ret2
    exact ⟨by rw [H.out, H2.out]; rfl, x1⟩
  have HD := Lib.hid hd
  have HW := Lib.hid (wdW_isW (ofB_word hd))
  have hz := wdW_size (ofB_word hd)
  obtain ⟨q, hq⟩ : ∃ q, q = keysB s := ⟨_, rfl⟩
  have HQ := Lib.hid hq
  have hqz : q.size = s.size := by rw [hq, keysB_size]
  clear hq
  go_enter Tryd.func24, Tryd.ntmps24
  go_wp2_with (first | (go_at_call 46; refine (wdHas_any _ _ _ _ HS.out).mono ?_; rintro e w1 ⟨rfl, x1⟩) | (go_at_call 35; refine (prKeys_any _ _ HW.out).mono ?_; rintro e w' ⟨rfl, rfl⟩; rw [← HQ.out]))
  clear hd
  go_loopw [7] (fun i wr => ∃ k : Nat, k ≤ s.size ∧ i = .int .i64 ((k : Int) + 1) ∧ sureFrom ss s s.size 1 = sureFrom ss s (s.size - k) (k + 1) ∧ Ext w wr) (fun i _ => s.size + 1 - (intOf i).toNat)
  case atStart => exact ⟨0, Nat.zero_le _, rfl, rfl, x1⟩
  case round =>
    obtain ⟨k, hk, rfl, hsu, hx⟩ := hrel
    have HU := Lib.hid hsu
    clear hsu
    by_cases hlt : k < s.size
    · have HKT := Lib.hid (show q.extract 0 (k + 1) = kt s (k + 1) by rw [HQ.out]; rfl)
      have HLN := Lib.hid (Nat.le_trans (begs_len ss (kt s (k + 1))) (dicB_len (ofB_dic HD.out)).2)
      cases hA : aloneAt ss s (k + 1)
      · have HN : ¬ (begs ss (kt s (k + 1))).length = 1 := by unfold aloneAt at hA; simpa using hA
        have H2 := Lib.hid (sure_miss (f := s.size - (k + 1)) hA)
        clear hA
        go_wp2_with (first | (go_at_call 40; rw [HKT.out]; refine (wdBegins_any _ _ _ _ (HS.out.ext hx) (ofB_dic HD.out) (kt_size _ _ hs)).mono ?_; rintro e w9 ⟨v9, rfl, r9, x9⟩; obtain ⟨a9, cap9, rfl⟩ := r9.shape))
        go_roundw
        case rel => exact ⟨k + 1, by omega, by go_num, by rw [HU.out, show s.size - k = s.size - (k + 1) + 1 by omega, H2.out], hx.trans x9⟩
        case measure => simp [intOf]; omega
      · have HN : (begs ss (kt s (k + 1))).length = 1 := by unfold aloneAt at hA; simpa using hA
        have H2 := Lib.hid (sure_hit (f := s.size - (k + 1)) hA)
        have HF := Lib.hid (show sureFrom ss s s.size 1 = k + 1 by rw [HU.out, show s.size - k = s.size - (k + 1) + 1 by omega, H2.out])
        clear hA
        go_wp2_with (first | (go_at_call 40; rw [HKT.out]; refine (wdBegins_any _ _ _ _ (HS.out.ext hx) (ofB_dic HD.out) (kt_size _ _ hs)).mono ?_; rintro e w9 ⟨v9, rfl, r9, x9⟩; obtain ⟨a9, cap9, rfl⟩ := r9.shape))
        go_ret2
        exact ⟨by rw [okB_hit HD.out (Nat.succ_pos k) HF.out, sureV_yes HD.out, HF.out]; go_num, hx.trans x9⟩
    · have HF := Lib.hid (show sureFrom ss s s.size 1 = 0 by rw [HU.out, show s.size - k = 0 by omega]; rfl)
      go_wp2
      go_ret2
      exact ⟨by rw [okB_none HD.out HF.out, sureV_yes HD.out, HF.out]; rfl, hx⟩

set_option maxHeartbeats 2000000 in
theorem impl_any (v : Value) (ss : List ByteArray) (s : ByteArray) (w : World) (h : Strs w v ss) (hs : s.size ≤ maxLen) (hp : PadIs w) : Calls Tryd.prog 25 #[v, .string s] w fun e w' => e = .returned (.tuple #[.int .i64 (sureV ss s : Int), .bool (okB ss s)]) ∧ Ext w w' := by
  have HS := Lib.hid h
  obtain ⟨a, cap, hv, hnil⟩ := h.at
  rw [hv] at HS ⊢
  clear hv hnil h v
  have h63 : s.size ≤ 9223372036854775807 := hs
  cases hd : ofB ss s
  · have H := Lib.hid (okB_no hd)
    have H2 := Lib.hid (sureV_no hd)
    go_enter Tryd.func25, Tryd.ntmps25
    go_wp2_with (go_at_call 47; refine (isWordOf_any _ _ _ _ HS.out).mono ?_; rintro e w1 ⟨rfl, x1⟩)
    go_ret2
    exact ⟨by rw [H.out, H2.out]; rfl, x1⟩
  have HD := Lib.hid hd
  have HW := Lib.hid (wdW_isW (ofB_word hd))
  have hz := wdW_size (ofB_word hd)
  obtain ⟨q, hq⟩ : ∃ q, q = keysB s := ⟨_, rfl⟩
  have HQ := Lib.hid hq
  have hqz : q.size = s.size := by rw [hq, keysB_size]
  clear hq
  go_enter Tryd.func25, Tryd.ntmps25
  go_wp2_with (first | (go_at_call 47; refine (isWordOf_any _ _ _ _ HS.out).mono ?_; rintro e w1 ⟨rfl, x1⟩) | (go_at_call 36; refine (keysL_any _ _ HW.out (hp.ext x1)).mono ?_; rintro e w2 ⟨rfl, x2⟩; rw [← HQ.out]))
  clear hd
  go_loopw [7] (fun i wr => ∃ k : Nat, k ≤ s.size ∧ i = .int .i64 ((k : Int) + 1) ∧ sureFrom ss s s.size 1 = sureFrom ss s (s.size - k) (k + 1) ∧ Ext w wr) (fun i _ => s.size + 1 - (intOf i).toNat)
  case atStart => exact ⟨0, Nat.zero_le _, rfl, rfl, x1.trans x2⟩
  case round =>
    obtain ⟨k, hk, rfl, hsu, hx⟩ := hrel
    have HU := Lib.hid hsu
    clear hsu
    by_cases hlt : k < s.size
    · have HKT := Lib.hid (show q.extract 0 (k + 1) = kt s (k + 1) by rw [HQ.out]; rfl)
      have HLN := Lib.hid (Nat.le_trans (begs_len ss (kt s (k + 1))) (dicB_len (ofB_dic HD.out)).2)
      cases hA : aloneAt ss s (k + 1)
      · have HN : ¬ (begs ss (kt s (k + 1))).length = 1 := by unfold aloneAt at hA; simpa using hA
        have H2 := Lib.hid (sure_miss (f := s.size - (k + 1)) hA)
        clear hA
        go_wp2_with (first | (go_at_call 42; rw [HKT.out]; refine (wordsFrom_any _ _ _ _ (HS.out.ext hx) (ofB_dic HD.out) (kt_size _ _ hs) (hp.ext hx)).mono ?_; rintro e w9 ⟨v9, rfl, r9, x9⟩; obtain ⟨a9, cap9, rfl⟩ := r9.shape))
        go_roundw
        case rel => exact ⟨k + 1, by omega, by go_num, by rw [HU.out, show s.size - k = s.size - (k + 1) + 1 by omega, H2.out], hx.trans x9⟩
        case measure => simp [intOf]; omega
      · have HN : (begs ss (kt s (k + 1))).length = 1 := by unfold aloneAt at hA; simpa using hA
        have H2 := Lib.hid (sure_hit (f := s.size - (k + 1)) hA)
        have HF := Lib.hid (show sureFrom ss s s.size 1 = k + 1 by rw [HU.out, show s.size - k = s.size - (k + 1) + 1 by omega, H2.out])
        clear hA
        go_wp2_with (first | (go_at_call 42; rw [HKT.out]; refine (wordsFrom_any _ _ _ _ (HS.out.ext hx) (ofB_dic HD.out) (kt_size _ _ hs) (hp.ext hx)).mono ?_; rintro e w9 ⟨v9, rfl, r9, x9⟩; obtain ⟨a9, cap9, rfl⟩ := r9.shape))
        go_ret2
        exact ⟨by rw [okB_hit HD.out (Nat.succ_pos k) HF.out, sureV_yes HD.out, HF.out]; go_num, hx.trans x9⟩
    · have HF := Lib.hid (show sureFrom ss s s.size 1 = 0 by rw [HU.out, show s.size - k = 0 by omega]; rfl)
      go_wp2
      go_ret2
      exact ⟨by rw [okB_none HD.out HF.out, sureV_yes HD.out, HF.out]; rfl, hx⟩

set_option maxHeartbeats 4000000 in
theorem walk (w : World) (v : Value) (ss : List ByteArray) (h : Strs w v ss) (s1 : ByteArray) (hs1 : s1.size ≤ maxLen) (hp : PadIs w) : Calls Tryd.prog 8 #[v, .string s1] w fun e w' => e = .returned (.bool true) ∧ Ext w w' := by
  have H := Lib.hid h
  clear h
  have h63_1 : s1.size ≤ 9223372036854775807 := hs1
  by_cases hbig1 : 1048576 < s1.size
  · go_enter Tryd.func8, Tryd.ntmps8
    go_wp2
    go_ret
    exact ⟨rfl, Ext.refl _⟩
  go_enter Tryd.func8, Tryd.ntmps8
  go_wp2_with (first | (go_at_call 16; refine (szS_any _ _ _ H.out).mono ?_; rintro e w' ⟨r, hr, rfl, rfl⟩))
  · go_ret
    exact ⟨rfl, Ext.refl _⟩
  · have hf := hr (by assumption)
    obtain ⟨hn, hb⟩ := hf
    clear hr
    refine (toS_any _ _ _ (H.out) hn).mono ?_
    rintro e w1 ⟨u1, rfl, hu1, x1, gx1, cx1, rfl, hgx1, hox1⟩
    have H1 := Lib.hid hu1
    have O1 := Lib.hid hox1
    have hg1 : gx1 < w1.heap.size := by
      rcases hox1.2 with ⟨h3, _⟩ | ⟨g', c, cur, h3, _, hg, _⟩
      · cases h3
      · cases h3
        exact heap_lt hg
    clear hu1 hox1
    have X1 : Ext w w1 := x1
    go_wp2_with fail
    refine (spec_any _ _ _ _ H1.out hs1).mono ?_
    rintro e w2 ⟨rfl, x2⟩
    have X2 : Ext w w2 := X1.trans x2
    go_wp2_with fail
    refine (toS_any _ _ _ (H.out.ext X2) hn).mono ?_
    rintro e w3 ⟨u3, rfl, hu3, x3, gx3, cx3, rfl, hgx3, hox3⟩
    have H3 := Lib.hid hu3
    have O3 := Lib.hid hox3
    have hg3 : gx3 < w3.heap.size := by
      rcases hox3.2 with ⟨h3, _⟩ | ⟨g', c, cur, h3, _, hg, _⟩
      · cases h3
      · cases h3
        exact heap_lt hg
    clear hu3 hox3
    have X3 : Ext w w3 := X2.trans x3
    go_wp2_with fail
    refine (impl_any _ _ _ _ H3.out hs1 (hp.ext X3)).mono ?_
    rintro e w4 ⟨rfl, x4⟩
    have X4 : Ext w w4 := X3.trans x4
    go_wp2_with fail
    refine (toS_any _ _ _ (H.out.ext X4) hn).mono ?_
    rintro e w5 ⟨u5, rfl, hu5, x5, gx5, cx5, rfl, hgx5, hox5⟩
    have H5 := Lib.hid hu5
    have O5 := Lib.hid hox5
    have hg5 : gx5 < w5.heap.size := by
      rcases hox5.2 with ⟨h3, _⟩ | ⟨g', c, cur, h3, _, hg, _⟩
      · cases h3
      · cases h3
        exact heap_lt hg
    clear hu5 hox5
    have X5 : Ext w w5 := X4.trans x5
    go_wp2_with fail
    refine (eqS_any _ _ _ _ (H3.out.ext (x4.trans x5)) (H5.out) hn).mono ?_
    rintro e w6 ⟨rfl, x6⟩
    have X6 : Ext w w6 := X5.trans x6
    go_wp2_with fail
    go_ret
    exact ⟨rfl, X6⟩

set_option maxRecDepth 100000 in
theorem contract (H : Type) (enc : TypeId × Value → H) (W : World) (base : Nat) (args : Array Value) (ds gs : List (DataW H)) (before : List MemPlace)
    (hval : ∀ (j : Nat) t v, Tryd.f8.params[j]? = some t → args[j]? = some v → Value.okWide Tryd.prog W .any base t v)
    (hW : DataW.Whole enc Tryd.prog Tryd.f8.params.toList Rows.fnExactSureAfterSpec.vars false W args.toList ds gs before) (hL : laidMetH Tryd.prog Rows.fnExactSureAfterRow.laid W) :
    Calls Tryd.prog 8 args W fun e W' => ∃ v, e = .returned v ∧ Rows.fnExactSureAfterSpec.post enc Tryd.prog Tryd.f8 false true false false W args v W' := by
  have hW' := hW
  obtain ⟨p, q, hA0, hV, rfl, hfz, hnd⟩ := hW
  have hA : DataW.TrodAll enc Tryd.prog W 0 (fun _ => true) true Tryd.f8.params.toList args.toList ds p := hA0
  rw [Tryd.params8] at hA hval
  obtain ⟨v0, vs0, d0, ds0, p0, q0, hargs0, rfl, rfl, h0, r0⟩ := trodAll_cons hA
  obtain ⟨v1, vs1, d1, ds1, p1, q1, hargs1, rfl, rfl, h1, r1⟩ := trodAll_cons r0
  obtain ⟨rfl, rfl, rfl⟩ := trodAll_nil r1
  subst hargs1
  obtain rfl : args = #[v0, v1] := Array.toList_inj.1 hargs0
  obtain ⟨s0, z0⟩ := strs_of (hval 0 22 v0 rfl rfl) h0
  obtain ⟨s1, rfl, rfl, rfl, z1⟩ := open_string Tryd.underlying9 (hval 1 9 v1 rfl rfl) h1
  clear hA0
  refine (walk W v0 s0 z0 s1 z1 (padIs_of_laid hL)).mono fun e W' ⟨he, hx⟩ => ?_
  subst he
  exact ⟨_, rfl, post_true (tb := 4) laidOut (by rw [Tryd.params8]; intro t ht; simp at ht; rcases ht with rfl | rfl <;> exact ⟨by kernel_rfl, of_decide_eq_true (by kernel_rfl)⟩) (by kernel_rfl) hW' hx (by obtain ⟨g, t, cs, fuel, d, p', rfl, _⟩ := trodVars_one hV; rfl) rfl Tryd.underlying4⟩

theorem reads (os : Os) {H : Type} (enc : TypeId × Value → H) : ∃ gs places, DataW.whole enc Tryd.prog ((laidWorld os).forCall (fun _ _ => 0) ⟨#[], #[.slice none 0 0, .string ByteArray.empty], []⟩).memory Tryd.f8.params.toList Rows.fnExactSureAfterSpec.vars false (#[.slice none 0 0, .string ByteArray.empty] : Array Value).toList 8 = some ([.nil, .lit (.string [])], gs, places) :=
  ⟨[Rows.laid_loop_example_g01350_impl_padKeys], MemPlace.row ⟨0, 0, none⟩ 16, by kernel_rfl⟩

set_option maxRecDepth 100000 in
theorem lifted (os : Os) (started : os.Started) (H : Type) (enc : TypeId × Value → H) (F : Stop.Interp) :
    ReturnsInHanded {} Tryd.checked os 8 .any ((OpenSpec.ofChange Rows.fnExactSureAfterSpec).preRow enc Tryd.prog Tryd.f8 Rows.fnExactSureAfterRow.domain false Rows.fnExactSureAfterRow.laid) (((OpenSpec.ofChange Rows.fnExactSureAfterSpec).at F).post enc Tryd.prog Tryd.f8 false true false false) := by
  obtain ⟨gs, places, hx⟩ := reads os enc
  refine returnsInHanded_of_row (C := Tryd.checked) (s := OpenSpec.ofChange Rows.fnExactSureAfterSpec) own started (by kernel_rfl) Tryd.func8
    (witness_row_at (enc := enc) (C := Tryd.checked) false (laidWorld os) #[.slice none 0 0, .string ByteArray.empty] rfl (by kernel_rfl) (by kernel_rfl) (by kernel_rfl)
      (OpenSpec.preRow_of_cond 8 hx (by kernel_rfl) (fun k hk => by cases hk) (by kernel_rfl) (laid_met os _))) ?_
  intro W base args ds gs before hval hW _ _ _ hL _ _
  exact contract H enc W base args ds gs before hval hW hL

theorem said : Rows.FnExactSureAfterSaid :=
  OpenClaim.holds_of_cond 8 Tryd.f8 rfl rfl rfl rfl rfl rfl rfl ⟨rfl, rfl, rfl, rfl, rfl⟩ rfl rfl rfl rfl rfl (by kernel_rfl) Tryd.func8 (by kernel_rfl)
    (of_decide_eq_true (by kernel_rfl)) (by unfold Func.isWrapper; first | (rw [if_pos (by decide +kernel)]; kernel_rfl) | (rw [if_neg (by decide +kernel)]; exact ⟨rfl, rfl⟩))
    (fun os started H enc _ F => by rw [OpenClaim.pre_eq_preRow]; exact lifted os started H enc F)

theorem plain (f : FuncId) (fn : Func) (hf : Tryd.pinned.checked.prog.funcNamed "loop.example/g01350/laws.FnExactSureAfter" = some f) (hfn : Tryd.pinned.checked.prog.funcs[f]? = some fn) :
    false = Tryd.pinned.checked.prog.looks [] ∧ ∀ (j : Nat) t, fn.params[j]? = some t → Tryd.pinned.checked.prog.wantsStandIn t = false := by
  obtain rfl : f = 8 := Option.some.inj ((show Tryd.prog.funcNamed "loop.example/g01350/laws.FnExactSureAfter" = some 8 by kernel_rfl).symm.trans hf) |>.symm
  obtain rfl : fn = Tryd.f8 := (Option.some.inj (Tryd.func8.symm.trans hfn)).symm
  refine ⟨by kernel_rfl, fun j t ht => ?_⟩
  rw [Tryd.params8] at ht
  have hm := Array.mem_of_getElem? ht
  have hall : (#[22, 9].toList.all fun u => !Tryd.prog.wantsStandIn u) = true := by kernel_rfl
  exact (show Tryd.prog.wantsStandIn t = false by simpa using List.all_eq_true.1 hall t (by simpa using hm))

/-- THE CARD -/
theorem card : Rows.FnExactSureAfterCardSaid :=
  Claim7.holds_tied_plain_at .later [] _ _ _ _ said (fun _ h => by cases h) (by kernel_rfl) (fun _ h => by cases h) fnExactSureAfter_row_tie rfl ⟨rfl, rfl⟩ (by kernel_rfl) rfl plain (by kernel_rfl)
end Go.Proofs.YtamjhhdggdfjiaaDoor.sureAfter
