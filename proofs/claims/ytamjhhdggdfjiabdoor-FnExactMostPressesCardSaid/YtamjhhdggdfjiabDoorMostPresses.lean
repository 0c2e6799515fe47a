/- For every list of texts the program's MostPresses answers as its model does, and leaves the list alone, the pad's table being as the program lays it. -/
import Derived.Test.YtamjhhdggdfjiabDoorCards
import Derived.Test.YtamjhhdggdfjiabDoorTie
import Derived.Test.YtamjhhdggdfjiabDoorTab
import Derived.Test.YtamjhhdggdfjiabDoorNext
import Derived.Test.YtamjhhdggdfjiabDoorOrder
import Derived.Test.YtamjhhdggdfjiabDoorOpenS
namespace Go.Proofs.YtamjhhdggdfjiabDoor.mostPresses
open Go.ChangeShapes Go.WideShapes Go.ChangeAt Go.RowKit
open Go.ChangeMaps (open_string shut_string)

/-- The first of so many words with the most presses, and how many. -/
def best (ss : List ByteArray) : Nat → ByteArray × Nat
  | 0 => (⟨#[]⟩, 0)
  | k + 1 => if (best ss k).2 < prs ss (ss.getD k ⟨#[]⟩) then (ss.getD k ⟨#[]⟩, prs ss (ss.getD k ⟨#[]⟩)) else best ss k
theorem getD_at {ss : List ByteArray} {k : Nat} (h : k < ss.length) : ss.getD k ⟨#[]⟩ = ss[k] := by rw [List.getD_eq_getElem?_getD, List.getElem?_eq_getElem h]; rfl
theorem best_more {ss : List ByteArray} {k : Nat} (h : k < ss.length) (h2 : (best ss k).2 < prs ss ss[k]) : best ss (k + 1) = (ss[k], prs ss ss[k]) := by rw [best, getD_at h, if_pos h2]
theorem best_less {ss : List ByteArray} {k : Nat} (h : k < ss.length) (h2 : ¬ (best ss k).2 < prs ss ss[k]) : best ss (k + 1) = best ss k := by rw [best, getD_at h, if_neg h2]
def bV (ss : List ByteArray) : ByteArray × Nat := if dicB ss then best ss ss.length else (⟨#[]⟩, 0)
theorem bV_no {ss : List ByteArray} (h : dicB ss = false) : bV ss = (⟨#[]⟩, 0) := by unfold bV; simp [h]
theorem bV_yes {ss : List ByteArray} (h : dicB ss = true) : bV ss = best ss ss.length := by unfold bV; simp [h]
theorem dicB_of {ss : List ByteArray} (h : dicB ss = true) (k : Nat) (hk : k < ss.length) : ofB ss ss[k] = true := by
  unfold ofB
  rw [h, Bool.true_and]
  unfold hasS
  refine decide_eq_true ?_
  unfold fx
  exact List.findIdx_lt_length_of_exists ⟨ss[k], List.getElem_mem hk, by simp⟩
theorem best_le {ss : List ByteArray} (h : dicB ss = true) : ∀ k, k ≤ ss.length → (best ss k).2 ≤ 22
  | 0, _ => Nat.zero_le _
  | k + 1, hk => by
    by_cases h2 : (best ss k).2 < prs ss ss[k]
    · rw [best_more (by omega) h2]; exact prs_le (dicB_of h k (by omega))
    · rw [best_less (by omega) h2]; exact best_le h k (by omega)
theorem ret_snb {a a' : ByteArray} {n n' : Nat} {b b' : Bool} (h : a = a') (h1 : n = n') (h2 : b = b') : Ending.returned (.tuple #[.string a, .int .i64 (n : Int), .bool b]) = .returned (.tuple #[.string a', .int .i64 (n' : Int), .bool b']) := by rw [h, h1, h2]

set_option maxHeartbeats 2000000 in
theorem spec_any (v : Value) (ss : List ByteArray) (w : World) (h : Strs w v ss) : Calls Tryd.prog 36 #[v] w fun e w' => e = .returned (.tuple #[.string (bV ss).1, .int .i64 ((bV ss).2 : Int), .bool (dicB ss)]) ∧ Ext w w' := by
  have HS := Lib.hid h
  obtain ⟨a, cap, hv, hnil⟩ := h.at
  rw [hv] at HS ⊢
  clear hv hnil h v
  cases hd : dicB ss
  · have H := Lib.hid (bV_no hd)
    go_enter Tryd.func36, Tryd.ntmps36
    go_wp2_with (go_at_call 53; refine (wdGood_any _ _ _ HS.out).mono ?_; rintro e w1 ⟨rfl, x1⟩)
    go_ret3
    exact ⟨by rw [H.out]; rfl, x1⟩
  have HD := Lib.hid hd
  have HV := Lib.hid (bV_yes hd)
  obtain ⟨hl1, hl2⟩ := dicB_len hd
  go_enter Tryd.func36, Tryd.ntmps36
  go_wp2_with (first | (go_at_call 53; refine (wdGood_any _ _ _ HS.out).mono ?_; rintro e w1 ⟨rfl, x1⟩))
  clear hd
  go_loopw [5, 6, 15] (fun o n i wr => ∃ k : Nat, k ≤ ss.length ∧ i = .int .i64 k ∧ o = .string (best ss k).1 ∧ n = .int .i64 ((best ss k).2 : Int) ∧ Ext w1 wr) (fun _ _ i _ => ss.length - (intOf i).toNat)
  case atStart => exact ⟨0, Nat.zero_le _, rfl, rfl, rfl, Ext.refl _⟩
  case round =>
    obtain ⟨k, hk, rfl, rfl, rfl, hx⟩ := hrel
    have hble := best_le HD.out k hk
    by_cases hlt : k < ss.length
    · rcases (HS.out.ext (x1.trans hx)).2.2 with ⟨h3, _⟩ | ⟨b, off, cap', h4, hb, hc⟩
      · rw [h3] at hlt; exact absurd hlt (by simp)
      have ha : a = some ⟨b, off, none⟩ := by injection h4
      have e1 := hc k hlt
      have HO := Lib.hid (dicB_of HD.out k hlt)
      have hpl := prs_le (dicB_of HD.out k hlt)
      obtain ⟨bb, hbb⟩ : ∃ bb, bb = best ss k := ⟨_, rfl⟩
      have HB := Lib.hid hbb
      have HS2 := Lib.hid (show Strs wr (.slice (some ⟨b, off, none⟩) ss.length cap) ss from ha ▸ HS.out.ext (x1.trans hx))
      rw [ha]
      rw [← hbb] at hble ⊢
      clear hc h4 ha hb
      by_cases h2 : bb.2 < prs ss ss[k]
      · have HN := Lib.hid (best_more hlt (hbb ▸ h2))
        clear hbb
        go_wp2_with (first | (go_at_call 56; refine (wdPresses_any _ _ _ _ HS2.out HO.out).mono ?_; rintro e w9 ⟨rfl, x9⟩))
        go_roundw
        case rel => exact ⟨k + 1, by omega, by go_num, by rw [HN.out], by rw [HN.out], hx.trans x9⟩
        case measure => simp [intOf]; omega
      · have HN := Lib.hid (best_less hlt (hbb ▸ h2))
        clear hbb
        go_wp2_with (first | (go_at_call 56; refine (wdPresses_any _ _ _ _ HS2.out HO.out).mono ?_; rintro e w9 ⟨rfl, x9⟩))
        go_roundw
        case rel => exact ⟨k + 1, by omega, by go_num, by rw [HN.out, ← HB.out], by rw [HN.out, ← HB.out], hx.trans x9⟩
        case measure => simp [intOf]; omega
    · obtain rfl : k = ss.length := by omega
      go_wp2
      go_ret3
      exact ⟨ret_snb (by rw [HV.out]) (by rw [HV.out]) rfl, x1.trans hx⟩

set_option maxHeartbeats 2000000 in
theorem impl_any (v : Value) (ss : List ByteArray) (w : World) (h : Strs w v ss) (hp : PadIs w) : Calls Tryd.prog 37 #[v] w fun e w' => e = .returned (.tuple #[.string (bV ss).1, .int .i64 ((bV ss).2 : Int), .bool (dicB ss)]) ∧ Ext w w' := by
  have HS := Lib.hid h
  obtain ⟨a, cap, hv, hnil⟩ := h.at
  rw [hv] at HS ⊢
  clear hv hnil h v
  cases hd : dicB ss
  · have H := Lib.hid (bV_no hd)
    go_enter Tryd.func37, Tryd.ntmps37
    go_wp2_with (go_at_call 40; refine (dict_any _ _ _ HS.out).mono ?_; rintro e w1 ⟨rfl, x1⟩)
    go_ret3
    exact ⟨by rw [H.out]; rfl, x1⟩
  have HD := Lib.hid hd
  have HV := Lib.hid (bV_yes hd)
  obtain ⟨hl1, hl2⟩ := dicB_len hd
  go_enter Tryd.func37, Tryd.ntmps37
  go_wp2_with (first | (go_at_call 40; refine (dict_any _ _ _ HS.out).mono ?_; rintro e w1 ⟨rfl, x1⟩) | (go_at_call 42; refine (keep_any _ _ _ (HS.out.ext x1) HD.out (hp.ext x1)).mono ?_; rintro e w2 ⟨rfl, k2, x2⟩; have K2 := Lib.hid k2; clear k2))
  clear hd
  go_loopw [6, 7, 18] (fun o n i wr => ∃ k : Nat, k ≤ ss.length ∧ i = .int .i64 k ∧ o = .string (best ss k).1 ∧ n = .int .i64 ((best ss k).2 : Int) ∧ Ext w2 wr) (fun _ _ i _ => ss.length - (intOf i).toNat)
  case atStart => exact ⟨0, Nat.zero_le _, rfl, rfl, rfl, Ext.refl _⟩
  case round =>
    obtain ⟨k, hk, rfl, rfl, rfl, hx⟩ := hrel
    have hble := best_le HD.out k hk
    by_cases hlt : k < ss.length
    · rcases (HS.out.ext ((x1.trans x2).trans hx)).2.2 with ⟨h3, _⟩ | ⟨b, off, cap', h4, hb, hc⟩
      · rw [h3] at hlt; exact absurd hlt (by simp)
      have ha : a = some ⟨b, off, none⟩ := by injection h4
      have e1 := hc k hlt
      have HO := Lib.hid (dicB_of HD.out k hlt)
      have hpl := prs_le (dicB_of HD.out k hlt)
      obtain ⟨bb, hbb⟩ : ∃ bb, bb = best ss k := ⟨_, rfl⟩
      have HB := Lib.hid hbb
      have HS2 := Lib.hid (show Strs wr (.slice (some ⟨b, off, none⟩) ss.length cap) ss from ha ▸ HS.out.ext ((x1.trans x2).trans hx))
      rw [ha]
      rw [← hbb] at hble ⊢
      clear hc h4 ha hb
      by_cases h2 : bb.2 < prs ss ss[k]
      · have HN := Lib.hid (best_more hlt (hbb ▸ h2))
        clear hbb
        go_wp2_with (first | (go_at_call 58; refine (pressesIn_any _ _ _ _ _ (kept_grown K2.out hx) HO.out (hp.ext ((x1.trans x2).trans hx))).mono ?_; rintro e w9 ⟨rfl, x9⟩))
        go_roundw
        case rel => exact ⟨k + 1, by omega, by go_num, by rw [HN.out], by rw [HN.out], hx.trans x9⟩
        case measure => simp [intOf]; omega
      · have HN := Lib.hid (best_less hlt (hbb ▸ h2))
        clear hbb
        go_wp2_with (first | (go_at_call 58; refine (pressesIn_any _ _ _ _ _ (kept_grown K2.out hx) HO.out (hp.ext ((x1.trans x2).trans hx))).mono ?_; rintro e w9 ⟨rfl, x9⟩))
        go_roundw
        case rel => exact ⟨k + 1, by omega, by go_num, by rw [HN.out, ← HB.out], by rw [HN.out, ← HB.out], hx.trans x9⟩
        case measure => simp [intOf]; omega
    · obtain rfl : k = ss.length := by omega
      go_wp2
      go_ret3
      exact ⟨ret_snb (by rw [HV.out]) (by rw [HV.out]) rfl, (x1.trans x2).trans hx⟩

set_option maxHeartbeats 4000000 in
theorem walk (w : World) (v : Value) (ss : List ByteArray) (h : Strs w v ss) (hp : PadIs w) : Calls Tryd.prog 11 #[v] w fun e w' => e = .returned (.bool true) ∧ Ext w w' := by
  have H := Lib.hid h
  clear h
  go_enter Tryd.func11, Tryd.ntmps11
  go_wp2_with (first | (go_at_call 12; refine (szS_any _ _ _ H.out).mono ?_; rintro e w' ⟨r, hr, rfl, rfl⟩))
  · go_ret
    exact ⟨rfl, Ext.refl _⟩
  · have hf := hr (by assumption)
    obtain ⟨hn, hb⟩ := hf
    clear hr
    refine (toS_any _ _ _ (H.out) hn).mono ?_
    rintro e w1 ⟨u1, rfl, hu1, x1, gx1, cx1, rfl, hgx1, hox1⟩
    have H1 := Lib.hid hu1
    have O1 := Lib.hid hox1
    have hg1 : gx1 < w1.heap.size := by
      rcases hox1.2 with ⟨h3, _⟩ | ⟨g', c, cur, h3, _, hg, _⟩
      · cases h3
      · cases h3
        exact heap_lt hg
    clear hu1 hox1
    have X1 : Ext w w1 := x1
    go_wp2_with fail
    refine (spec_any _ _ _ H1.out).mono ?_
    rintro e w2 ⟨rfl, x2⟩
    have X2 : Ext w w2 := X1.trans x2
    go_wp2_with fail
    refine (toS_any _ _ _ (H.out.ext X2) hn).mono ?_
    rintro e w3 ⟨u3, rfl, hu3, x3, gx3, cx3, rfl, hgx3, hox3⟩
    have H3 := Lib.hid hu3
    have O3 := Lib.hid hox3
    have hg3 : gx3 < w3.heap.size := by
      rcases hox3.2 with ⟨h3, _⟩ | ⟨g', c, cur, h3, _, hg, _⟩
      · cases h3
      · cases h3
        exact heap_lt hg
    clear hu3 hox3
    have X3 : Ext w w3 := X2.trans x3
    go_wp2_with fail
    refine (impl_any _ _ _ H3.out (hp.ext X3)).mono ?_
    rintro e w4 ⟨rfl, x4⟩
    have X4 : Ext w w4 := X3.trans x4
    go_wp2_with fail
    refine (toS_any _ _ _ (H.out.ext X4) hn).mono ?_
    rintro e w5 ⟨u5, rfl, hu5, x5, gx5, cx5, rfl, hgx5, hox5⟩
    have H5 := Lib.hid hu5
    have O5 := Lib.hid hox5
    have hg5 : gx5 < w5.heap.size := by
      rcases hox5.2 with ⟨h3, _⟩ | ⟨g', c, cur, h3, _, hg, _⟩
      · cases h3
      · cases h3
        exact heap_lt hg
    clear hu5 hox5
    have X5 : Ext w w5 := X4.trans x5
    go_wp2_with fail
    refine (eqS_any _ _ _ _ (H3.out.ext (x4.trans x5)) (H5.out) hn).mono ?_
    rintro e w6 ⟨rfl, x6⟩
    have X6 : Ext w w6 := X5.trans x6
    go_wp2_with fail
    go_ret
    exact ⟨rfl, X6⟩

set_option maxRecDepth 100000 in
theorem contract (H : Type) (enc : TypeId × Value → H) (W : World) (base : Nat) (args : Array Value) (ds gs : List (DataW H)) (before : List MemPlace)
    (hval : ∀ (j : Nat) t v, Tryd.f11.params[j]? = some t → args[j]? = some v → Value.okWide Tryd.prog W .any base t v)
    (hW : DataW.Whole enc Tryd.prog Tryd.f11.params.toList Rows.fnExactMostPressesSpec.vars false W args.toList ds gs before) (hL : laidMetH Tryd.prog Rows.fnExactMostPressesRow.laid W) :
    Calls Tryd.prog 11 args W fun e W' => ∃ v, e = .returned v ∧ Rows.fnExactMostPressesSpec.post enc Tryd.prog Tryd.f11 false true false false W args v W' := by
  have hW' := hW
  obtain ⟨p, q, hA0, hV, rfl, hfz, hnd⟩ := hW
  have hA : DataW.TrodAll enc Tryd.prog W 0 (fun _ => true) true Tryd.f11.params.toList args.toList ds p := hA0
  rw [Tryd.params11] at hA hval
  obtain ⟨v0, vs0, d0, ds0, p0, q0, hargs0, rfl, rfl, h0, r0⟩ := trodAll_cons hA
  obtain ⟨rfl, rfl, rfl⟩ := trodAll_nil r0
  obtain rfl : args = #[v0] := Array.toList_inj.1 hargs0
  obtain ⟨s0, z0⟩ := strs_of (hval 0 22 v0 rfl rfl) h0
  clear hA0
  refine (walk W v0 s0 z0 (padIs_of_laid hL)).mono fun e W' ⟨he, hx⟩ => ?_
  subst he
  exact ⟨_, rfl, post_true (tb := 4) laidOut (by rw [Tryd.params11]; intro t ht; simp at ht; subst ht; exact ⟨by kernel_rfl, of_decide_eq_true (by kernel_rfl)⟩) (by kernel_rfl) hW' hx (by obtain ⟨g, t, cs, fuel, d, p', rfl, _⟩ := trodVars_one hV; rfl) rfl Tryd.underlying4⟩

theorem reads (os : Os) {H : Type} (enc : TypeId × Value → H) : ∃ gs places, DataW.whole enc Tryd.prog ((laidWorld os).forCall (fun _ _ => 0) ⟨#[], #[.slice none 0 0], []⟩).memory Tryd.f11.params.toList Rows.fnExactMostPressesSpec.vars false (#[.slice none 0 0] : Array Value).toList 8 = some ([.nil], gs, places) :=
  ⟨[Rows.laid_loop_example_g01350_impl_padKeys], MemPlace.row ⟨0, 0, none⟩ 16, by kernel_rfl⟩

set_option maxRecDepth 100000 in
theorem lifted (os : Os) (started : os.Started) (H : Type) (enc : TypeId × Value → H) (F : Stop.Interp) :
    ReturnsInHanded {} Tryd.checked os 11 .any ((OpenSpec.ofChange Rows.fnExactMostPressesSpec).preRow enc Tryd.prog Tryd.f11 Rows.fnExactMostPressesRow.domain false Rows.fnExactMostPressesRow.laid) (((OpenSpec.ofChange Rows.fnExactMostPressesSpec).at F).post enc Tryd.prog Tryd.f11 false true false false) := by
  obtain ⟨gs, places, hx⟩ := reads os enc
  refine returnsInHanded_of_row (C := Tryd.checked) (s := OpenSpec.ofChange Rows.fnExactMostPressesSpec) own started (by kernel_rfl) Tryd.func11
    (witness_row_at (enc := enc) (C := Tryd.checked) false (laidWorld os) #[.slice none 0 0] rfl (by kernel_rfl) (by kernel_rfl) (by kernel_rfl)
      (OpenSpec.preRow_of_cond 8 hx (by kernel_rfl) (fun k hk => by cases hk) (by kernel_rfl) (laid_met os _))) ?_
  intro W base args ds gs before hval hW _ _ _ hL _ _
  exact contract H enc W base args ds gs before hval hW hL

theorem said : Rows.FnExactMostPressesSaid :=
  OpenClaim.holds_of_cond 11 Tryd.f11 rfl rfl rfl rfl rfl rfl rfl ⟨rfl, rfl, rfl, rfl, rfl⟩ rfl rfl rfl rfl rfl (by kernel_rfl) Tryd.func11 (by kernel_rfl)
    (of_decide_eq_true (by kernel_rfl)) (by unfold Func.isWrapper; first | (rw [if_pos (by decide +kernel)]; kernel_rfl) | (rw [if_neg (by decide +kernel)]; exact ⟨rfl, rfl⟩))
    (fun os started H enc _ F => by rw [OpenClaim.pre_eq_preRow]; exact lifted os started H enc F)

theorem plain (f : FuncId) (fn : Func) (hf : Tryd.pinned.checked.prog.funcNamed "loop.example/g01350/laws.FnExactMostPresses" = some f) (hfn : Tryd.pinned.checked.prog.funcs[f]? = some fn) :
    false = Tryd.pinned.checked.prog.looks [] ∧ ∀ (j : Nat) t, fn.params[j]? = some t → Tryd.pinned.checked.prog.wantsStandIn t = false := by
  obtain rfl : f = 11 := Option.some.inj ((show Tryd.prog.funcNamed "loop.example/g01350/laws.FnExactMostPresses" = some 11 by kernel_rfl).symm.trans hf) |>.symm
  obtain rfl : fn = Tryd.f11 := (Option.some.inj (Tryd.func11.symm.trans hfn)).symm
  refine ⟨by kernel_rfl, fun j t ht => ?_⟩
  rw [Tryd.params11] at ht
  have hm := Array.mem_of_getElem? ht
  have hall : (#[22].toList.all fun u => !Tryd.prog.wantsStandIn u) = true := by kernel_rfl
  exact (show Tryd.prog.wantsStandIn t = false by simpa using List.all_eq_true.1 hall t (by simpa using hm))

/-- THE CARD -/
theorem card : Rows.FnExactMostPressesCardSaid :=
  Claim7.holds_tied_plain_at .later [] _ _ _ _ said (fun _ h => by cases h) (by kernel_rfl) (fun _ h => by cases h) fnExactMostPresses_row_tie rfl ⟨rfl, rfl⟩ (by kernel_rfl) rfl plain (by kernel_rfl)
end Go.Proofs.YtamjhhdggdfjiabDoor.mostPresses
