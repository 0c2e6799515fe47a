/- For every text the program's CountSameKeys answers as its model does, the pad's table being as the program lays it. -/
import Derived.Test.YtfekamknnmhgpaaDoorCards
import Derived.Test.YtfekamknnmhgpaaDoorTie
import Derived.Test.YtfekamknnmhgpaaDoorTab
import Derived.Test.YtfekamknnmhgpaaDoorCounts
namespace Go.Proofs.YtfekamknnmhgpaaDoor.countSameKeys
open Go.ChangeShapes Go.WideShapes Go.ChangeAt Go.RowKit
open Go.ChangeMaps (open_string shut_string)

def okC (s : ByteArray) : Bool := isK s && decide (csTo s s.size ≤ 1000000000000000)
def csV (s : ByteArray) : Int := if okC s then csTo s s.size else 0
theorem okC_K {s : ByteArray} (h : isK s = false) : okC s = false := by unfold okC; simp [h]
theorem okC_no {s : ByteArray} (h : 1000000000000000 < csTo s s.size) : okC s = false := by unfold okC; simp; intro; omega
theorem okC_yes {s : ByteArray} (h : isK s = true) (h2 : csTo s s.size ≤ 1000000000000000) : okC s = true := by unfold okC; simp [h, h2]
theorem csV_no {s : ByteArray} (h : okC s = false) : csV s = 0 := by unfold csV; simp [h]
theorem csV_yes {s : ByteArray} (h : okC s = true) : csV s = csTo s s.size := by unfold csV; simp [h]

set_option maxHeartbeats 400000 in
theorem spec_any (s : ByteArray) (w : World) (hs : s.size ≤ maxLen) : Calls Tryd.prog 34 #[.string s] w fun e w' => e = .returned (.tuple #[.int .i64 (csV s), .bool (okC s)]) ∧ w = w' := by
  cases h : isK s
  · have H := Lib.hid (okC_K h)
    go_enter Tryd.func34, Tryd.ntmps34
    go_wp2_with (go_at_call 54; refine (prGood_any _ _ hs).mono ?_; rintro e w' ⟨rfl, rfl⟩)
    go_ret2
    exact ⟨ret_ib (csV_no H.out).symm H.out.symm, rfl⟩
  · have hz := isK_size h
    have HD := Lib.hid (isK_get h)
    by_cases hr : 1000000000000000 < csTo s s.size
    · have H := Lib.hid (okC_no hr)
      go_enter Tryd.func34, Tryd.ntmps34
      go_wp2_with (first | (go_at_call 54; refine (prGood_any _ _ hs).mono ?_; rintro e w' ⟨rfl, rfl⟩) | (go_at_call 58; refine (prSame_any _ _ hz.2 HD.out).mono ?_; rintro e w' ⟨rfl, rfl⟩))
      go_ret2
      exact ⟨ret_ib (csV_no H.out).symm H.out.symm, rfl⟩
    · have H := Lib.hid (okC_yes h (by omega))
      go_enter Tryd.func34, Tryd.ntmps34
      go_wp2_with (first | (go_at_call 54; refine (prGood_any _ _ hs).mono ?_; rintro e w' ⟨rfl, rfl⟩) | (go_at_call 58; refine (prSame_any _ _ hz.2 HD.out).mono ?_; rintro e w' ⟨rfl, rfl⟩))
      go_ret2
      exact ⟨ret_ib (csV_yes H.out).symm H.out.symm, rfl⟩

set_option maxHeartbeats 800000 in
theorem impl_any (s : ByteArray) (w : World) (hs : s.size ≤ maxLen) (hp : PadIs w) : Calls Tryd.prog 35 #[.string s] w fun e w' => e = .returned (.tuple #[.int .i64 (csV s), .bool (okC s)]) ∧ Ext w w' := by
  cases h : isK s
  · have H := Lib.hid (okC_K h)
    go_enter Tryd.func35, Tryd.ntmps35
    go_wp2_with (go_at_call 55; refine (areKeys_any _ _ hs).mono ?_; rintro e w' ⟨rfl, rfl⟩)
    go_ret2
    exact ⟨ret_ib (csV_no H.out).symm H.out.symm, Ext.refl _⟩
  · obtain ⟨hz1, hz2⟩ := isK_size h
    have HD := Lib.hid (isK_get h)
    have h' := Lib.hid h
    go_enter Tryd.func35, Tryd.ntmps35
    go_wp2_with (go_at_call 55; refine (areKeys_any _ _ hs).mono ?_; rintro e w' ⟨rfl, rfl⟩)
    clear h
    go_loopw [4, 11] (fun n i wr => ∃ k : Nat, k ≤ s.size ∧ i = .int .i64 k ∧ n = .int .i64 (csTo s k) ∧ csTo s k ≤ 1000000000000000 ∧ Ext w wr) (fun _ i _ => s.size - (intOf i).toNat)
    case atStart => exact ⟨0, by omega, rfl, rfl, by show (1 : Int) ≤ 1000000000000000; decide, Ext.refl _⟩
    case round =>
      obtain ⟨k, hk, rfl, rfl, hle, hx⟩ := hrel
      obtain ⟨hb1, hb2⟩ := csTo_bd s HD.out k hk
      by_cases hlt : k < s.size
      · have HL := Lib.hid (HD.out k hlt)
        obtain ⟨hm1, hm2⟩ := kmul_bd hb1 hb2 (kz_bd HL.out).1 (kz_bd HL.out).2
        have HS := Lib.hid (csTo_succ s k hlt)
        unfold kz at hm1 hm2 HS
        by_cases hr : 1000000000000000 < csTo s k * ((lt (dk s[k].toNat)).size : Int)
        · have hup : 1000000000000000 < csTo s s.size := by
            have h1 : 1000000000000000 < csTo s (k + 1) := by rw [HS.out]; unfold mn; split <;> omega
            have h2 := csTo_up s HD.out (k + 1) (s.size - (k + 1)) (by omega) h1
            rw [show k + 1 + (s.size - (k + 1)) = s.size from by omega] at h2
            exact h2
          have H := Lib.hid (okC_no hup)
          clear hup
          go_wp2_with (first | (go_at_call 56; refine (keyAt_any _ _ HL.out (hp.ext hx)).mono ?_; rintro e w1 ⟨rfl, x1⟩) | (go_at_call 53; refine (size_any _ _ _).mono ?_; rintro e w2 ⟨rfl, x2⟩))
          go_ret2
          exact ⟨ret_ib (csV_no H.out).symm H.out.symm, (hx.trans x1).trans x2⟩
        · have HL2 := Lib.hid (show csTo s (k + 1) = csTo s k * ((lt (dk s[k].toNat)).size : Int) from by rw [HS.out]; exact if_pos (by omega))
          go_wp2_with (first | (go_at_call 56; refine (keyAt_any _ _ HL.out (hp.ext hx)).mono ?_; rintro e w1 ⟨rfl, x1⟩) | (go_at_call 53; refine (size_any _ _ _).mono ?_; rintro e w2 ⟨rfl, x2⟩))
          go_roundw
          case rel => exact ⟨k + 1, by omega, by go_num, by rw [HL2.out], by rw [HL2.out]; omega, (hx.trans x1).trans x2⟩
          case measure => simp [intOf]; omega
      · obtain rfl : k = s.size := by omega
        have H := Lib.hid (okC_yes h'.out hle)
        go_wp2
        go_ret2
        exact ⟨ret_ib (csV_yes H.out).symm H.out.symm, hx⟩

set_option maxHeartbeats 400000 in
theorem walk (s : ByteArray) (hs : s.size ≤ maxLen) (w : World) (hp : PadIs w) : Calls Tryd.prog 13 #[.string s] w fun e w' => e = .returned (.bool true) ∧ Ext w w' := by
  have h63 : s.size ≤ 9223372036854775807 := hs
  go_enter Tryd.func13, Tryd.ntmps13
  go_wp2_with (first | (go_at_call 34; refine (spec_any _ _ hs).mono ?_; rintro e w' ⟨rfl, rfl⟩) | (go_at_call 35; refine (impl_any _ _ hs hp).mono ?_; rintro e w1 ⟨rfl, x1⟩))
  all_goals go_ret
  all_goals exact ⟨rfl, by first | assumption | exact Ext.refl _⟩

theorem contract (H : Type) (enc : TypeId × Value → H) (W : World) (base : Nat) (args : Array Value) (ds gs : List (DataW H)) (before : List MemPlace)
    (hval : ∀ (j : Nat) t v, Tryd.f13.params[j]? = some t → args[j]? = some v → Value.okWide Tryd.prog W .any base t v)
    (hW : DataW.Whole enc Tryd.prog Tryd.f13.params.toList Rows.fnExactCountSameKeysSpec.vars false W args.toList ds gs before) (hL : laidMetH Tryd.prog Rows.fnExactCountSameKeysRow.laid W) :
    Calls Tryd.prog 13 args W fun e W' => ∃ v, e = .returned v ∧ Rows.fnExactCountSameKeysSpec.post enc Tryd.prog Tryd.f13 false true false false W args v W' := by
  have hW' := hW
  obtain ⟨p, q, hA0, hV, rfl, hfz, hnd⟩ := hW
  have hA : DataW.TrodAll enc Tryd.prog W 0 (fun _ => true) true Tryd.f13.params.toList args.toList ds p := hA0
  rw [Tryd.params13] at hA hval
  obtain ⟨v0, vs0, d0, ds0, p0, q0, hargs0, rfl, rfl, h0, r0⟩ := trodAll_cons hA
  obtain ⟨rfl, rfl, rfl⟩ := trodAll_nil r0
  obtain rfl : args = #[v0] := Array.toList_inj.1 hargs0
  obtain ⟨s0, rfl, rfl, rfl, z0⟩ := open_string Tryd.underlying9 (hval 0 9 v0 rfl rfl) h0
  clear hA0
  refine (walk s0 z0 W (padIs_of_laid hL)).mono fun e W' ⟨he, hx⟩ => ?_
  subst he
  exact ⟨_, rfl, post_true (tb := 4) laidOut (by rw [Tryd.params13]; intro t ht; simp at ht; subst ht; exact ⟨by kernel_rfl, of_decide_eq_true (by kernel_rfl)⟩) (by kernel_rfl) hW' hx (by obtain ⟨g, t, cs, fuel, d, p', rfl, _⟩ := trodVars_one hV; rfl) rfl Tryd.underlying4⟩

theorem reads (os : Os) {H : Type} (enc : TypeId × Value → H) : ∃ gs places, DataW.whole enc Tryd.prog ((laidWorld os).forCall (fun _ _ => 0) ⟨#[], #[.string ByteArray.empty], []⟩).memory Tryd.f13.params.toList Rows.fnExactCountSameKeysSpec.vars false (#[.string ByteArray.empty] : Array Value).toList 8 = some ([.lit (.string [])], gs, places) :=
  ⟨[Rows.laid_loop_example_g01350_impl_padKeys], MemPlace.row ⟨0, 0, none⟩ 16, by kernel_rfl⟩

set_option maxRecDepth 100000 in
theorem lifted (os : Os) (started : os.Started) (H : Type) (enc : TypeId × Value → H) (F : Stop.Interp) :
    ReturnsInHanded {} Tryd.checked os 13 .any ((OpenSpec.ofChange Rows.fnExactCountSameKeysSpec).preRow enc Tryd.prog Tryd.f13 Rows.fnExactCountSameKeysRow.domain false Rows.fnExactCountSameKeysRow.laid) (((OpenSpec.ofChange Rows.fnExactCountSameKeysSpec).at F).post enc Tryd.prog Tryd.f13 false true false false) := by
  obtain ⟨gs, places, hx⟩ := reads os enc
  refine returnsInHanded_of_row (C := Tryd.checked) (s := OpenSpec.ofChange Rows.fnExactCountSameKeysSpec) own started (by kernel_rfl) Tryd.func13
    (witness_row_at (enc := enc) (C := Tryd.checked) false (laidWorld os) #[.string ByteArray.empty] rfl (by kernel_rfl) (by kernel_rfl) (by kernel_rfl)
      (OpenSpec.preRow_of_cond 8 hx (by kernel_rfl) (fun k hk => by cases hk) (by kernel_rfl) (laid_met os _))) ?_
  intro W base args ds gs before hval hW _ _ _ hL _ _
  exact contract H enc W base args ds gs before hval hW hL

theorem said : Rows.FnExactCountSameKeysSaid :=
  OpenClaim.holds_of_cond 13 Tryd.f13 rfl rfl rfl rfl rfl rfl rfl ⟨rfl, rfl, rfl, rfl, rfl⟩ rfl rfl rfl rfl rfl (by kernel_rfl) Tryd.func13 (by kernel_rfl)
    (of_decide_eq_true (by kernel_rfl)) (by unfold Func.isWrapper; first | (rw [if_pos (by decide +kernel)]; kernel_rfl) | (rw [if_neg (by decide +kernel)]; exact ⟨rfl, rfl⟩))
    (fun os started H enc _ F => by rw [OpenClaim.pre_eq_preRow]; exact lifted os started H enc F)

theorem plain (f : FuncId) (fn : Func) (hf : Tryd.pinned.checked.prog.funcNamed "loop.example/g01350/laws.FnExactCountSameKeys" = some f) (hfn : Tryd.pinned.checked.prog.funcs[f]? = some fn) :
    false = Tryd.pinned.checked.prog.looks [] ∧ ∀ (j : Nat) t, fn.params[j]? = some t → Tryd.pinned.checked.prog.wantsStandIn t = false := by
  obtain rfl : f = 13 := Option.some.inj ((show Tryd.prog.funcNamed "loop.example/g01350/laws.FnExactCountSameKeys" = some 13 by kernel_rfl).symm.trans hf) |>.symm
  obtain rfl : fn = Tryd.f13 := (Option.some.inj (Tryd.func13.symm.trans hfn)).symm
  refine ⟨by kernel_rfl, fun j t ht => ?_⟩
  rw [Tryd.params13] at ht
  have hm := Array.mem_of_getElem? ht
  have hall : (#[9].toList.all fun u => !Tryd.prog.wantsStandIn u) = true := by kernel_rfl
  exact (show Tryd.prog.wantsStandIn t = false by simpa using List.all_eq_true.1 hall t (by simpa using hm))

/-- THE CARD -/
theorem card : Rows.FnExactCountSameKeysCardSaid :=
  Claim7.holds_tied_plain_at .later [] _ _ _ _ said (fun _ h => by cases h) (by kernel_rfl) (fun _ h => by cases h) fnExactCountSameKeys_row_tie rfl ⟨rfl, rfl⟩ (by kernel_rfl) rfl plain (by kernel_rfl)
end Go.Proofs.YtfekamknnmhgpaaDoor.countSameKeys
