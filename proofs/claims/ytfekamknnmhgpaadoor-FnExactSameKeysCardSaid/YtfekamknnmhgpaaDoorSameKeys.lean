/- For every two texts the program's SameKeys answers as its model does, the pad's table being as the program lays it. -/
import Derived.Test.YtfekamknnmhgpaaDoorCards
import Derived.Test.YtfekamknnmhgpaaDoorTie
import Derived.Test.YtfekamknnmhgpaaDoorTab
import Derived.Test.YtfekamknnmhgpaaDoorSigns
namespace Go.Proofs.YtfekamknnmhgpaaDoor.sameKeys
open Go.ChangeShapes Go.WideShapes Go.ChangeAt Go.RowKit
open Go.ChangeMaps (open_string shut_string)

def okV (a b : ByteArray) : Bool := isW a && isW b
def sV (a b : ByteArray) : Bool := isW a && isW b && ((keysB a).toList == (keysB b).toList)
theorem ret_bb {a a' : Bool} {b b' : Bool} (h : a = a') (h2 : b = b') : Ending.returned (.tuple #[.bool a, .bool b]) = .returned (.tuple #[.bool a', .bool b']) := by rw [h, h2]

set_option maxHeartbeats 400000 in
theorem impl_any (a b : ByteArray) (w : World) (ha : a.size ≤ maxLen) (hb : b.size ≤ maxLen) (hp : PadIs w) : Calls Tryd.prog 23 #[.string a, .string b] w fun e w' => e = .returned (.tuple #[.bool (sV a b), .bool (okV a b)]) ∧ Ext w w' := by
  cases h1 : isW a
  · have H := Lib.hid (show sV a b = false ∧ okV a b = false by unfold sV okV; simp [h1])
    go_enter Tryd.func23, Tryd.ntmps23
    go_wp2_with (go_at_call 44; refine (isW_any _ _ (by assumption)).mono ?_; rintro e w' ⟨rfl, rfl⟩)
    go_ret2
    exact ⟨ret_bb H.out.1.symm H.out.2.symm, Ext.refl _⟩
  · cases h2 : isW b
    · have H := Lib.hid (show sV a b = false ∧ okV a b = false by unfold sV okV; simp [h2])
      go_enter Tryd.func23, Tryd.ntmps23
      go_wp2_with (go_at_call 44; refine (isW_any _ _ (by assumption)).mono ?_; rintro e w' ⟨rfl, rfl⟩)
      go_ret2
      exact ⟨ret_bb H.out.1.symm H.out.2.symm, Ext.refl _⟩
    · have H := Lib.hid (show sV a b = ((keysB a).toList == (keysB b).toList) ∧ okV a b = true by unfold sV okV; simp [h1, h2])
      have k1 := Lib.hid h1
      have k2 := Lib.hid h2
      go_enter Tryd.func23, Tryd.ntmps23
      clear h1 h2
      go_wp2_with (first | (go_at_call 44; refine (isW_any _ _ (by assumption)).mono ?_; rintro e w' ⟨rfl, rfl⟩; (try rw [k1.out]); (try rw [k2.out])) | (go_at_call 39; refine (signsOf_any _ _ (by first | exact k1.out | exact k2.out) (by first | exact hp | exact hp.ext (by assumption))).mono ?_; rintro e wx ⟨rfl, xx⟩))
      go_ret2
      exact ⟨ret_bb H.out.1.symm H.out.2.symm, by first | assumption | exact Ext.trans (by assumption) (by assumption)⟩

set_option maxHeartbeats 400000 in
theorem spec_any (a b : ByteArray) (w : World) (ha : a.size ≤ maxLen) (hb : b.size ≤ maxLen) : Calls Tryd.prog 22 #[.string a, .string b] w fun e w' => e = .returned (.tuple #[.bool (sV a b), .bool (okV a b)]) ∧ w = w' := by
  cases h1 : isW a
  · have H := Lib.hid (show sV a b = false ∧ okV a b = false by unfold sV okV; simp [h1])
    go_enter Tryd.func22, Tryd.ntmps22
    go_wp2_with (go_at_call 36; refine (prW_any _ _ (by assumption)).mono ?_; rintro e w' ⟨rfl, rfl⟩)
    go_ret2
    exact ⟨ret_bb H.out.1.symm H.out.2.symm, rfl⟩
  · cases h2 : isW b
    · have H := Lib.hid (show sV a b = false ∧ okV a b = false by unfold sV okV; simp [h2])
      go_enter Tryd.func22, Tryd.ntmps22
      go_wp2_with (go_at_call 36; refine (prW_any _ _ (by assumption)).mono ?_; rintro e w' ⟨rfl, rfl⟩)
      go_ret2
      exact ⟨ret_bb H.out.1.symm H.out.2.symm, rfl⟩
    · have H := Lib.hid (show sV a b = ((keysB a).toList == (keysB b).toList) ∧ okV a b = true by unfold sV okV; simp [h1, h2])
      have k1 := Lib.hid h1
      have k2 := Lib.hid h2
      clear h1 h2
      go_enter Tryd.func22, Tryd.ntmps22
      go_wp2_with (first | (go_at_call 36; refine (prW_any _ _ (by assumption)).mono ?_; rintro e w' ⟨rfl, rfl⟩; (try rw [k1.out]); (try rw [k2.out])) | (go_at_call 46; refine (prKeys_any _ _ (by first | exact k1.out | exact k2.out)).mono ?_; rintro e wx ⟨rfl, rfl⟩))
      go_ret2
      exact ⟨ret_bb H.out.1.symm H.out.2.symm, rfl⟩

set_option maxHeartbeats 400000 in
theorem walk (a : ByteArray) (ha : a.size ≤ maxLen) (b : ByteArray) (hb : b.size ≤ maxLen) (w : World) (hp : PadIs w) : Calls Tryd.prog 7 #[.string a, .string b] w fun e w' => e = .returned (.bool true) ∧ Ext w w' := by
  have h63 : a.size ≤ 9223372036854775807 := ha
  have h64 : b.size ≤ 9223372036854775807 := hb
  go_enter Tryd.func7, Tryd.ntmps7
  go_wp2_with (first | (go_at_call 22; refine (spec_any _ _ _ ha hb).mono ?_; rintro e w' ⟨rfl, rfl⟩) | (go_at_call 23; refine (impl_any _ _ _ ha hb hp).mono ?_; rintro e w1 ⟨rfl, x1⟩))
  all_goals go_ret
  all_goals exact ⟨rfl, by first | assumption | exact Ext.refl _⟩

theorem contract (H : Type) (enc : TypeId × Value → H) (W : World) (base : Nat) (args : Array Value) (ds gs : List (DataW H)) (before : List MemPlace)
    (hval : ∀ (j : Nat) t v, Tryd.f7.params[j]? = some t → args[j]? = some v → Value.okWide Tryd.prog W .any base t v)
    (hW : DataW.Whole enc Tryd.prog Tryd.f7.params.toList Rows.fnExactSameKeysSpec.vars false W args.toList ds gs before) (hL : laidMetH Tryd.prog Rows.fnExactSameKeysRow.laid W) :
    Calls Tryd.prog 7 args W fun e W' => ∃ v, e = .returned v ∧ Rows.fnExactSameKeysSpec.post enc Tryd.prog Tryd.f7 false true false false W args v W' := by
  have hW' := hW
  obtain ⟨p, q, hA0, hV, rfl, hfz, hnd⟩ := hW
  have hA : DataW.TrodAll enc Tryd.prog W 0 (fun _ => true) true Tryd.f7.params.toList args.toList ds p := hA0
  rw [Tryd.params7] at hA hval
  obtain ⟨v0, vs0, d0, ds0, p0, q0, hargs0, rfl, rfl, h0, r0⟩ := trodAll_cons hA
  obtain ⟨v1, vs1, d1, ds1, p1, q1, hargs1, rfl, rfl, h1, r1⟩ := trodAll_cons r0
  obtain ⟨rfl, rfl, rfl⟩ := trodAll_nil r1
  subst hargs1
  obtain rfl : args = #[v0, v1] := Array.toList_inj.1 hargs0
  obtain ⟨s0, rfl, rfl, rfl, z0⟩ := open_string Tryd.underlying9 (hval 0 9 v0 rfl rfl) h0
  obtain ⟨s1, rfl, rfl, rfl, z1⟩ := open_string Tryd.underlying9 (hval 1 9 v1 rfl rfl) h1
  clear hA0
  refine (walk s0 z0 s1 z1 W (padIs_of_laid hL)).mono fun e W' ⟨he, hx⟩ => ?_
  subst he
  exact ⟨_, rfl, post_true (tb := 4) laidOut (by rw [Tryd.params7]; intro t ht; simp at ht; subst ht; exact ⟨by kernel_rfl, of_decide_eq_true (by kernel_rfl)⟩) (by kernel_rfl) hW' hx (by obtain ⟨g, t, cs, fuel, d, p', rfl, _⟩ := trodVars_one hV; rfl) rfl Tryd.underlying4⟩

theorem reads (os : Os) {H : Type} (enc : TypeId × Value → H) : ∃ gs places, DataW.whole enc Tryd.prog ((laidWorld os).forCall (fun _ _ => 0) ⟨#[], #[.string ByteArray.empty, .string ByteArray.empty], []⟩).memory Tryd.f7.params.toList Rows.fnExactSameKeysSpec.vars false (#[.string ByteArray.empty, .string ByteArray.empty] : Array Value).toList 8 = some ([.lit (.string []), .lit (.string [])], gs, places) :=
  ⟨[Rows.laid_loop_example_g01350_impl_padKeys], MemPlace.row ⟨0, 0, none⟩ 16, by kernel_rfl⟩

set_option maxRecDepth 100000 in
theorem lifted (os : Os) (started : os.Started) (H : Type) (enc : TypeId × Value → H) (F : Stop.Interp) :
    ReturnsInHanded {} Tryd.checked os 7 .any ((OpenSpec.ofChange Rows.fnExactSameKeysSpec).preRow enc Tryd.prog Tryd.f7 Rows.fnExactSameKeysRow.domain false Rows.fnExactSameKeysRow.laid) (((OpenSpec.ofChange Rows.fnExactSameKeysSpec).at F).post enc Tryd.prog Tryd.f7 false true false false) := by
  obtain ⟨gs, places, hx⟩ := reads os enc
  refine returnsInHanded_of_row (C := Tryd.checked) (s := OpenSpec.ofChange Rows.fnExactSameKeysSpec) own started (by kernel_rfl) Tryd.func7
    (witness_row_at (enc := enc) (C := Tryd.checked) false (laidWorld os) #[.string ByteArray.empty, .string ByteArray.empty] rfl (by kernel_rfl) (by kernel_rfl) (by kernel_rfl)
      (OpenSpec.preRow_of_cond 8 hx (by kernel_rfl) (fun k hk => by cases hk) (by kernel_rfl) (laid_met os _))) ?_
  intro W base args ds gs before hval hW _ _ _ hL _ _
  exact contract H enc W base args ds gs before hval hW hL

theorem said : Rows.FnExactSameKeysSaid :=
  OpenClaim.holds_of_cond 7 Tryd.f7 rfl rfl rfl rfl rfl rfl rfl ⟨rfl, rfl, rfl, rfl, rfl⟩ rfl rfl rfl rfl rfl (by kernel_rfl) Tryd.func7 (by kernel_rfl)
    (of_decide_eq_true (by kernel_rfl)) (by unfold Func.isWrapper; first | (rw [if_pos (by decide +kernel)]; kernel_rfl) | (rw [if_neg (by decide +kernel)]; exact ⟨rfl, rfl⟩))
    (fun os started H enc _ F => by rw [OpenClaim.pre_eq_preRow]; exact lifted os started H enc F)

theorem plain (f : FuncId) (fn : Func) (hf : Tryd.pinned.checked.prog.funcNamed "loop.example/g01350/laws.FnExactSameKeys" = some f) (hfn : Tryd.pinned.checked.prog.funcs[f]? = some fn) :
    false = Tryd.pinned.checked.prog.looks [] ∧ ∀ (j : Nat) t, fn.params[j]? = some t → Tryd.pinned.checked.prog.wantsStandIn t = false := by
  obtain rfl : f = 7 := Option.some.inj ((show Tryd.prog.funcNamed "loop.example/g01350/laws.FnExactSameKeys" = some 7 by kernel_rfl).symm.trans hf) |>.symm
  obtain rfl : fn = Tryd.f7 := (Option.some.inj (Tryd.func7.symm.trans hfn)).symm
  refine ⟨by kernel_rfl, fun j t ht => ?_⟩
  rw [Tryd.params7] at ht
  have hm := Array.mem_of_getElem? ht
  have hall : (#[9, 9].toList.all fun u => !Tryd.prog.wantsStandIn u) = true := by kernel_rfl
  exact (show Tryd.prog.wantsStandIn t = false by simpa using List.all_eq_true.1 hall t (by simpa using hm))

/-- THE CARD -/
theorem card : Rows.FnExactSameKeysCardSaid :=
  Claim7.holds_tied_plain_at .later [] _ _ _ _ said (fun _ h => by cases h) (by kernel_rfl) (fun _ h => by cases h) fnExactSameKeys_row_tie rfl ⟨rfl, rfl⟩ (by kernel_rfl) rfl plain (by kernel_rfl)
end Go.Proofs.YtfekamknnmhgpaaDoor.sameKeys
