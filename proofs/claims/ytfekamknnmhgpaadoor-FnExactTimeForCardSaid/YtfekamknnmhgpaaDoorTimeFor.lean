/- For every text and two numbers the program's TimeFor answers as its model does, the pad's table being as the program lays it. -/
import Derived.Test.YtfekamknnmhgpaaDoorCards
import Derived.Test.YtfekamknnmhgpaaDoorTie
import Derived.Test.YtfekamknnmhgpaaDoorTab
import Derived.Test.YtfekamknnmhgpaaDoorWaits
namespace Go.Proofs.YtfekamknnmhgpaaDoor.timeFor
open Go.ChangeShapes Go.WideShapes Go.ChangeAt Go.RowKit
open Go.ChangeMaps (open_string shut_string)

def okT (s : ByteArray) (p q : Int) : Bool := isW s && (inB p 0 1000 && inB q 0 1000)
def tfV (s : ByteArray) (p q : Int) : Int := if okT s p q then cntL s.data.toList * p + wN s s.size * q else 0
theorem tfV_no {s : ByteArray} {p q : Int} (h : okT s p q = false) : tfV s p q = 0 := by unfold tfV; simp [h]
theorem tfV_yes {s : ByteArray} {p q : Int} (h : okT s p q = true) : tfV s p q = cntL s.data.toList * p + wN s s.size * q := by unfold tfV; simp [h]
theorem okT_W {s : ByteArray} {p q : Int} (h : isW s = false) : okT s p q = false := by unfold okT; simp [h]
theorem okT_p {s : ByteArray} {p q : Int} (h : inB p 0 1000 = false) : okT s p q = false := by unfold okT; simp [h]
theorem okT_q {s : ByteArray} {p q : Int} (h : inB q 0 1000 = false) : okT s p q = false := by unfold okT; simp [h]
theorem okT_yes {s : ByteArray} {p q : Int} (h : isW s = true) (h1 : inB p 0 1000 = true) (h2 : inB q 0 1000 = true) : okT s p q = true := by unfold okT; simp [h, h1, h2]
theorem inB_yes {n lo hi : Int} (h1 : lo ≤ n) (h2 : n ≤ hi) : inB n lo hi = true := by simp [inB, h1, h2]
theorem inB_lo {n lo hi : Int} (h1 : n < lo) : inB n lo hi = false := by simp [inB]; omega
theorem inB_hi {n lo hi : Int} (h1 : hi < n) : inB n lo hi = false := by simp [inB]; omega
theorem inB_bd {n lo hi : Int} (h : inB n lo hi = true) : lo ≤ n ∧ n ≤ hi := by simp [inB] at h; exact h

/-- The two products stay small. -/
theorem small {s : ByteArray} {p q : Int} (h : isW s = true) (p0 : 0 ≤ p) (p1 : p ≤ 1000) (q0 : 0 ≤ q) (q1 : q ≤ 1000) :
    0 ≤ cntL s.data.toList * p ∧ cntL s.data.toList * p ≤ 160000 ∧ 0 ≤ wN s s.size * q ∧ wN s s.size * q ≤ 40000 := by
  have hz := isW_size h
  have hc := cntL_bd s.data.toList (isW_mem h)
  have hl : s.data.toList.length = s.size := by simp
  have hw := wN_bd s s.size
  refine ⟨Int.mul_nonneg hc.1 p0, ?_, Int.mul_nonneg hw.1 q0, ?_⟩
  · calc cntL s.data.toList * p ≤ 160 * 1000 := Int.mul_le_mul (by omega) p1 p0 (by decide)
      _ = 160000 := by decide
  · calc wN s s.size * q ≤ 40 * 1000 := Int.mul_le_mul (by omega) q1 q0 (by decide)
      _ = 40000 := by decide

set_option maxHeartbeats 800000 in
theorem impl_any (s : ByteArray) (p q : Int) (w : World) (hs : s.size ≤ maxLen) (hp : PadIs w) : Calls Tryd.prog 27 #[.string s, .int .i64 p, .int .i64 q] w fun e w' => e = .returned (.tuple #[.int .i64 (tfV s p q), .bool (okT s p q)]) ∧ Ext w w' := by
  cases h : isW s
  · have H := Lib.hid (okT_W (p := p) (q := q) h)
    go_enter Tryd.func27, Tryd.ntmps27
    go_wp2_with (go_at_call 25; refine (implWaits_any _ _ hs hp).mono ?_; rintro e w1 ⟨rfl, x1⟩)
    go_ret2
    exact ⟨ret_ib (tfV_no H.out).symm H.out.symm, x1⟩
  by_cases p0 : p < 0
  · have H := Lib.hid (okT_p (s := s) (q := q) (inB_lo (hi := 1000) p0))
    go_enter Tryd.func27, Tryd.ntmps27
    go_wp2_with (go_at_call 25; refine (implWaits_any _ _ hs hp).mono ?_; rintro e w1 ⟨rfl, x1⟩)
    go_ret2
    exact ⟨ret_ib (tfV_no H.out).symm H.out.symm, x1⟩
  by_cases p1 : 1000 < p
  · have H := Lib.hid (okT_p (s := s) (q := q) (inB_hi (lo := 0) p1))
    go_enter Tryd.func27, Tryd.ntmps27
    go_wp2_with (go_at_call 25; refine (implWaits_any _ _ hs hp).mono ?_; rintro e w1 ⟨rfl, x1⟩)
    go_ret2
    exact ⟨ret_ib (tfV_no H.out).symm H.out.symm, x1⟩
  by_cases q0 : q < 0
  · have H := Lib.hid (okT_q (s := s) (p := p) (inB_lo (hi := 1000) q0))
    go_enter Tryd.func27, Tryd.ntmps27
    go_wp2_with (go_at_call 25; refine (implWaits_any _ _ hs hp).mono ?_; rintro e w1 ⟨rfl, x1⟩)
    go_ret2
    exact ⟨ret_ib (tfV_no H.out).symm H.out.symm, x1⟩
  by_cases q1 : 1000 < q
  · have H := Lib.hid (okT_q (s := s) (p := p) (inB_hi (lo := 0) q1))
    go_enter Tryd.func27, Tryd.ntmps27
    go_wp2_with (go_at_call 25; refine (implWaits_any _ _ hs hp).mono ?_; rintro e w1 ⟨rfl, x1⟩)
    go_ret2
    exact ⟨ret_ib (tfV_no H.out).symm H.out.symm, x1⟩
  have H := Lib.hid (okT_yes (p := p) (q := q) h (inB_yes (by omega) (by omega)) (inB_yes (by omega) (by omega)))
  have h' := Lib.hid h
  have HW := Lib.hid (wtV_yes h)
  obtain ⟨m1, m2, m3, m4⟩ := small (p := p) (q := q) h (by omega) (by omega) (by omega) (by omega)
  go_enter Tryd.func27, Tryd.ntmps27
  go_wp2_with (first | (go_at_call 25; refine (implWaits_any _ _ hs hp).mono ?_; rintro e w1 ⟨rfl, x1⟩; rw [HW.out]) | (go_at_call 45; refine (sumOf_any _ _ h'.out (hp.ext x1)).mono ?_; rintro e w2 ⟨rfl, x2⟩))
  go_ret2
  exact ⟨ret_ib (tfV_yes H.out).symm H.out.symm, x1.trans x2⟩

set_option maxHeartbeats 800000 in
theorem spec_any (s : ByteArray) (p q : Int) (w : World) (hs : s.size ≤ maxLen) : Calls Tryd.prog 26 #[.string s, .int .i64 p, .int .i64 q] w fun e w' => e = .returned (.tuple #[.int .i64 (tfV s p q), .bool (okT s p q)]) ∧ Ext w w' := by
  cases h : isW s
  · have H := Lib.hid (okT_W (p := p) (q := q) h)
    go_enter Tryd.func26, Tryd.ntmps26
    go_wp2_with (go_at_call 36; refine (prW_any _ _ hs).mono ?_; rintro e w' ⟨rfl, rfl⟩)
    go_ret2
    exact ⟨ret_ib (tfV_no H.out).symm H.out.symm, Ext.refl _⟩
  cases h1 : inB p 0 1000
  · have H := Lib.hid (okT_p (s := s) (q := q) h1)
    go_enter Tryd.func26, Tryd.ntmps26
    go_wp2_with (first | (go_at_call 36; refine (prW_any _ _ hs).mono ?_; rintro e w' ⟨rfl, rfl⟩) | (go_at_call 49; refine (in_any _ _ _ _).mono ?_; rintro e w' ⟨rfl, rfl⟩))
    go_ret2
    exact ⟨ret_ib (tfV_no H.out).symm H.out.symm, Ext.refl _⟩
  cases h2 : inB q 0 1000
  · have H := Lib.hid (okT_q (s := s) (p := p) h2)
    go_enter Tryd.func26, Tryd.ntmps26
    go_wp2_with (first | (go_at_call 36; refine (prW_any _ _ hs).mono ?_; rintro e w' ⟨rfl, rfl⟩) | (go_at_call 49; refine (in_any _ _ _ _).mono ?_; rintro e w' ⟨rfl, rfl⟩))
    go_ret2
    exact ⟨ret_ib (tfV_no H.out).symm H.out.symm, Ext.refl _⟩
  have H := Lib.hid (okT_yes h h1 h2)
  have h' := Lib.hid h
  obtain ⟨m1, m2, m3, m4⟩ := small h (inB_bd h1).1 (inB_bd h1).2 (inB_bd h2).1 (inB_bd h2).2
  go_enter Tryd.func26, Tryd.ntmps26
  go_wp2_with (first | (go_at_call 36; refine (prW_any _ _ hs).mono ?_; rintro e w' ⟨rfl, rfl⟩) | (go_at_call 49; refine (in_any _ _ _ _).mono ?_; rintro e w' ⟨rfl, rfl⟩) | (go_at_call 43; refine (prCount_any _ _ h'.out).mono ?_; rintro e w' ⟨rfl, rfl⟩) | (go_at_call 47; refine (prWaits_any _ _ h'.out).mono ?_; rintro e w1 ⟨rfl, x1⟩))
  go_ret2
  exact ⟨ret_ib (tfV_yes H.out).symm H.out.symm, x1⟩

set_option maxHeartbeats 400000 in
theorem walk (s : ByteArray) (hs : s.size ≤ maxLen) (p : Int) (_hp1 : (Lit.int .i64 p).wf = true) (q : Int) (_hq1 : (Lit.int .i64 q).wf = true) (w : World) (hp : PadIs w) : Calls Tryd.prog 9 #[.string s, .int .i64 p, .int .i64 q] w fun e w' => e = .returned (.bool true) ∧ Ext w w' := by
  have h63 : s.size ≤ 9223372036854775807 := hs
  clear _hp1 _hq1
  go_enter Tryd.func9, Tryd.ntmps9
  go_wp2_with (first | (go_at_call 26; refine (spec_any _ _ _ _ hs).mono ?_; rintro e w1 ⟨rfl, x1⟩) | (go_at_call 27; refine (impl_any _ _ _ _ hs (hp.ext x1)).mono ?_; rintro e w2 ⟨rfl, x2⟩))
  all_goals go_ret
  all_goals exact ⟨rfl, by first | exact Ext.refl _ | exact Ext.trans (by assumption) (by assumption) | assumption⟩

theorem contract (H : Type) (enc : TypeId × Value → H) (W : World) (base : Nat) (args : Array Value) (ds gs : List (DataW H)) (before : List MemPlace)
    (hval : ∀ (j : Nat) t v, Tryd.f9.params[j]? = some t → args[j]? = some v → Value.okWide Tryd.prog W .any base t v)
    (hW : DataW.Whole enc Tryd.prog Tryd.f9.params.toList Rows.fnExactTimeForSpec.vars false W args.toList ds gs before) (hL : laidMetH Tryd.prog Rows.fnExactTimeForRow.laid W) :
    Calls Tryd.prog 9 args W fun e W' => ∃ v, e = .returned v ∧ Rows.fnExactTimeForSpec.post enc Tryd.prog Tryd.f9 false true false false W args v W' := by
  have hW' := hW
  obtain ⟨p, q, hA0, hV, rfl, hfz, hnd⟩ := hW
  have hA : DataW.TrodAll enc Tryd.prog W 0 (fun _ => true) true Tryd.f9.params.toList args.toList ds p := hA0
  rw [Tryd.params9] at hA hval
  obtain ⟨v0, vs0, d0, ds0, p0, q0, hargs0, rfl, rfl, h0, r0⟩ := trodAll_cons hA
  obtain ⟨v1, vs1, d1, ds1, p1, q1, hargs1, rfl, rfl, h1, r1⟩ := trodAll_cons r0
  obtain ⟨v2, vs2, d2, ds2, p2, q2, hargs2, rfl, rfl, h2, r2⟩ := trodAll_cons r1
  obtain ⟨rfl, rfl, rfl⟩ := trodAll_nil r2
  subst hargs2
  subst hargs1
  obtain rfl : args = #[v0, v1, v2] := Array.toList_inj.1 hargs0
  obtain ⟨s0, rfl, rfl, rfl, z0⟩ := open_string Tryd.underlying9 (hval 0 9 v0 rfl rfl) h0
  obtain ⟨s1, rfl, rfl, rfl, z1⟩ := open_int Tryd.underlying3 (hval 1 3 v1 rfl rfl) h1
  obtain ⟨s2, rfl, rfl, rfl, z2⟩ := open_int Tryd.underlying3 (hval 2 3 v2 rfl rfl) h2
  clear hA0
  refine (walk s0 z0 s1 z1 s2 z2 W (padIs_of_laid hL)).mono fun e W' ⟨he, hx⟩ => ?_
  subst he
  exact ⟨_, rfl, post_true (tb := 4) laidOut (by rw [Tryd.params9]; intro t ht; simp at ht; rcases ht with rfl | rfl <;> exact ⟨by kernel_rfl, of_decide_eq_true (by kernel_rfl)⟩) (by kernel_rfl) hW' hx (by obtain ⟨g, t, cs, fuel, d, p', rfl, _⟩ := trodVars_one hV; rfl) rfl Tryd.underlying4⟩

theorem reads (os : Os) {H : Type} (enc : TypeId × Value → H) : ∃ gs places, DataW.whole enc Tryd.prog ((laidWorld os).forCall (fun _ _ => 0) ⟨#[], #[.string ByteArray.empty, .int .i64 0, .int .i64 0], []⟩).memory Tryd.f9.params.toList Rows.fnExactTimeForSpec.vars false (#[.string ByteArray.empty, .int .i64 0, .int .i64 0] : Array Value).toList 8 = some ([.lit (.string []), .lit (.int .i64 0), .lit (.int .i64 0)], gs, places) :=
  ⟨[Rows.laid_loop_example_g01350_impl_padKeys], MemPlace.row ⟨0, 0, none⟩ 16, by kernel_rfl⟩

set_option maxRecDepth 100000 in
theorem lifted (os : Os) (started : os.Started) (H : Type) (enc : TypeId × Value → H) (F : Stop.Interp) :
    ReturnsInHanded {} Tryd.checked os 9 .any ((OpenSpec.ofChange Rows.fnExactTimeForSpec).preRow enc Tryd.prog Tryd.f9 Rows.fnExactTimeForRow.domain false Rows.fnExactTimeForRow.laid) (((OpenSpec.ofChange Rows.fnExactTimeForSpec).at F).post enc Tryd.prog Tryd.f9 false true false false) := by
  obtain ⟨gs, places, hx⟩ := reads os enc
  refine returnsInHanded_of_row (C := Tryd.checked) (s := OpenSpec.ofChange Rows.fnExactTimeForSpec) own started (by kernel_rfl) Tryd.func9
    (witness_row_at (enc := enc) (C := Tryd.checked) false (laidWorld os) #[.string ByteArray.empty, .int .i64 0, .int .i64 0] rfl (by kernel_rfl) (by kernel_rfl) (by kernel_rfl)
      (OpenSpec.preRow_of_cond 8 hx (by kernel_rfl) (fun k hk => by cases hk) (by kernel_rfl) (laid_met os _))) ?_
  intro W base args ds gs before hval hW _ _ _ hL _ _
  exact contract H enc W base args ds gs before hval hW hL

theorem said : Rows.FnExactTimeForSaid :=
  OpenClaim.holds_of_cond 9 Tryd.f9 rfl rfl rfl rfl rfl rfl rfl ⟨rfl, rfl, rfl, rfl, rfl⟩ rfl rfl rfl rfl rfl (by kernel_rfl) Tryd.func9 (by kernel_rfl)
    (of_decide_eq_true (by kernel_rfl)) (by unfold Func.isWrapper; first | (rw [if_pos (by decide +kernel)]; kernel_rfl) | (rw [if_neg (by decide +kernel)]; exact ⟨rfl, rfl⟩))
    (fun os started H enc _ F => by rw [OpenClaim.pre_eq_preRow]; exact lifted os started H enc F)

theorem plain (f : FuncId) (fn : Func) (hf : Tryd.pinned.checked.prog.funcNamed "loop.example/g01350/laws.FnExactTimeFor" = some f) (hfn : Tryd.pinned.checked.prog.funcs[f]? = some fn) :
    false = Tryd.pinned.checked.prog.looks [] ∧ ∀ (j : Nat) t, fn.params[j]? = some t → Tryd.pinned.checked.prog.wantsStandIn t = false := by
  obtain rfl : f = 9 := Option.some.inj ((show Tryd.prog.funcNamed "loop.example/g01350/laws.FnExactTimeFor" = some 9 by kernel_rfl).symm.trans hf) |>.symm
  obtain rfl : fn = Tryd.f9 := (Option.some.inj (Tryd.func9.symm.trans hfn)).symm
  refine ⟨by kernel_rfl, fun j t ht => ?_⟩
  rw [Tryd.params9] at ht
  have hm := Array.mem_of_getElem? ht
  have hall : (#[9, 3, 3].toList.all fun u => !Tryd.prog.wantsStandIn u) = true := by kernel_rfl
  exact (show Tryd.prog.wantsStandIn t = false by simpa using List.all_eq_true.1 hall t (by simpa using hm))

/-- THE CARD -/
theorem card : Rows.FnExactTimeForCardSaid :=
  Claim7.holds_tied_plain_at .later [] _ _ _ _ said (fun _ h => by cases h) (by kernel_rfl) (fun _ h => by cases h) fnExactTimeFor_row_tie rfl ⟨rfl, rfl⟩ (by kernel_rfl) rfl plain (by kernel_rfl)
end Go.Proofs.YtfekamknnmhgpaaDoor.timeFor
