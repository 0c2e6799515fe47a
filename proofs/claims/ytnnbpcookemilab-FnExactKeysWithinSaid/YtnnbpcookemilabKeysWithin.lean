/- For every key, number and kind of distance the program's KeysWithin answers as its model does. No conditions. -/
import Derived.Test.YtnnbpcookemilabRows
import Derived.Test.YtnnbpcookemilabLaw
import Derived.Test.YtnnbpcookemilabGrow
namespace Go.Proofs.Ytnnbpcookemilab.keysWithin
open Go.ChangeShapes Go.WideShapes Go.ChangeAt Go.RowKit
open Go.ChangeMaps (open_string shut_string)

def kwOk (s : ByteArray) (f : Int) : Bool := oneD s && inB f 0 10
def kwV (s : ByteArray) (f : Int) (c : Bool) : ByteArray := if kwOk s f then kT (nr c (p1 s) f 12) else ⟨#[]⟩
theorem kwV_no {s : ByteArray} {f : Int} {c : Bool} (h : kwOk s f = false) : kwV s f c = ⟨#[]⟩ := by unfold kwV; rw [h]; rfl
theorem kwV_yes {s : ByteArray} {f : Int} {c : Bool} (h : kwOk s f = true) : kwV s f c = kT (nr c (p1 s) f 12) := by unfold kwV; rw [h]; rfl
theorem kwOk_no1 {s : ByteArray} {f : Int} (h : oneD s = false) : kwOk s f = false := by unfold kwOk; rw [h]; rfl
theorem kwOk_no2 {s : ByteArray} {f : Int} (h : inB f 0 10 = false) : kwOk s f = false := by unfold kwOk; rw [h, Bool.and_false]
theorem kwOk_yes {s : ByteArray} {f : Int} (h : oneD s = true) (h2 : inB f 0 10 = true) : kwOk s f = true := by unfold kwOk; rw [h, h2]; rfl
theorem inB_yes {f : Int} (h : 0 ≤ f) (h2 : f ≤ 10) : inB f 0 10 = true := by simp [inB, h, h2]
theorem inB_no {f : Int} (h : f < 0 ∨ 10 < f) : inB f 0 10 = false := by
  simp [inB]; omega

set_option maxHeartbeats 2000000 in
theorem impl_any (s : ByteArray) (f : Int) (c : Bool) (w : World) (hs : s.size ≤ maxLen) : Calls Try.prog 10 #[.string s, .int .i64 f, .bool c] w fun e w' => e = .returned (.tuple #[.string (kwV s f c), .bool (kwOk s f)]) ∧ Ext w w' := by
  cases h : oneD s
  · have HO := Lib.hid (kwOk_no1 (f := f) h)
    have HV := Lib.hid (kwV_no (c := c) HO.out)
    go_enter Try.func10, Try.ntmps10
    go_wp2_with (go_at_call 22; refine (dialKey_any _ _ hs).mono ?_; rintro e w' ⟨rfl, rfl⟩; rw [h])
    go_ret2
    exact ⟨by rw [HV.out, HO.out]; rfl, Ext.refl _⟩
  by_cases h1 : f < 0
  · have HO := Lib.hid (kwOk_no2 (s := s) (inB_no (.inl h1)))
    have HV := Lib.hid (kwV_no (c := c) HO.out)
    go_enter Try.func10, Try.ntmps10
    go_wp2_with (go_at_call 22; refine (dialKey_any _ _ hs).mono ?_; rintro e w' ⟨rfl, rfl⟩; rw [h])
    go_ret2
    exact ⟨by rw [HV.out, HO.out]; rfl, Ext.refl _⟩
  by_cases h2 : 10 < f
  · have HO := Lib.hid (kwOk_no2 (s := s) (inB_no (.inr h2)))
    have HV := Lib.hid (kwV_no (c := c) HO.out)
    go_enter Try.func10, Try.ntmps10
    go_wp2_with (go_at_call 22; refine (dialKey_any _ _ hs).mono ?_; rintro e w' ⟨rfl, rfl⟩; rw [h])
    go_ret2
    exact ⟨by rw [HV.out, HO.out]; rfl, Ext.refl _⟩
  have HO := Lib.hid (kwOk_yes h (inB_yes (by omega) (by omega : f ≤ 10)))
  have HV := Lib.hid (kwV_yes (c := c) HO.out)
  obtain ⟨x, hx⟩ : ∃ x, x = p1 s := ⟨_, rfl⟩
  have hx12 : x < 12 := by rw [hx]; exact p1_lt s
  rw [← hx] at HV
  have cP : ∀ w, Calls Try.prog 24 #[.string s] w fun e w' => e = .returned (.int .i64 (x : Nat)) ∧ w = w' := fun w => by rw [hx]; exact place1_any s w h
  clear hx
  obtain ⟨i0, hi, hz0, hzs, hzb⟩ := info_parts info_intP
  have HI := Lib.hid (show Try.prog.info? 3 = some i0 ∧ i0.zero = some (.int .i64 0) ∧ i0.size = 1 ∧ i0.bytes = 8 from ⟨hi, hz0, hzs, hzb⟩)
  clear hi hz0 hzs hzb
  go_enter Try.func10, Try.ntmps10
  go_wp2_with (go_at_call 22; refine (dialKey_any _ _ hs).mono ?_; rintro e w' ⟨rfl, rfl⟩; rw [h])
  go_loopw [8, 21] (fun v i wr => ∃ k : Nat, k ≤ 12 ∧ i = .int .i64 k ∧ RowP w.heap.size wr v (nr c x f k) ∧ Ext w wr) (fun _ i _ => 12 - (intOf i).toNat)
  case atStart => exact ⟨0, Nat.zero_le _, rfl, RowP.nil _ _, Ext.refl _⟩
  case round =>
    obtain ⟨k, hk, rfl, hr, hx⟩ := hrel
    have HR := Lib.hid hr
    have hlen := nr_len c x f k
    clear hr
    by_cases hlt : k < 12
    · by_cases hf : (far c x k : Int) ≤ f
      · have HN := Lib.hid (nr_yes c x f k hf)
        go_wp2_with (first | (go_at_call 24; refine (cP _).mono ?_; rintro e w' ⟨rfl, rfl⟩) | (go_at_call 23; refine (pdist_any _ _ _ _ (by assumption) (by assumption)).mono ?_; rintro e w' ⟨rfl, rfl⟩) | (at_builtin; refine wpList_append_own _ rfl _ _ 34 rfl w.heap.size 3 i0 (.int .i64 0) 1 8 Try.underlying34 HI.out.1 HI.out.2.1 HI.out.2.2.1 HI.out.2.2.2 rfl (by decide) _ _ _ rfl (World.ownsRow.alloc HR.out _) ⟨wr.heap.size, 0, none⟩ 1 1 [.int .i64 (k : Int)] rfl rfl (cell_one_new _ _ _) (oneIP _) (by unfold maxLen; omega) (by omega) (by have := hx.size; simp; omega) ?_; intro v' w5 hown' hgr' _))
        have R := Lib.hid (show RowP w.heap.size w5 v' (nr c x f (k + 1)) by rw [HN.out]; exact RowP.grown hown')
        have X : Ext w w5 := ext_grown (hx.alloc _) hgr' (fun j hj => HR.out.own_le j hj)
        clear hown' hgr'
        go_wp2
        go_roundw
        case rel => exact ⟨k + 1, by omega, by go_num, R.out, X⟩
        case measure => simp [intOf]; omega
      · have HN := Lib.hid (nr_no c x f k hf)
        go_wp2_with (first | (go_at_call 24; refine (cP _).mono ?_; rintro e w' ⟨rfl, rfl⟩) | (go_at_call 23; refine (pdist_any _ _ _ _ (by assumption) (by assumption)).mono ?_; rintro e w' ⟨rfl, rfl⟩))
        go_roundw
        case rel => exact ⟨k + 1, by omega, by go_num, by rw [HN.out]; exact HR.out, hx⟩
        case measure => simp [intOf]; omega
    · obtain rfl : k = 12 := by omega
      have HP := Lib.hid (HR.out.ps (by unfold maxLen; omega))
      have HL := Lib.hid (nr_lt c x f 12 (Nat.le_refl _))
      go_wp2_with (go_at_call 25; refine (keysAt_any _ _ _ HP.out HL.out (by omega)).mono ?_; rintro e w2 ⟨rfl, x2⟩)
      go_ret2
      exact ⟨by rw [HV.out, HO.out]; rfl, hx.trans x2⟩

set_option maxHeartbeats 2000000 in
theorem spec_any (s : ByteArray) (f : Int) (c : Bool) (w : World) (hs : s.size ≤ maxLen) : Calls Try.prog 9 #[.string s, .int .i64 f, .bool c] w fun e w' => e = .returned (.tuple #[.string (kwV s f c), .bool (kwOk s f)]) ∧ Ext w w' := by
  cases h : oneD s
  · have HO := Lib.hid (kwOk_no1 (f := f) h)
    have HV := Lib.hid (kwV_no (c := c) HO.out)
    go_enter Try.func9, Try.ntmps9
    go_wp2_with (first | (go_at_call 20; refine (thOne_any _ _ hs).mono ?_; rintro e w' ⟨rfl, rfl⟩; rw [h]) | (go_at_call 21; refine (in_any _ _ _ _).mono ?_; rintro e w' ⟨rfl, rfl⟩))
    go_ret2
    exact ⟨by rw [HV.out, HO.out]; rfl, Ext.refl _⟩
  cases h2 : inB f 0 10
  · have HO := Lib.hid (kwOk_no2 (s := s) h2)
    have HV := Lib.hid (kwV_no (c := c) HO.out)
    go_enter Try.func9, Try.ntmps9
    go_wp2_with (first | (go_at_call 20; refine (thOne_any _ _ hs).mono ?_; rintro e w' ⟨rfl, rfl⟩; rw [h]) | (go_at_call 21; refine (in_any _ _ _ _).mono ?_; rintro e w' ⟨rfl, rfl⟩; rw [h2]))
    go_ret2
    exact ⟨by rw [HV.out, HO.out]; rfl, Ext.refl _⟩
  have HO := Lib.hid (kwOk_yes h h2)
  have HV := Lib.hid (kwV_yes (c := c) HO.out)
  have g1 := oneD_get h
  have e1 := Lib.hid (p1_get h)
  have k1 := oneD_size h
  have i1 : 0 < s.size := by omega
  have z1 : ∀ w, (Instr.index 9 (.string s) (.int .i64 0)).run Try.prog w = .ok (.int .u8 (s[0]'i1).toNat) w := fun w => ixS0 s i1 w
  obtain ⟨b0, hb0⟩ : ∃ b, b = s[0]'i1 := ⟨_, rfl⟩
  rw [← hb0] at z1 g1 e1
  clear hb0
  have hit0 : (w.iter ⟨#[49, 50, 51, 52, 53, 54, 55, 56, 57, 42, 48, 35]⟩ 0).heap[w.heap.size]? = some (.stringIter ⟨#[49, 50, 51, 52, 53, 54, 55, 56, 57, 42, 48, 35]⟩ 0) := World.iter_heap _ _ _
  have hx0 : Ext w (w.iter ⟨#[49, 50, 51, 52, 53, 54, 55, 56, 57, 42, 48, 35]⟩ 0) := Below.alloc (Ext.refl _) (Nat.le_refl _) _
  go_enter Try.func9, Try.ntmps9
  go_wp2_with (first | (go_at_call 20; refine (thOne_any _ _ hs).mono ?_; rintro e w' ⟨rfl, rfl⟩; rw [h]) | (go_at_call 21; refine (in_any _ _ _ _).mono ?_; rintro e w' ⟨rfl, rfl⟩; rw [h2]))
  obtain ⟨K, hK⟩ : ∃ K, K = w.heap.size := ⟨_, rfl⟩
  have hKw : w.heap.size ≤ K := by omega
  rw [← hK] at hit0 ⊢
  clear hK
  go_loopw [8] (fun o wr => ∃ p : Nat, p ≤ 12 ∧ o = .string (kT (nr c (p1 s) f p)) ∧ wr.heap[K]? = some (.stringIter ⟨#[49, 50, 51, 52, 53, 54, 55, 56, 57, 42, 48, 35]⟩ p) ∧ Ext w wr) (fun _ wr => 12 - wr.iterPos K)
  case atStart => exact ⟨0, Nat.zero_le _, rfl, hit0, hx0⟩
  case round =>
    obtain ⟨p, hp, rfl, hit, hx⟩ := hrel
    by_cases hlt : p < 12
    · have hpS : p < (⟨#[49, 50, 51, 52, 53, 54, 55, 56, 57, 42, 48, 35]⟩ : ByteArray).size := hlt
      have hnx := fun ty => Lib.run_next_ascii_at (P := Try.prog) wr K _ p ty hit hpS (padAscii p hpS)
      have hit2 := Lib.iterAt_heap wr K _ p (p + 1) hit
      have hx1 := ext_iterP hx hKw ⟨#[49, 50, 51, 52, 53, 54, 55, 56, 57, 42, 48, 35]⟩ (p + 1)
      have kp := padK p hpS
      have ip : ∀ w, (Instr.index 9 (.string ⟨#[49, 50, 51, 52, 53, 54, 55, 56, 57, 42, 48, 35]⟩) (.int .i64 (p : Int))).run Try.prog w = .ok (.int .u8 ((⟨#[49, 50, 51, 52, 53, 54, 55, 56, 57, 42, 48, 35]⟩ : ByteArray)[p]'hpS).toNat) w := fun w => ixS _ p hpS w
      obtain ⟨bp, hbp⟩ : ∃ b, b = (⟨#[49, 50, 51, 52, 53, 54, 55, 56, 57, 42, 48, 35]⟩ : ByteArray)[p]'hpS := ⟨_, rfl⟩
      rw [← hbp] at kp ip hnx
      have kp2 := Lib.hid kp.2
      have kp1 := kp.1
      clear kp hbp
      have hp1 : p + 1 ≤ (⟨#[49, 50, 51, 52, 53, 54, 55, 56, 57, 42, 48, 35]⟩ : ByteArray).size := hlt
      have hp12 : p ≤ 12 := hp
      have hKs : (kB p).size = 1 := kB_size p hlt
      have ekB : (⟨#[49, 50, 51, 52, 53, 54, 55, 56, 57, 42, 48, 35]⟩ : ByteArray).extract p (p + 1) = kB p := rfl
      have hTl := nr_len c (p1 s) f p
      have hTs : (kT (nr c (p1 s) f p)).size ≤ 12 := by rw [kT_size]; omega
      by_cases hf : (far c (p1 s) p : Int) ≤ f
      · have HN := Lib.hid (show kT (nr c (p1 s) f (p + 1)) = kT (nr c (p1 s) f p) ++ kB p by rw [nr_yes _ _ _ _ hf, kT_snoc _ _ hlt])
        have hle : (far c (pn b0) (pn bp) : Int) ≤ f := by rw [e1.out, kp2.out]; exact hf
        have hd : decide ((far c (pn b0) (pn bp) : Int) ≤ f) = true := decide_eq_true hle
        obtain ⟨T, hT⟩ : ∃ T, T = kT (nr c (p1 s) f p) := ⟨_, rfl⟩
        rw [← hT] at HN hTs ⊢
        clear hT hf
        go_wp2
        go_quiet (first | (exact Calls.quiet_of_same ((thFar_any _ _ _ _ (by assumption) (by assumption)).mono fun e w' h => ⟨h.1, h.2.symm⟩)))
        go_wp2
        refine ⟨⟨p + 1, by omega, by rw [HN.out], iter_extP hit2 (ext_drewN (Ext.refl _) _), ext_drewN hx1 _⟩, ?_⟩
        simp only [World.iterPos, iter_extP hit2 (ext_drewN (Ext.refl _) _), hit]
        omega
      · have HN := Lib.hid (nr_no _ _ _ _ hf)
        have hle : ¬ (far c (pn b0) (pn bp) : Int) ≤ f := by rw [e1.out, kp2.out]; exact hf
        have hd : decide ((far c (pn b0) (pn bp) : Int) ≤ f) = false := decide_eq_false hle
        obtain ⟨T, hT⟩ : ∃ T, T = kT (nr c (p1 s) f p) := ⟨_, rfl⟩
        have HT := Lib.hid hT
        rw [← hT] at hTs ⊢
        clear hT hf
        go_wp2
        go_quiet (first | (exact Calls.quiet_of_same ((thFar_any _ _ _ _ (by assumption) (by assumption)).mono fun e w' h => ⟨h.1, h.2.symm⟩)))
        go_wp2
        refine ⟨⟨p + 1, by omega, by rw [HN.out, HT.out], iter_extP hit2 (ext_drewN (Ext.refl _) _), ext_drewN hx1 _⟩, ?_⟩
        simp only [World.iterPos, iter_extP hit2 (ext_drewN (Ext.refl _) _), hit]
        omega
    · have hnx := fun ty => Lib.run_next_end_at (P := Try.prog) wr K _ p ty hit (show ¬ p < (⟨#[49, 50, 51, 52, 53, 54, 55, 56, 57, 42, 48, 35]⟩ : ByteArray).size from hlt)
      obtain rfl : p = 12 := by omega
      go_wp2
      go_ret2
      exact ⟨by rw [HV.out, HO.out]; rfl, hx⟩

set_option maxHeartbeats 1000000 in
theorem walk (s0 : ByteArray) (hs0 : s0.size ≤ maxLen) (s1 : Int) (_hs1 : (Lit.int .i64 s1).wf = true) (s2 : Bool) (w : World) : Calls Try.prog 4 #[.string s0, .int .i64 s1, .bool s2] w fun e w' => e = .returned (.bool true) ∧ Ext w w' := by
  have h63_0 : s0.size ≤ 9223372036854775807 := hs0
  obtain ⟨X0, hX0⟩ : ∃ X, X = (kwV s0 s1 s2) := ⟨_, rfl⟩
  obtain ⟨ok, hok⟩ : ∃ X, X = (kwOk s0 s1) := ⟨_, rfl⟩
  have HP := Lib.hid (show ∀ w, Calls Try.prog 9 #[.string s0, .int .i64 s1, .bool s2] w fun e w' => e = .returned (.tuple #[.string X0, .bool ok]) ∧ Ext w w' from fun w => by rw [hX0, hok]; exact spec_any s0 s1 s2 w hs0 )
  have HM := Lib.hid (show ∀ w, Calls Try.prog 10 #[.string s0, .int .i64 s1, .bool s2] w fun e w' => e = .returned (.tuple #[.string X0, .bool ok]) ∧ Ext w w' from fun w => by rw [hX0, hok]; exact impl_any s0 s1 s2 w hs0 )
  clear hX0 hok
  by_cases hbig0 : 1048576 < s0.size
  · go_enter Try.func4, Try.ntmps4
    go_wp2
    go_ret
    exact ⟨rfl, Ext.refl _⟩
  go_enter Try.func4, Try.ntmps4
  go_wp2_with fail
  refine (HP.out _).mono ?_
  rintro e w1 ⟨rfl, x1⟩
  go_wp2_with fail
  refine (HM.out _).mono ?_
  rintro e w2 ⟨rfl, x2⟩
  go_wp2
  go_ret
  exact ⟨rfl, x1.trans x2⟩

set_option maxRecDepth 100000 in
theorem contract (H : Type) (enc : TypeId × Value → H) (W : World) (base : Nat) (args : Array Value) (ds gs : List (DataW H)) (before : List MemPlace)
    (hval : ∀ (j : Nat) t v, Try.f4.params[j]? = some t → args[j]? = some v → Value.okWide Try.prog W .any base t v)
    (hW : DataW.Whole enc Try.prog Try.f4.params.toList Rows.fnExactKeysWithinSpec.vars false W args.toList ds gs before) :
    Calls Try.prog 4 args W fun e W' => ∃ v, e = .returned v ∧ Rows.fnExactKeysWithinSpec.post enc Try.prog Try.f4 false true false false W args v W' := by
  have hW' := hW
  obtain ⟨p, q, hA0, hV, rfl, hfz, hnd⟩ := hW
  have hA : DataW.TrodAll enc Try.prog W 0 (fun _ => true) true Try.f4.params.toList args.toList ds p := hA0
  rw [Try.params4] at hA hval
  obtain ⟨v0, vs0, d0, ds0, p0, q0, hargs0, rfl, rfl, h0, r0⟩ := trodAll_cons hA
  obtain ⟨v1, vs1, d1, ds1, p1, q1, hargs1, rfl, rfl, h1, r1⟩ := trodAll_cons r0
  obtain ⟨v2, vs2, d2, ds2, p2, q2, hargs2, rfl, rfl, h2, r2⟩ := trodAll_cons r1
  obtain ⟨rfl, rfl, rfl⟩ := trodAll_nil r2
  subst hargs2
  subst hargs1
  obtain rfl : args = #[v0, v1, v2] := Array.toList_inj.1 hargs0
  obtain ⟨s0, rfl, rfl, rfl, z0⟩ := open_string Try.underlying9 (hval 0 9 v0 rfl rfl) h0
  obtain ⟨s1, rfl, rfl, rfl, z1⟩ := open_int Try.underlying3 (hval 1 3 v1 rfl rfl) h1
  obtain ⟨s2, rfl, rfl, rfl⟩ := open_bool Try.underlying4 (hval 2 4 v2 rfl rfl) h2
  clear hA0
  refine (walk s0 z0 s1 z1 s2 W).mono fun e W' ⟨he, hx⟩ => ?_
  subst he
  exact ⟨_, rfl, post_true (tb := 4) laidOut (by rw [Try.params4]; intro t ht; simp at ht; rcases ht with rfl | rfl | rfl <;> exact ⟨by kernel_rfl, of_decide_eq_true (by kernel_rfl)⟩) (by kernel_rfl) hW' hx (by obtain ⟨rfl, rfl⟩ := trodVars_none hV; rfl) rfl Try.underlying4⟩

set_option maxRecDepth 100000 in
theorem lifted (os : Os) (started : os.Started) (H : Type) (enc : TypeId × Value → H) :
    ReturnsInHanded {} Try.checked os 4 .any (Rows.fnExactKeysWithinSpec.pre6 enc Try.prog Try.f4 Rows.fnExactKeysWithinRow.domain false) (Rows.fnExactKeysWithinSpec.post enc Try.prog Try.f4 false true false false) := by
  refine returnsInHanded_of_change (C := Try.checked) own started (by kernel_rfl) Try.func4
    (ChangeSpec.witness6 (enc := enc) (C := Try.checked) false ⟨#[], #[.string ByteArray.empty, .int .i64 0, .bool false], []⟩ 8 (by kernel_rfl) (by kernel_rfl) (by kernel_rfl) (by kernel_rfl)) ?_
  intro W base args ds gs before hval hW _ _
  exact contract H enc W base args ds gs before hval hW

theorem said : Rows.FnExactKeysWithinSaid :=
  OpenClaim.holds_of_wide 4 Try.f4 rfl rfl rfl rfl rfl rfl rfl ⟨rfl, rfl, rfl, rfl, rfl⟩ rfl rfl rfl rfl rfl (by kernel_rfl) Try.func4 (by kernel_rfl)
    (of_decide_eq_true (by kernel_rfl)) (by unfold Func.isWrapper; first | (rw [if_pos (by decide +kernel)]; kernel_rfl) | (rw [if_neg (by decide +kernel)]; exact ⟨rfl, rfl⟩))
    (fun os started H enc _ => lifted os started H enc)
end Go.Proofs.Ytnnbpcookemilab.keysWithin
