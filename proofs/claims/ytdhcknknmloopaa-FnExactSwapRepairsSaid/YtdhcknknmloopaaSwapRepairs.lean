/- For every scheme, its numbers being any, and every text the program's SwapRepairs answers as its model does, in memory of its own, and leaves the scheme alone. No conditions. -/
import Derived.Test.YtdhcknknmloopaaRows
import Derived.Test.YtdhcknknmloopaaLaw
import Derived.Test.YtdhcknknmloopaaRepS
import Derived.Test.YtdhcknknmloopaaRepI
import Derived.Test.YtdhcknknmloopaaSch2
import Derived.Test.YtdhcknknmloopaaMarks
namespace Go.Proofs.Ytdhcknknmloopaa.swapRepairs
open Go.ChangeShapes Go.WideShapes Go.ChangeAt Go.RowKit
open Go.ChangeMaps (open_string shut_string)

theorem srV_len (m : Int) (zs : List Int) (s : ByteArray) : (srV m zs s).length ≤ 1048576 := by
  cases h : isNum m zs s
  · rw [srV_no h]; simp
  · rw [srV_yes h]
    have h1 := all_len (rps m zs s (zs.length - 1))
    have h2 := rps_len m zs s (zs.length - 1)
    have h3 := (isSch_bd (isNum_parts h).1).l2
    omega
theorem srV_mem (m : Int) (zs : List Int) (s : ByteArray) : ∀ t ∈ srV m zs s, t.size ≤ maxLen := by
  intro t ht
  cases h : isNum m zs s
  · rw [srV_no h] at ht; cases ht
  · rw [srV_yes h] at ht
    have h2 := (isNum_parts h).2.1
    have h3 := (isSch_bd (isNum_parts h).1).l2
    have h4 := rps_size _ (by omega) t ((putAll_mem _ t).1 ht)
    unfold maxLen
    omega

set_option maxRecDepth 100000 in
set_option maxHeartbeats 4000000 in
theorem walk (w : World) (v : Value) (m : Int) (u : Value) (zs : List Int) (hv : v = .agg #[.int .i64 m, u]) (hm : -9223372036854775808 ≤ m ∧ m ≤ 9223372036854775807) (h : IntsA w u zs) (_hz : ∀ z ∈ zs, -9223372036854775808 ≤ z ∧ z ≤ 9223372036854775807) (s1 : ByteArray) (hs1 : s1.size ≤ maxLen) : Calls Try.prog 11 #[v, .string s1] w fun e w' => e = .returned (.bool true) ∧ Ext w w' := by
  subst hv
  have h63_1 : s1.size ≤ 9223372036854775807 := hs1
  have hzl := Lib.hid (srV_len m zs s1)
  have hzm := Lib.hid (srV_mem m zs s1)
  obtain ⟨X, hX⟩ : ∃ X, X = srV m zs s1 := ⟨_, rfl⟩
  obtain ⟨ok, hok⟩ : ∃ X, X = isNum m zs s1 := ⟨_, rfl⟩
  rw [← hX] at hzl hzm
  have HP := Lib.hid (show ∀ (w : World) (v : Value) (h : IntsA w v zs), Calls Try.prog 36 #[.agg #[.int .i64 m, v], .string s1] w (ResS X ok w) from fun w v h => by rw [hX, hok]; exact srS_any m v zs s1 w h hm hs1)
  have HM := Lib.hid (show ∀ (w : World) (v : Value) (h : IntsA w v zs), Calls Try.prog 37 #[.agg #[.int .i64 m, v], .string s1] w (ResS X ok w) from fun w v h => by rw [hX, hok]; exact srI_any m v zs s1 w h hm hs1)
  have H := Lib.hid h
  have X0 := Lib.hid (show Ext w (w.alloc (.cells #[.int .i64 m, u] 24)) from (Ext.refl w).alloc _)
  clear h _hz hX hok
  by_cases hbig1 : 1048576 < s1.size
  · go_enter Try.func11, Try.ntmps11
    go_wp2
    go_ret
    exact ⟨rfl, X0.out⟩
  by_cases hbig : 1048576 < zs.length
  · go_enter Try.func11, Try.ntmps11
    go_wp2_with (go_at_call 13; refine (szSc_any m u zs _ (H.out.ext X0.out)).mono ?_; rintro e w1 ⟨rfl, x1⟩; rw [if_pos hbig])
    go_ret
    exact ⟨rfl, X0.out.trans x1⟩
  have hn : zs.length ≤ 1048576 := by omega
  go_enter Try.func11, Try.ntmps11
  go_wp2_with fail
  refine (szSc_any m u zs _ (H.out.ext X0.out)).mono ?_
  rintro e w1 ⟨rfl, x1⟩
  rw [if_neg hbig]
  have XA1 := Lib.hid x1
  obtain ⟨a1, a2⟩ := sc_cells x1
  clear x1
  go_wp2_with fail
  refine (toSc_any m u zs _ (H.out.ext (X0.out.trans XA1.out)) hn).mono ?_
  rintro e w2 ⟨u2, rfl, hu2, _, x2⟩
  have XA2 := Lib.hid (XA1.out.trans x2)
  have HU2 := Lib.hid hu2
  clear a1 a2 x2 hu2
  go_wp2_with fail
  refine (HP.out _ _ HU2.out).mono ?_
  rintro e w3 ⟨g2, rfl, r2, x3⟩
  have R2 := Lib.hid r2
  have XA3 := Lib.hid (XA2.out.trans x3)
  clear x3 r2
  obtain ⟨a1, a2⟩ := sc_cells XA3.out
  go_wp2_with fail
  refine (toSc2_any m u zs _ (H.out.ext (X0.out.trans XA3.out)) hn).mono ?_
  rintro e w4 ⟨u4, rfl, hu4, hr4, x4, g4, c4, rfl, hg4, hg4b⟩
  have HI4 := Lib.hid (hu4.ext ((Ext.refl w4).alloc (.cells #[.int .i64 m, .slice (some ⟨g4, 0, none⟩) zs.length c4] 27)))
  have HO4 := Lib.hid (hr4.ext ((Ext.refl w4).alloc (.cells #[.int .i64 m, .slice (some ⟨g4, 0, none⟩) zs.length c4] 27)))
  have X4 := Lib.hid (x4.trans ((Ext.refl w4).alloc (.cells #[.int .i64 m, .slice (some ⟨g4, 0, none⟩) zs.length c4] 27)))
  have XA4 := Lib.hid (XA3.out.trans X4.out)
  have HG4 := Lib.hid hg4
  have HG4b := Lib.hid hg4b
  clear a1 a2 x4 hu4 hr4 hg4 hg4b
  go_wp2_with fail
  refine (HM.out _ _ HI4.out).mono ?_
  rintro e w5 ⟨g5, rfl, r5, x5⟩
  have R5 := Lib.hid r5
  have X5 := Lib.hid x5
  have XA5 := Lib.hid (XA4.out.trans x5)
  clear x5 r5
  go_wp2_with fail
  refine (eqS_any _ _ _ _ (RowS.strs R5.out (by unfold maxLen; have := hzl.out; omega) hzm.out) (RowS.strs (R2.out.ext (X4.out.trans X5.out)) (by unfold maxLen; have := hzl.out; omega) hzm.out) (by have := hzl.out; omega)).mono ?_
  rintro e w6 ⟨rfl, x6⟩
  have XA6 := Lib.hid (XA5.out.trans x6)
  have X6 := Lib.hid (X5.out.trans x6)
  have x6h := Lib.hid x6
  obtain ⟨a1, a2⟩ := sc_cells XA6.out
  obtain ⟨d1, d2⟩ := sc_cells X6.out
  clear x6
  go_wp2
  go_region_with (first | (go_at_call 15; refine (toSc_any m u zs _ (H.out.ext (X0.out.trans (ext_drewN XA6.out _))) hn).mono ?_; rintro e w7 ⟨u7, rfl, hu7, _, x7⟩; have HU7 := Lib.hid hu7; have x7h := Lib.hid (Ext.trans (ext_drewN (Ext.refl w6) _) x7); have HU8 := Lib.hid ((HI4.out.ext (ext_drewN X6.out _)).ext x7); obtain ⟨d1, d2⟩ := sc_cells ((ext_drewN X6.out _).trans x7); clear x7 hu7) | (go_at_call 17; refine (eqSc_any m _ u7 zs _ HU8.out HU7.out hn).mono ?_; rintro e w8 ⟨rfl, x8⟩))
  all_goals (have X8 := Lib.hid (x7h.out.trans x8))
  all_goals clear x8 x7h HU7 HU8 d1 d2 a1 a2
  all_goals (obtain ⟨d1, d2⟩ := sc_cells (X6.out.trans X8.out))
  all_goals go_wp2_with fail
  all_goals refine (markSc_any m _ zs _ w8 (HO4.out.ext (X6.out.trans X8.out)) hn).mono ?_
  all_goals rintro e w9 ⟨rfl, hg9⟩
  all_goals (
    have Y8 := Lib.hid (X8.out.trans ((Ext.refl w8).alloc (.cells #[.int .i64 m, .slice (some ⟨g4, 0, none⟩) zs.length c4] 27)))
    have XA9 := Lib.hid (ext_grown (XA6.out.trans Y8.out) hg9 (fun j hj => by cases hj; exact Nat.le_trans XA3.out.size HG4.out))
    have S9 := Lib.hid (RowS.kept (R2.out.ext (X4.out.trans (X6.out.trans Y8.out))) hg9 (R2.out.apart g4 (.inr HG4.out)))
    have G9 := Lib.hid (RowS.kept (R5.out.ext (x6h.out.trans Y8.out)) hg9 (R5.out.apart g4 (.inl (Nat.lt_of_lt_of_le HG4b.out (by simp)))))
    clear hg9 d1 d2
    go_wp2_with fail
    refine (eqS_any _ _ _ _ (RowS.strs G9.out (by unfold maxLen; have := hzl.out; omega) hzm.out) (RowS.strs S9.out (by unfold maxLen; have := hzl.out; omega) hzm.out) (by have := hzl.out; omega)).mono ?_
    rintro e w10 ⟨rfl, x10⟩
    have XA10 := Lib.hid (XA9.out.trans x10)
    go_wp2_with fail
    refine (markR_any _ _ _ _ (G9.out.ext x10) (by have := hzl.out; omega)).mono ?_
    rintro e w11 ⟨rfl, m11, hg11⟩
    have M11 := Lib.hid m11
    have XA11 := Lib.hid (ext_grown XA10.out hg11 (fun j hj => Nat.le_trans XA4.out.size (R5.out.own_le j hj)))
    have S11 := Lib.hid (RowS.kept (S9.out.ext x10) hg11 (R2.out.apart2 R5.out X4.out.size))
    clear m11 hg11 x10
    go_wp2_with fail
    refine (heldR_any _ _ _ _ M11.out (by have := hzl.out; omega)).mono ?_
    rintro e w12 ⟨rfl, x12⟩
    have XA12 := Lib.hid (XA11.out.trans x12)
    have x12h := Lib.hid x12
    obtain ⟨a1, a2⟩ := sc_cells XA12.out
    clear x12
    go_wp2_with fail
    refine (toSc_any m u zs _ (H.out.ext (X0.out.trans XA12.out)) hn).mono ?_
    rintro e w13 ⟨u13, rfl, hu13, _, x13⟩
    have HU13 := Lib.hid hu13
    have XA13 := Lib.hid (XA12.out.trans x13)
    have Y13 := Lib.hid (x12h.out.trans x13)
    clear a1 a2 hu13 x13
    go_wp2_with fail
    refine (HM.out _ _ HU13.out).mono ?_
    rintro e w14 ⟨g14, rfl, r14, x14⟩
    have R14 := Lib.hid r14
    have XA14 := Lib.hid (XA13.out.trans x14)
    have Y14 := Lib.hid (Y13.out.trans x14)
    clear r14 x14
    go_wp2_with fail
    refine (eqS_any _ _ _ _ (RowS.strs R14.out (by unfold maxLen; have := hzl.out; omega) hzm.out) (RowS.strs (S11.out.ext Y14.out) (by unfold maxLen; have := hzl.out; omega) hzm.out) (by have := hzl.out; omega)).mono ?_
    rintro e w15 ⟨rfl, x15⟩
    have XA15 := Lib.hid (XA14.out.trans x15)
    have Y15 := Lib.hid (Y14.out.trans x15)
    clear x15
    go_wp2_with fail
    refine (heldR_any _ _ _ _ (M11.out.ext Y15.out) (by have := hzl.out; omega)).mono ?_
    rintro e w16 ⟨rfl, x16⟩
    go_wp2_with fail
    go_ret
    exact ⟨rfl, X0.out.trans (XA15.out.trans x16)⟩)

set_option maxRecDepth 100000 in
theorem contract (H : Type) (enc : TypeId × Value → H) (W : World) (base : Nat) (args : Array Value) (ds gs : List (DataW H)) (before : List MemPlace)
    (hval : ∀ (j : Nat) t v, Try.f11.params[j]? = some t → args[j]? = some v → Value.okWide Try.prog W .any base t v)
    (hW : DataW.Whole enc Try.prog Try.f11.params.toList Rows.fnExactSwapRepairsSpec.vars false W args.toList ds gs before) :
    Calls Try.prog 11 args W fun e W' => ∃ v, e = .returned v ∧ Rows.fnExactSwapRepairsSpec.post enc Try.prog Try.f11 false true false false W args v W' := by
  have hW' := hW
  obtain ⟨p, q, hA0, hV, rfl, hfz, hnd⟩ := hW
  have hA : DataW.TrodAll enc Try.prog W 0 (fun _ => true) true Try.f11.params.toList args.toList ds p := hA0
  rw [Try.params11] at hA hval
  obtain ⟨v0, vs0, d0, ds0, p0, q0, hargs0, rfl, rfl, h0, r0⟩ := trodAll_cons hA
  obtain ⟨v1, vs1, d1, ds1, p1, q1, hargs1, rfl, rfl, h1, r1⟩ := trodAll_cons r0
  obtain ⟨rfl, rfl, rfl⟩ := trodAll_nil r1
  subst hargs1
  obtain rfl : args = #[v0, v1] := Array.toList_inj.1 hargs0
  obtain ⟨m0, u0, zs0, hv0, hm0, hi0, hz0⟩ := sch_of (hval 0 24 v0 rfl rfl) h0
  obtain ⟨s1, rfl, rfl, rfl, z1⟩ := open_string Try.underlying9 (hval 1 9 v1 rfl rfl) h1
  clear hA0
  refine (walk W v0 m0 u0 zs0 hv0 hm0 hi0 hz0 s1 z1).mono fun e W' ⟨he, hx⟩ => ?_
  subst he
  exact ⟨_, rfl, post_true (tb := 4) laidOut (by rw [Try.params11]; intro t ht; simp at ht; rcases ht with rfl | rfl <;> exact ⟨by kernel_rfl, of_decide_eq_true (by kernel_rfl)⟩) (by kernel_rfl) hW' hx (by obtain ⟨rfl, rfl⟩ := trodVars_none hV; rfl) rfl Try.underlying4⟩

set_option maxRecDepth 100000 in
theorem lifted (os : Os) (started : os.Started) (H : Type) (enc : TypeId × Value → H) :
    ReturnsInHanded {} Try.checked os 11 .any (Rows.fnExactSwapRepairsSpec.pre6 enc Try.prog Try.f11 Rows.fnExactSwapRepairsRow.domain false) (Rows.fnExactSwapRepairsSpec.post enc Try.prog Try.f11 false true false false) := by
  refine returnsInHanded_of_change (C := Try.checked) own started (by kernel_rfl) Try.func11
    (ChangeSpec.witness6 (enc := enc) (C := Try.checked) false ⟨#[], #[.agg #[.int .i64 0, .slice none 0 0], .string ByteArray.empty], []⟩ 8 (by kernel_rfl) (by kernel_rfl) (by kernel_rfl) (by kernel_rfl)) ?_
  intro W base args ds gs before hval hW _ _
  exact contract H enc W base args ds gs before hval hW

theorem said : Rows.FnExactSwapRepairsSaid :=
  OpenClaim.holds_of_wide 11 Try.f11 rfl rfl rfl rfl rfl rfl rfl ⟨rfl, rfl, rfl, rfl, rfl⟩ rfl rfl rfl rfl rfl (by kernel_rfl) Try.func11 (by kernel_rfl)
    (of_decide_eq_true (by kernel_rfl)) (by unfold Func.isWrapper; first | (rw [if_pos (by decide +kernel)]; kernel_rfl) | (rw [if_neg (by decide +kernel)]; exact ⟨rfl, rfl⟩))
    (fun os started H enc _ => lifted os started H enc)
end Go.Proofs.Ytdhcknknmloopaa.swapRepairs
