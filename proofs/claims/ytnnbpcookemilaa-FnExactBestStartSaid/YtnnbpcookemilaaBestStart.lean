/- For every keys and kind of distance the program's BestStart answers as its model does. No conditions. -/
import Derived.Test.YtnnbpcookemilaaRows
import Derived.Test.YtnnbpcookemilaaLaw
import Derived.Test.YtnnbpcookemilaaSteps
namespace Go.Proofs.Ytnnbpcookemilaa.bestStart
open Go.ChangeShapes Go.WideShapes Go.ChangeAt Go.RowKit
open Go.ChangeMaps (open_string shut_string)

def bsK (s : ByteArray) : ByteArray := if isD s then kB (stP (plcs s)) else ⟨#[]⟩
def bsN (s : ByteArray) (c : Bool) : Int := (if isD s then wlk c (stP (plcs s)) (plcs s) else 0 : Nat)
theorem bsK_no {s : ByteArray} (h : isD s = false) : bsK s = ⟨#[]⟩ := by unfold bsK; rw [h]; rfl
theorem bsK_yes {s : ByteArray} (h : isD s = true) : bsK s = kB (stP (plcs s)) := by unfold bsK; rw [h]; rfl
theorem bsN_no {s : ByteArray} {c : Bool} (h : isD s = false) : bsN s c = 0 := by unfold bsN; rw [h]; rfl
theorem bsN_yes {s : ByteArray} {c : Bool} (h : isD s = true) : bsN s c = (wlk c (stP (plcs s)) (plcs s) : Nat) := by unfold bsN; rw [h]; rfl
theorem stP_lt (s : ByteArray) : stP (plcs s) < 12 := by
  have := plcs_lt s
  cases h : plcs s with
  | nil => decide
  | cons q l => rw [h] at this; exact this q (by simp)

set_option maxHeartbeats 1000000 in
theorem impl_any (s : ByteArray) (c : Bool) (w : World) (hs : s.size ≤ maxLen) : Calls Try.prog 34 #[.string s, .bool c] w fun e w' => e = .returned (.tuple #[.string (bsK s), .int .i64 (bsN s c), .bool (isD s)]) ∧ Ext w w' := by
  cases h : isD s
  · have HV := Lib.hid (bsN_no (c := c) h)
    have HK := Lib.hid (bsK_no h)
    go_enter Try.func34, Try.ntmps34
    go_wp2_with (go_at_call 16; refine (isD_any _ _ hs).mono ?_; rintro e w' ⟨rfl, rfl⟩; rw [h])
    go_ret3
    exact ⟨by rw [HV.out, HK.out]; rfl, Ext.refl _⟩
  · have HV := Lib.hid (bsN_yes (c := c) h)
    have HK := Lib.hid (bsK_yes h)
    have hp := stP_lt s
    have HPL := Lib.hid (plcs_lt s)
    have h30 : (plcs s).length ≤ 30 := by rw [plcs_len]; exact isD_size h
    have h1000 : (plcs s).length ≤ 1000 := by omega
    have hml : (plcs s).length ≤ maxLen := by unfold maxLen; omega
    obtain ⟨ps, hps⟩ : ∃ ps, ps = plcs s := ⟨_, rfl⟩
    rw [← hps] at HV HK hp HPL h30 h1000 hml
    have HPS := Lib.hid hps
    clear hps
    go_enter Try.func34, Try.ntmps34
    go_wp2_with (go_at_call 16; refine (isD_any _ _ hs).mono ?_; rintro e w' ⟨rfl, rfl⟩; rw [h])
    refine (placesOf_any s w h).mono ?_
    rintro e w1 ⟨v, rfl, hv, x1⟩
    rw [← HPS.out] at hv
    have HV1 := Lib.hid hv
    obtain ⟨a, cap, hvs⟩ := hv.shape
    clear hv
    rw [hvs] at HV1 ⊢
    clear hvs HPS
    have harm := fun (p : Nat) (w : World) (h : p < 12) => keyAt_any p w h
    cases ps with
    | nil =>
      go_wp2_with (go_at_call 63; refine (keyAt_any 0 _ (by decide)).mono ?_; rintro e w' ⟨rfl, rfl⟩)
      refine (walkWith_any c _).mono ?_
      rintro e w2 ⟨f, rfl, hf, x2⟩
      obtain ⟨C, rfl, hC, hcC⟩ := hf
      have hP := Lib.hid ((RowP.ps HV1.out hml).ext x2)
      go_wp2_with fail
      refine (wlk_any _ _ _ C c w2 hP.out hC hcC hp HPL.out h1000).mono ?_
      rintro e w4 ⟨rfl, x4⟩
      go_wp2
      go_ret3
      exact ⟨by rw [HV.out, HK.out]; rfl, (x1.trans x2).trans x4⟩
    | cons q l =>
      obtain ⟨g, ha, hb, hg, hc0, hf0⟩ := HV1.out.at 0 (Nat.zero_lt_succ _)
      subst ha
      have hc1 : w1.cell? ⟨g, 0, none⟩ = some (.int .i64 (q : Int)) := hc0
      have hlen : ((q :: l).length : Int) > 0 := by simp
      have hlen2 : (0 : Int) < ((q :: l).length : Int) := hlen
      have hq : q < 12 := hp
      clear hc0
      obtain ⟨L, hL⟩ : ∃ L, L = (q :: l).length := ⟨_, rfl⟩
      have HLL := Lib.hid hL
      rw [← hL] at HV1 hlen hlen2 ⊢
      rw [← hL] at h1000 h30 hml
      clear hL
      go_wp2_with (go_at_call 63; refine (keyAt_any q _ hq).mono ?_; rintro e w' ⟨rfl, rfl⟩)
      have eL := HLL.out
      subst eL
      clear HLL
      refine (walkWith_any c _).mono ?_
      rintro e w2 ⟨f, rfl, hf, x2⟩
      obtain ⟨C, rfl, hC, hcC⟩ := hf
      have hP := Lib.hid ((RowP.ps HV1.out hml).ext x2)
      go_wp2_with fail
      refine (wlk_any _ _ _ C c w2 hP.out hC hcC hp HPL.out h1000).mono ?_
      rintro e w4 ⟨rfl, x4⟩
      go_wp2
      go_ret3
      exact ⟨by rw [HV.out, HK.out]; rfl, (x1.trans x2).trans x4⟩

set_option maxHeartbeats 2000000 in
theorem spec_any (s : ByteArray) (c : Bool) (w : World) (hs : s.size ≤ maxLen) : Calls Try.prog 33 #[.string s, .bool c] w fun e w' => e = .returned (.tuple #[.string (bsK s), .int .i64 (bsN s c), .bool (isD s)]) ∧ Ext w w' := by
  cases h : isD s
  · have HV := Lib.hid (bsN_no (c := c) h)
    have HK := Lib.hid (bsK_no h)
    go_enter Try.func33, Try.ntmps33
    go_wp2_with (go_at_call 43; refine (thGood_any _ _ hs).mono ?_; rintro e w' ⟨rfl, rfl⟩; rw [h])
    go_ret3
    exact ⟨by rw [HV.out, HK.out]; rfl, Ext.refl _⟩
  have HV := Lib.hid (bsN_yes (c := c) h)
  have HK := Lib.hid (bsK_yes h)
  have hit0 : (w.iter ⟨#[49, 50, 51, 52, 53, 54, 55, 56, 57, 42, 48, 35]⟩ 0).heap[w.heap.size]? = some (.stringIter ⟨#[49, 50, 51, 52, 53, 54, 55, 56, 57, 42, 48, 35]⟩ 0) := World.iter_heap _ _ _
  have hx0 : Ext w (w.iter ⟨#[49, 50, 51, 52, 53, 54, 55, 56, 57, 42, 48, 35]⟩ 0) := Below.alloc (Ext.refl _) (Nat.le_refl _) _
  go_enter Try.func33, Try.ntmps33
  go_wp2_with (go_at_call 43; refine (thGood_any _ _ hs).mono ?_; rintro e w' ⟨rfl, rfl⟩; rw [h])
  have HPL := Lib.hid (plcs_lt s)
  have HST := Lib.hid (stP_lt s)
  have HKW := Lib.hid (Nat.le_refl w.heap.size)
  obtain ⟨K, hK⟩ : ∃ K, K = w.heap.size := ⟨_, rfl⟩
  have hKw : w.heap.size ≤ K := by omega
  rw [← hK] at hit0 ⊢
  clear hK
  go_loopw [7] (fun b wr => ∃ p m : Nat, p ≤ 12 ∧ m < 12 ∧ b = .int .i64 m ∧ wr.heap[K]? = some (.stringIter ⟨#[49, 50, 51, 52, 53, 54, 55, 56, 57, 42, 48, 35]⟩ p) ∧ (stP (plcs s) < p → m = stP (plcs s)) ∧ (plcs s = [] → m = 0) ∧ Ext w wr) (fun _ wr => 12 - wr.iterPos K)
  case atStart => exact ⟨0, 0, by omega, by omega, rfl, hit0, fun h => absurd h (Nat.not_lt_zero _), fun _ => rfl, hx0⟩
  case round =>
    obtain ⟨p, m, hp, hm, rfl, hit, h1, h2, hx⟩ := hrel
    have H1 := Lib.hid h1
    have H2 := Lib.hid h2
    clear h1 h2
    have hmS : m < (⟨#[49, 50, 51, 52, 53, 54, 55, 56, 57, 42, 48, 35]⟩ : ByteArray).size := hm
    have km := padK m hmS
    have im : ∀ w, (Instr.index 9 (.string ⟨#[49, 50, 51, 52, 53, 54, 55, 56, 57, 42, 48, 35]⟩) (.int .i64 (m : Int))).run Try.prog w = .ok (.int .u8 ((⟨#[49, 50, 51, 52, 53, 54, 55, 56, 57, 42, 48, 35]⟩ : ByteArray)[m]'hmS).toNat) w := fun w => ixS _ m hmS w
    obtain ⟨bm, hbm⟩ : ∃ b, b = (⟨#[49, 50, 51, 52, 53, 54, 55, 56, 57, 42, 48, 35]⟩ : ByteArray)[m]'hmS := ⟨_, rfl⟩
    rw [← hbm] at km im
    have km2 := Lib.hid km.2
    have km1 := km.1
    clear km hbm
    by_cases hlt : p < 12
    · have hpS : p < (⟨#[49, 50, 51, 52, 53, 54, 55, 56, 57, 42, 48, 35]⟩ : ByteArray).size := hlt
      have hnx := fun ty => Lib.run_next_ascii_at (P := Try.prog) wr K _ p ty hit hpS (padAscii p hpS)
      have hit2 := Lib.iterAt_heap wr K _ p (p + 1) hit
      have hx1 := ext_iterP hx hKw ⟨#[49, 50, 51, 52, 53, 54, 55, 56, 57, 42, 48, 35]⟩ (p + 1)
      have kp := padK p hpS
      have ip : ∀ w, (Instr.index 9 (.string ⟨#[49, 50, 51, 52, 53, 54, 55, 56, 57, 42, 48, 35]⟩) (.int .i64 (p : Int))).run Try.prog w = .ok (.int .u8 ((⟨#[49, 50, 51, 52, 53, 54, 55, 56, 57, 42, 48, 35]⟩ : ByteArray)[p]'hpS).toNat) w := fun w => ixS _ p hpS w
      obtain ⟨bp, hbp⟩ : ∃ b, b = (⟨#[49, 50, 51, 52, 53, 54, 55, 56, 57, 42, 48, 35]⟩ : ByteArray)[p]'hpS := ⟨_, rfl⟩
      rw [← hbp] at kp ip hnx
      have kp2 := Lib.hid kp.2
      have kp1 := kp.1
      clear kp hbp
      obtain ⟨A, hA⟩ : ∃ A, A = wlk c p (plcs s) := ⟨_, rfl⟩
      obtain ⟨M, hM⟩ : ∃ M, M = wlk c m (plcs s) := ⟨_, rfl⟩
      have eA := Lib.hid (show wlk c (pn bp) (plcs s) = A by rw [kp2.out, hA])
      have eM := Lib.hid (show wlk c (pn bm) (plcs s) = M by rw [km2.out, hM])
      have hst := wlk_start c (plcs s) p
      have hst2 := wlk_start_lt c (plcs s) m
      rw [← hA] at hst
      rw [← hM] at hst2
      have hnil : plcs s = [] → A = 0 ∧ M = 0 := fun e => by rw [hA, hM, e]; exact ⟨rfl, rfl⟩
      by_cases hlw : A < M
      · have N1 := Lib.hid (show stP (plcs s) < p + 1 → p = stP (plcs s) from fun hh => by
          by_cases hT : stP (plcs s) < p
          · have e1 := H1.out hT
            rw [e1] at hM
            omega
          · omega)
        have N2 := Lib.hid (show plcs s = [] → p = 0 from fun e => by have := hnil e; omega)
        have hlwi : ((wlk c (pn bp) (plcs s) : Nat) : Int) < ((wlk c (pn bm) (plcs s) : Nat) : Int) := by rw [eA.out, eM.out]; omega
        have hd : decide (((wlk c (pn bp) (plcs s) : Nat) : Int) < ((wlk c (pn bm) (plcs s) : Nat) : Int)) = true := decide_eq_true hlwi
        clear hst hst2 hnil hA hM hlw
        go_wp2
        go_quiet (first | (exact Calls.quiet_of_same ((thWalk0_any s _ c _ h (by assumption)).mono fun e w' h => ⟨h.1, h.2.symm⟩)))
        go_wp2
        refine ⟨⟨p + 1, p, by omega, hlt, rfl, iter_extP hit2 (ext_drewN (Ext.refl _) _), N1.out, N2.out, ext_drewN hx1 _⟩, ?_⟩
        simp only [World.iterPos, iter_extP hit2 (ext_drewN (Ext.refl _) _), hit]
        omega
      · have N1 := Lib.hid (show stP (plcs s) < p + 1 → m = stP (plcs s) from fun hh => by
          by_cases hT : stP (plcs s) < p
          · exact H1.out hT
          · have hpT : p = stP (plcs s) := by omega
            by_cases hn : plcs s = []
            · rw [H2.out hn, hn]; rfl
            · by_cases hmT : m = stP (plcs s)
              · exact hmT
              · have := hst2 hn hmT
                rw [← hpT, ← hA] at this
                omega)
        have hlwi : ¬ ((wlk c (pn bp) (plcs s) : Nat) : Int) < ((wlk c (pn bm) (plcs s) : Nat) : Int) := by rw [eA.out, eM.out]; omega
        have hd : decide (((wlk c (pn bp) (plcs s) : Nat) : Int) < ((wlk c (pn bm) (plcs s) : Nat) : Int)) = false := decide_eq_false hlwi
        clear hst hst2 hnil hA hM hlw
        go_wp2
        go_quiet (first | (exact Calls.quiet_of_same ((thWalk0_any s _ c _ h (by assumption)).mono fun e w' h => ⟨h.1, h.2.symm⟩)))
        go_wp2
        refine ⟨⟨p + 1, m, by omega, hm, rfl, iter_extP hit2 (ext_drewN (Ext.refl _) _), N1.out, H2.out, ext_drewN hx1 _⟩, ?_⟩
        simp only [World.iterPos, iter_extP hit2 (ext_drewN (Ext.refl _) _), hit]
        omega
    · have hnx := fun ty => Lib.run_next_end_at (P := Try.prog) wr K _ p ty hit (show ¬ p < (⟨#[49, 50, 51, 52, 53, 54, 55, 56, 57, 42, 48, 35]⟩ : ByteArray).size from hlt)
      have hE := Lib.hid (H1.out (by have := HST.out; omega))
      have hm1 : m + 1 ≤ (⟨#[49, 50, 51, 52, 53, 54, 55, 56, 57, 42, 48, 35]⟩ : ByteArray).size := hm
      have hm12 : m ≤ 12 := by omega
      go_wp2
      go_quiet (first | (exact Calls.quiet_of_same ((thWalk0_any s _ c _ h (by assumption)).mono fun e w' h => ⟨h.1, h.2.symm⟩)))
      go_wp2
      go_ret3
      refine ⟨?_, ext_drewN hx _⟩
      rw [HV.out, HK.out, ← hE.out, ← kB_eq, ← km2.out]
      rfl

set_option maxHeartbeats 1000000 in
theorem walk (s0 : ByteArray) (hs0 : s0.size ≤ maxLen) (s1 : Bool) (w : World) : Calls Try.prog 10 #[.string s0, .bool s1] w fun e w' => e = .returned (.bool true) ∧ Ext w w' := by
  have h63_0 : s0.size ≤ 9223372036854775807 := hs0
  obtain ⟨X0, hX0⟩ : ∃ X, X = (bsK s0) := ⟨_, rfl⟩
  obtain ⟨X1, hX1⟩ : ∃ X, X = (bsN s0 s1) := ⟨_, rfl⟩
  obtain ⟨ok, hok⟩ : ∃ X, X = (isD s0) := ⟨_, rfl⟩
  have HP := Lib.hid (show ∀ w, Calls Try.prog 33 #[.string s0, .bool s1] w fun e w' => e = .returned (.tuple #[.string X0, .int .i64 X1, .bool ok]) ∧ Ext w w' from fun w => by rw [hX0, hX1, hok]; exact spec_any s0 s1 w hs0 )
  have HM := Lib.hid (show ∀ w, Calls Try.prog 34 #[.string s0, .bool s1] w fun e w' => e = .returned (.tuple #[.string X0, .int .i64 X1, .bool ok]) ∧ Ext w w' from fun w => by rw [hX0, hX1, hok]; exact impl_any s0 s1 w hs0 )
  clear hX0 hX1 hok
  by_cases hbig0 : 1048576 < s0.size
  · go_enter Try.func10, Try.ntmps10
    go_wp2
    go_ret
    exact ⟨rfl, Ext.refl _⟩
  go_enter Try.func10, Try.ntmps10
  go_wp2_with fail
  refine (HP.out _).mono ?_
  rintro e w1 ⟨rfl, x1⟩
  go_wp2_with fail
  refine (HM.out _).mono ?_
  rintro e w2 ⟨rfl, x2⟩
  go_wp2
  go_ret
  exact ⟨rfl, x1.trans x2⟩

set_option maxRecDepth 100000 in
theorem contract (H : Type) (enc : TypeId × Value → H) (W : World) (base : Nat) (args : Array Value) (ds gs : List (DataW H)) (before : List MemPlace)
    (hval : ∀ (j : Nat) t v, Try.f10.params[j]? = some t → args[j]? = some v → Value.okWide Try.prog W .any base t v)
    (hW : DataW.Whole enc Try.prog Try.f10.params.toList Rows.fnExactBestStartSpec.vars false W args.toList ds gs before) :
    Calls Try.prog 10 args W fun e W' => ∃ v, e = .returned v ∧ Rows.fnExactBestStartSpec.post enc Try.prog Try.f10 false true false false W args v W' := by
  have hW' := hW
  obtain ⟨p, q, hA0, hV, rfl, hfz, hnd⟩ := hW
  have hA : DataW.TrodAll enc Try.prog W 0 (fun _ => true) true Try.f10.params.toList args.toList ds p := hA0
  rw [Try.params10] at hA hval
  obtain ⟨v0, vs0, d0, ds0, p0, q0, hargs0, rfl, rfl, h0, r0⟩ := trodAll_cons hA
  obtain ⟨v1, vs1, d1, ds1, p1, q1, hargs1, rfl, rfl, h1, r1⟩ := trodAll_cons r0
  obtain ⟨rfl, rfl, rfl⟩ := trodAll_nil r1
  subst hargs1
  obtain rfl : args = #[v0, v1] := Array.toList_inj.1 hargs0
  obtain ⟨s0, rfl, rfl, rfl, z0⟩ := open_string Try.underlying9 (hval 0 9 v0 rfl rfl) h0
  obtain ⟨s1, rfl, rfl, rfl⟩ := open_bool Try.underlying4 (hval 1 4 v1 rfl rfl) h1
  clear hA0
  refine (walk s0 z0 s1 W).mono fun e W' ⟨he, hx⟩ => ?_
  subst he
  exact ⟨_, rfl, post_true (tb := 4) laidOut (by rw [Try.params10]; intro t ht; simp at ht; rcases ht with rfl | rfl <;> exact ⟨by kernel_rfl, of_decide_eq_true (by kernel_rfl)⟩) (by kernel_rfl) hW' hx (by obtain ⟨rfl, rfl⟩ := trodVars_none hV; rfl) rfl Try.underlying4⟩

set_option maxRecDepth 100000 in
theorem lifted (os : Os) (started : os.Started) (H : Type) (enc : TypeId × Value → H) :
    ReturnsInHanded {} Try.checked os 10 .any (Rows.fnExactBestStartSpec.pre6 enc Try.prog Try.f10 Rows.fnExactBestStartRow.domain false) (Rows.fnExactBestStartSpec.post enc Try.prog Try.f10 false true false false) := by
  refine returnsInHanded_of_change (C := Try.checked) own started (by kernel_rfl) Try.func10
    (ChangeSpec.witness6 (enc := enc) (C := Try.checked) false ⟨#[], #[.string ByteArray.empty, .bool false], []⟩ 8 (by kernel_rfl) (by kernel_rfl) (by kernel_rfl) (by kernel_rfl)) ?_
  intro W base args ds gs before hval hW _ _
  exact contract H enc W base args ds gs before hval hW

theorem said : Rows.FnExactBestStartSaid :=
  OpenClaim.holds_of_wide 10 Try.f10 rfl rfl rfl rfl rfl rfl rfl ⟨rfl, rfl, rfl, rfl, rfl⟩ rfl rfl rfl rfl rfl (by kernel_rfl) Try.func10 (by kernel_rfl)
    (of_decide_eq_true (by kernel_rfl)) (by unfold Func.isWrapper; first | (rw [if_pos (by decide +kernel)]; kernel_rfl) | (rw [if_neg (by decide +kernel)]; exact ⟨rfl, rfl⟩))
    (fun os started H enc _ => lifted os started H enc)
end Go.Proofs.Ytnnbpcookemilaa.bestStart
