/- Schemes that find all errors: the program's and the model's answers. No conditions. -/
import Derived.Test.YtdhcknknmloopaaMis
namespace Go.Proofs.Ytdhcknknmloopaa
open Go.RowKit

/-- No pair is missed with a difference of weights. -/
def emp (m t : Int) : Bool := decide ((prs (pM m t)).length = 0)
def alB (f : Nat → Bool) : Nat → Bool
  | 0 => true
  | k + 1 => alB f k && f k
theorem alB_no {f : Nat → Bool} {n k : Nat} (h : f k = false) (hk : k < n) : alB f n = false := by
  induction n with
  | zero => omega
  | succ n ih =>
    rw [alB]
    by_cases e : k = n
    · rw [← e, h, Bool.and_false]
    · rw [ih (by omega)]; rfl
theorem alB_up {f : Nat → Bool} {k : Nat} (h : alB f k = true) (h2 : f k = true) : alB f (k + 1) = true := by rw [alB, h, h2]; rfl
def w1F (m : Int) (zs : List Int) (j : Nat) : Bool := emp m (zs.getD j 0)
def w2F (m : Int) (zs : List Int) (j : Nat) : Bool := emp m (zs.getD j 0 - zs.getD (j + 1) 0)
def f1V (m : Int) (zs : List Int) : Bool := isSch m zs && alB (w1F m zs) zs.length
def f2V (m : Int) (zs : List Int) : Bool := isSch m zs && alB (w2F m zs) (zs.length - 1)
theorem f1V_s {m : Int} {zs : List Int} (h : isSch m zs = false) : f1V m zs = false := by unfold f1V; rw [h]; rfl
theorem f2V_s {m : Int} {zs : List Int} (h : isSch m zs = false) : f2V m zs = false := by unfold f2V; rw [h]; rfl
theorem f1V_n {m : Int} {zs : List Int} {k : Nat} (h : w1F m zs k = false) (hk : k < zs.length) : f1V m zs = false := by unfold f1V; rw [alB_no h hk, Bool.and_false]
theorem f2V_n {m : Int} {zs : List Int} {k : Nat} (h : w2F m zs k = false) (hk : k < zs.length - 1) : f2V m zs = false := by unfold f2V; rw [alB_no h hk, Bool.and_false]
theorem f1V_y {m : Int} {zs : List Int} (h : isSch m zs = true) (h2 : alB (w1F m zs) zs.length = true) : f1V m zs = true := by unfold f1V; rw [h, h2]; rfl
theorem f2V_y {m : Int} {zs : List Int} (h : isSch m zs = true) (h2 : alB (w2F m zs) (zs.length - 1) = true) : f2V m zs = true := by unfold f2V; rw [h, h2]; rfl
theorem emp_no {m t : Int} (h : 0 < (prs (pM m t)).length) : emp m t = false := by unfold emp; exact decide_eq_false (by omega)
theorem emp_yes {m t : Int} (h : ¬ 0 < (prs (pM m t)).length) : emp m t = true := by unfold emp; exact decide_eq_true (by omega)
theorem getY {zs : List Int} {j : Nat} (h : j < zs.length) : zs.getD j 0 = zs[j] := by rw [List.getD_eq_getElem?_getD, List.getElem?_eq_getElem h]; rfl
theorem w1F_at {m : Int} {zs : List Int} {j : Nat} (h : j < zs.length) : w1F m zs j = emp m zs[j] := by unfold w1F; rw [getY h]
theorem w2F_at {m : Int} {zs : List Int} {j : Nat} (h : j + 1 < zs.length) : w2F m zs j = emp m (zs[j] - zs[j + 1]) := by unfold w2F; rw [getY h, getY (show j < zs.length by omega)]

set_option maxRecDepth 100000 in
set_option maxHeartbeats 2000000 in
theorem f1S_any (m : Int) (v : Value) (zs : List Int) (w : World) (h : IntsA w v zs) (hm : -9223372036854775808 ≤ m ∧ m ≤ 9223372036854775807) : Calls Try.prog 30 #[.agg #[.int .i64 m, v]] w fun e w' => e = .returned (.tuple #[.bool (f1V m zs), .bool (isSch m zs)]) ∧ Ext w w' := by
  have X0 := Lib.hid (show Ext w (w.alloc (.cells #[.int .i64 m, v] 27)) from (Ext.refl w).alloc _)
  have H := Lib.hid (h.ext X0.out)
  have HG := Lib.hid (ckGood_any m v zs _ (h.ext X0.out) hm)
  have hl := h.1
  unfold maxLen at hl
  obtain ⟨a, cap, hv⟩ := h.at
  rw [hv] at X0 H HG ⊢
  clear hv h
  cases h1 : isSch m zs
  · have HV := Lib.hid (f1V_s h1)
    rw [h1] at HG
    clear h1
    go_enter Try.func30, Try.ntmps30
    go_wp2_with (go_at_call 44; refine HG.out.mono ?_; rintro e w1 ⟨rfl, x1⟩)
    go_ret2
    exact ⟨by rw [HV.out]; rfl, X0.out.trans x1⟩
  have HSC := Lib.hid h1
  rw [h1] at HG
  have HB := Lib.hid (isSch_bd h1)
  have hl1 := HB.out.l1
  have hl2 := HB.out.l2
  have hmb : 2 ≤ m ∧ m ≤ 13 := ⟨HB.out.m1, HB.out.m2⟩
  have HMB := Lib.hid hmb
  clear h1 hmb
  go_enter Try.func30, Try.ntmps30
  go_wp2_with (first | (go_at_call 44; refine HG.out.mono ?_; rintro e w1 ⟨rfl, x1⟩; obtain ⟨c1, c2⟩ := sc_cells x1))
  go_loopw [12] (fun i wr => ∃ k : Nat, k ≤ zs.length ∧ i = .int .i64 (k : Int) ∧ alB (w1F m zs) k = true ∧ Ext w1 wr) (fun i _ => zs.length - (intOf i).toNat)
  case atStart => exact ⟨0, Nat.zero_le _, rfl, rfl, Ext.refl _⟩
  case round =>
    obtain ⟨k, hk, rfl, hall, hx⟩ := hrel
    have HA := Lib.hid hall
    have HX := Lib.hid (x1.trans hx)
    clear hall
    obtain ⟨c1, c2⟩ := sc_cells HX.out
    by_cases hlt : k < zs.length
    · have HN := Lib.hid (fun h => f1V_n (m := m) (zs := zs) (k := k) h hlt)
      have HU := Lib.hid (fun h => alB_up (f := w1F m zs) (k := k) HA.out h)
      rw [w1F_at hlt] at HN HU
      obtain ⟨b, off, ha, hbs, e1⟩ := (H.out.ext HX.out).get2 k hlt
      have htb := wz_bd HB.out hlt
      obtain ⟨t, ht⟩ : ∃ t, t = zs[k] := ⟨_, rfl⟩
      rw [← ht] at e1 htb HN HU
      subst ha
      clear ht
      have HE1 := Lib.hid (fun h => HN.out (emp_no (m := m) (t := t) h))
      have HE2 := Lib.hid (fun h => HU.out (emp_yes (m := m) (t := t) h))
      have HM := Lib.hid (fun w' => ckMissed_any t m w' HMB.out htb)
      obtain ⟨L, hL⟩ : ∃ L, L = prs (pM m t) := ⟨_, rfl⟩
      rw [← hL] at HM HE1 HE2
      clear hL HN HU
      by_cases hz : 0 < L.length
      · have hzi : (0 : Int) < (L.length : Int) := by omega
        have HV := Lib.hid (HE1.out hz)
        clear hz
        go_wp2_with (first | (go_at_call 59; refine (HM.out _).mono ?_; rintro e w2 ⟨u, U, rfl, hr, x2⟩; obtain ⟨ga, gc, rfl⟩ := hr.shape))
        go_ret2
        exact ⟨by rw [HV.out]; rfl, X0.out.trans (HX.out.trans x2)⟩
      · have hzi : ¬ (0 : Int) < (L.length : Int) := by omega
        have HV := Lib.hid (HE2.out hz)
        clear hz
        go_wp2_with (first | (go_at_call 59; refine (HM.out _).mono ?_; rintro e w2 ⟨u, U, rfl, hr, x2⟩; obtain ⟨ga, gc, rfl⟩ := hr.shape))
        go_roundw
        case rel => exact ⟨k + 1, by omega, by go_num, HV.out, hx.trans x2⟩
        case measure => simp [intOf]; omega
    · obtain rfl : k = zs.length := by omega
      have HV := Lib.hid (f1V_y HSC.out HA.out)
      go_wp2
      go_ret2
      exact ⟨by rw [HV.out]; rfl, X0.out.trans HX.out⟩

set_option maxRecDepth 100000 in
set_option maxHeartbeats 2000000 in
theorem f1I_any (m : Int) (v : Value) (zs : List Int) (w : World) (h : IntsA w v zs) (hm : -9223372036854775808 ≤ m ∧ m ≤ 9223372036854775807) : Calls Try.prog 31 #[.agg #[.int .i64 m, v]] w fun e w' => e = .returned (.tuple #[.bool (f1V m zs), .bool (isSch m zs)]) ∧ Ext w w' := by
  have X0 := Lib.hid (show Ext w (w.alloc (.cells #[.int .i64 m, v] 27)) from (Ext.refl w).alloc _)
  have H := Lib.hid (h.ext X0.out)
  have HG := Lib.hid (isSch_any m v zs _ (h.ext X0.out) hm)
  have hl := h.1
  unfold maxLen at hl
  obtain ⟨a, cap, hv⟩ := h.at
  rw [hv] at X0 H HG ⊢
  clear hv h
  cases h1 : isSch m zs
  · have HV := Lib.hid (f1V_s h1)
    rw [h1] at HG
    clear h1
    go_enter Try.func31, Try.ntmps31
    go_wp2_with (go_at_call 16; refine HG.out.mono ?_; rintro e w1 ⟨rfl, x1⟩)
    go_ret2
    exact ⟨by rw [HV.out]; rfl, X0.out.trans x1⟩
  have HSC := Lib.hid h1
  rw [h1] at HG
  have HB := Lib.hid (isSch_bd h1)
  have hl1 := HB.out.l1
  have hl2 := HB.out.l2
  have hmb : 2 ≤ m ∧ m ≤ 13 := ⟨HB.out.m1, HB.out.m2⟩
  have HMB := Lib.hid hmb
  clear h1 hmb
  go_enter Try.func31, Try.ntmps31
  go_wp2_with (first | (go_at_call 16; refine HG.out.mono ?_; rintro e w1 ⟨rfl, x1⟩; obtain ⟨c1, c2⟩ := sc_cells x1))
  go_loopw [11] (fun i wr => ∃ k : Nat, k ≤ zs.length ∧ i = .int .i64 (k : Int) ∧ alB (w1F m zs) k = true ∧ Ext w1 wr) (fun i _ => zs.length - (intOf i).toNat)
  case atStart => exact ⟨0, Nat.zero_le _, rfl, rfl, Ext.refl _⟩
  case round =>
    obtain ⟨k, hk, rfl, hall, hx⟩ := hrel
    have HA := Lib.hid hall
    have HX := Lib.hid (x1.trans hx)
    clear hall
    obtain ⟨c1, c2⟩ := sc_cells HX.out
    by_cases hlt : k < zs.length
    · have HN := Lib.hid (fun h => f1V_n (m := m) (zs := zs) (k := k) h hlt)
      have HU := Lib.hid (fun h => alB_up (f := w1F m zs) (k := k) HA.out h)
      rw [w1F_at hlt] at HN HU
      obtain ⟨t, ht⟩ : ∃ t, t = zs[k] := ⟨_, rfl⟩
      have HM := Lib.hid (fun w' (x : Ext (w.alloc (.cells #[.int .i64 m, .slice a zs.length cap] 27)) w') => mSing_any m (.slice a zs.length cap) zs k w' (H.out.ext x) HB.out hlt)
      rw [← ht] at HN HU HM
      clear ht
      have HE1 := Lib.hid (fun h => HN.out (emp_no (m := m) (t := t) h))
      have HE2 := Lib.hid (fun h => HU.out (emp_yes (m := m) (t := t) h))
      obtain ⟨L, hL⟩ : ∃ L, L = prs (pM m t) := ⟨_, rfl⟩
      rw [← hL] at HM HE1 HE2
      clear hL HN HU
      by_cases hz : 0 < L.length
      · have hzi : (0 : Int) < (L.length : Int) := by omega
        have HV := Lib.hid (HE1.out hz)
        clear hz
        go_wp2_with (first | (go_at_call 61; refine (HM.out _ HX.out).mono ?_; rintro e w2 ⟨u, U, rfl, hr, x2⟩; obtain ⟨ga, gc, rfl⟩ := hr.shape))
        go_ret2
        exact ⟨by rw [HV.out]; rfl, X0.out.trans (HX.out.trans x2)⟩
      · have hzi : ¬ (0 : Int) < (L.length : Int) := by omega
        have HV := Lib.hid (HE2.out hz)
        clear hz
        go_wp2_with (first | (go_at_call 61; refine (HM.out _ HX.out).mono ?_; rintro e w2 ⟨u, U, rfl, hr, x2⟩; obtain ⟨ga, gc, rfl⟩ := hr.shape))
        go_roundw
        case rel => exact ⟨k + 1, by omega, by go_num, HV.out, hx.trans x2⟩
        case measure => simp [intOf]; omega
    · obtain rfl : k = zs.length := by omega
      have HV := Lib.hid (f1V_y HSC.out HA.out)
      go_wp2
      go_ret2
      exact ⟨by rw [HV.out]; rfl, X0.out.trans HX.out⟩

set_option maxRecDepth 100000 in
set_option maxHeartbeats 2000000 in
theorem f2I_any (m : Int) (v : Value) (zs : List Int) (w : World) (h : IntsA w v zs) (hm : -9223372036854775808 ≤ m ∧ m ≤ 9223372036854775807) : Calls Try.prog 33 #[.agg #[.int .i64 m, v]] w fun e w' => e = .returned (.tuple #[.bool (f2V m zs), .bool (isSch m zs)]) ∧ Ext w w' := by
  have X0 := Lib.hid (show Ext w (w.alloc (.cells #[.int .i64 m, v] 27)) from (Ext.refl w).alloc _)
  have H := Lib.hid (h.ext X0.out)
  have HG := Lib.hid (isSch_any m v zs _ (h.ext X0.out) hm)
  have hl := h.1
  unfold maxLen at hl
  obtain ⟨a, cap, hv⟩ := h.at
  rw [hv] at X0 H HG ⊢
  clear hv h
  cases h1 : isSch m zs
  · have HV := Lib.hid (f2V_s h1)
    rw [h1] at HG
    clear h1
    go_enter Try.func33, Try.ntmps33
    go_wp2_with (go_at_call 16; refine HG.out.mono ?_; rintro e w1 ⟨rfl, x1⟩)
    go_ret2
    exact ⟨by rw [HV.out]; rfl, X0.out.trans x1⟩
  have HSC := Lib.hid h1
  rw [h1] at HG
  have HB := Lib.hid (isSch_bd h1)
  have hl1 := HB.out.l1
  have hl2 := HB.out.l2
  have hmb : 2 ≤ m ∧ m ≤ 13 := ⟨HB.out.m1, HB.out.m2⟩
  have HMB := Lib.hid hmb
  clear h1 hmb
  go_enter Try.func33, Try.ntmps33
  go_wp2_with (first | (go_at_call 16; refine HG.out.mono ?_; rintro e w1 ⟨rfl, x1⟩; obtain ⟨c1, c2⟩ := sc_cells x1))
  go_loopw [12] (fun i wr => ∃ k : Nat, k ≤ zs.length - 1 ∧ i = .int .i64 (k : Int) ∧ alB (w2F m zs) k = true ∧ Ext w1 wr) (fun i _ => zs.length - (intOf i).toNat)
  case atStart => exact ⟨0, Nat.zero_le _, rfl, rfl, Ext.refl _⟩
  case round =>
    obtain ⟨k, hk, rfl, hall, hx⟩ := hrel
    have HA := Lib.hid hall
    have HX := Lib.hid (x1.trans hx)
    clear hall
    obtain ⟨c1, c2⟩ := sc_cells HX.out
    by_cases hlt : k < zs.length - 1
    · have HN := Lib.hid (fun h => f2V_n (m := m) (zs := zs) (k := k) h hlt)
      have HU := Lib.hid (fun h => alB_up (f := w2F m zs) (k := k) HA.out h)
      rw [w2F_at (show k + 1 < zs.length by omega)] at HN HU
      obtain ⟨t, ht⟩ : ∃ t, t = zs[k] - zs[k + 1] := ⟨_, rfl⟩
      have HM := Lib.hid (fun w' (x : Ext (w.alloc (.cells #[.int .i64 m, .slice a zs.length cap] 27)) w') => mSwap_any m (.slice a zs.length cap) zs k w' (H.out.ext x) HB.out (show k + 1 < zs.length by omega))
      rw [← ht] at HN HU HM
      have hki : (k : Int) < (zs.length : Int) - 1 := by omega
      clear ht
      have HE1 := Lib.hid (fun h => HN.out (emp_no (m := m) (t := t) h))
      have HE2 := Lib.hid (fun h => HU.out (emp_yes (m := m) (t := t) h))
      obtain ⟨L, hL⟩ : ∃ L, L = prs (pM m t) := ⟨_, rfl⟩
      rw [← hL] at HM HE1 HE2
      clear hL HN HU
      by_cases hz : 0 < L.length
      · have hzi : (0 : Int) < (L.length : Int) := by omega
        have HV := Lib.hid (HE1.out hz)
        clear hz
        go_wp2_with (first | (go_at_call 64; refine (HM.out _ HX.out).mono ?_; rintro e w2 ⟨u, U, rfl, hr, x2⟩; obtain ⟨ga, gc, rfl⟩ := hr.shape))
        go_ret2
        exact ⟨by rw [HV.out]; rfl, X0.out.trans (HX.out.trans x2)⟩
      · have hzi : ¬ (0 : Int) < (L.length : Int) := by omega
        have HV := Lib.hid (HE2.out hz)
        clear hz
        go_wp2_with (first | (go_at_call 64; refine (HM.out _ HX.out).mono ?_; rintro e w2 ⟨u, U, rfl, hr, x2⟩; obtain ⟨ga, gc, rfl⟩ := hr.shape))
        go_roundw
        case rel => exact ⟨k + 1, by omega, by go_num, HV.out, hx.trans x2⟩
        case measure => simp [intOf]; omega
    · obtain rfl : k = zs.length - 1 := by omega
      have HV := Lib.hid (f2V_y HSC.out HA.out)
      go_wp2
      go_ret2
      exact ⟨by rw [HV.out]; rfl, X0.out.trans HX.out⟩

set_option maxRecDepth 100000 in
set_option maxHeartbeats 2000000 in
theorem f2S_any (m : Int) (v : Value) (zs : List Int) (w : World) (h : IntsA w v zs) (hm : -9223372036854775808 ≤ m ∧ m ≤ 9223372036854775807) : Calls Try.prog 32 #[.agg #[.int .i64 m, v]] w fun e w' => e = .returned (.tuple #[.bool (f2V m zs), .bool (isSch m zs)]) ∧ Ext w w' := by
  have X0 := Lib.hid (show Ext w (w.alloc (.cells #[.int .i64 m, v] 27)) from (Ext.refl w).alloc _)
  have H := Lib.hid (h.ext X0.out)
  have HG := Lib.hid (ckGood_any m v zs _ (h.ext X0.out) hm)
  have hl := h.1
  unfold maxLen at hl
  obtain ⟨a, cap, hv⟩ := h.at
  rw [hv] at X0 H HG ⊢
  clear hv h
  cases h1 : isSch m zs
  · have HV := Lib.hid (f2V_s h1)
    rw [h1] at HG
    clear h1
    go_enter Try.func32, Try.ntmps32
    go_wp2_with (go_at_call 44; refine HG.out.mono ?_; rintro e w1 ⟨rfl, x1⟩)
    go_ret2
    exact ⟨by rw [HV.out]; rfl, X0.out.trans x1⟩
  have HSC := Lib.hid h1
  rw [h1] at HG
  have HB := Lib.hid (isSch_bd h1)
  have hl1 := HB.out.l1
  have hl2 := HB.out.l2
  have hmb : 2 ≤ m ∧ m ≤ 13 := ⟨HB.out.m1, HB.out.m2⟩
  have HMB := Lib.hid hmb
  clear h1 hmb
  go_enter Try.func32, Try.ntmps32
  go_wp2_with (first | (go_at_call 44; refine HG.out.mono ?_; rintro e w1 ⟨rfl, x1⟩; obtain ⟨c1, c2⟩ := sc_cells x1))
  go_loopw [4] (fun i wr => ∃ k : Nat, k ≤ zs.length - 1 ∧ i = .int .i64 (((k + 1 : Nat) : Int)) ∧ alB (w2F m zs) k = true ∧ Ext w1 wr) (fun i _ => zs.length - (intOf i).toNat)
  case atStart => exact ⟨0, Nat.zero_le _, rfl, rfl, Ext.refl _⟩
  case round =>
    obtain ⟨k, hk, rfl, hall, hx⟩ := hrel
    have HA := Lib.hid hall
    have HX := Lib.hid (x1.trans hx)
    clear hall
    obtain ⟨c1, c2⟩ := sc_cells HX.out
    by_cases hlt : k < zs.length - 1
    · have HN := Lib.hid (fun h => f2V_n (m := m) (zs := zs) (k := k) h hlt)
      have HU := Lib.hid (fun h => alB_up (f := w2F m zs) (k := k) HA.out h)
      rw [w2F_at (show k + 1 < zs.length by omega)] at HN HU
      obtain ⟨b, off, ha, hbs, e1⟩ := (H.out.ext HX.out).get2 k (by omega)
      obtain ⟨b2, off2, ha2, _, e2⟩ := (H.out.ext HX.out).get2 (k + 1) (by omega)
      rw [ha] at ha2
      injection ha2 with ha2
      injection ha2 with hb2 ho2
      subst hb2; subst ho2
      have hz1 := wz_bd HB.out (show k < zs.length by omega)
      have hy1 := wz_bd HB.out (show k + 1 < zs.length by omega)
      have htb := wd_bd HB.out (show k < zs.length by omega) (show k + 1 < zs.length by omega)
      obtain ⟨t, ht⟩ : ∃ t, t = zs[k] - zs[k + 1] := ⟨_, rfl⟩
      rw [← ht] at htb HN HU
      obtain ⟨z, hzz⟩ : ∃ z, z = zs[k] := ⟨_, rfl⟩
      obtain ⟨y, hyy⟩ : ∃ y, y = zs[k + 1] := ⟨_, rfl⟩
      rw [← hzz] at e1 ht hz1
      rw [← hyy] at e2 ht hy1
      subst ha
      obtain ⟨k1, hk1⟩ : ∃ k1, k1 = k + 1 := ⟨_, rfl⟩
      rw [← hk1] at e2 ⊢
      have HK1 := Lib.hid hk1
      have hkm : (k1 : Int) - 1 = (k : Int) := by omega
      have wkm : IntKind.i64.wrap ((k1 : Int) - 1) = (k : Int) := by simp only [IntKind.wrap_i64]; omega
      have wk0 : IntKind.i64.wrap (k : Int) = (k : Int) := by simp only [IntKind.wrap_i64]; omega
      have hk1l : (k1 : Int) < (zs.length : Int) := by omega
      have hk1n : k1 < zs.length := by omega
      have hk0l : (k : Int) < (zs.length : Int) := by omega
      have hk0n : k < zs.length := by omega
      have hzy : z - y = t := ht.symm
      have wt' : IntKind.i64.wrap t = t := by simp only [IntKind.wrap_i64]; omega
      have HSN := Lib.hid (fun (w' : World) (x' : Ext wr w') => (show ((w'.cell? ⟨w.heap.size, 0, none⟩ = some (.int .i64 m) ∧ w'.cell? ⟨w.heap.size, 1, none⟩ = some (.slice (some ⟨b, off, none⟩) zs.length cap)) ∧ w'.cell? ⟨b, off + k, none⟩ = some (.int .i64 z) ∧ w'.cell? ⟨b, off + k1, none⟩ = some (.int .i64 y)) ∧ Ext wr w' from ⟨⟨sc_cells (HX.out.trans x'), (x'.cell (p := ⟨b, off + k, none⟩) (Nat.lt_of_lt_of_le hbs (Nat.le_refl _))).trans e1, (x'.cell (p := ⟨b, off + k1, none⟩) (Nat.lt_of_lt_of_le hbs (Nat.le_refl _))).trans e2⟩, x'⟩))
      clear hzz hyy ht hk1 hlt
      have HE1 := Lib.hid (fun h => HN.out (emp_no (m := m) (t := t) h))
      have HE2 := Lib.hid (fun h => HU.out (emp_yes (m := m) (t := t) h))
      have HM := Lib.hid (fun w' => ckMissed_any t m w' HMB.out htb)
      obtain ⟨L, hL⟩ : ∃ L, L = prs (pM m t) := ⟨_, rfl⟩
      rw [← hL] at HM HE1 HE2
      clear hL HN HU
      by_cases hz : 0 < L.length
      · have hzi : (0 : Int) < (L.length : Int) := by omega
        have HV := Lib.hid (HE1.out hz)
        clear hz
        go_wp2
        go_region_held3 (fun w' => ((w'.cell? ⟨w.heap.size, 0, none⟩ = some (.int .i64 m) ∧ w'.cell? ⟨w.heap.size, 1, none⟩ = some (.slice (some ⟨b, off, none⟩) zs.length cap)) ∧ w'.cell? ⟨b, off + k, none⟩ = some (.int .i64 z) ∧ w'.cell? ⟨b, off + k1, none⟩ = some (.int .i64 y)) ∧ Ext wr w') (first | assumption | exact HSN.out _ (Ext.refl _).drew | exact HSN.out _ (Ext.trans (And.right (by assumption)) x6)) (first | (go_at_call 59; refine (HM.out _).mono ?_; rintro e w6 ⟨u, U, rfl, hr, x6⟩; obtain ⟨ga, gc, rfl⟩ := hr.shape))
        all_goals (rename_i hHeld)
        all_goals (have x2 := hHeld.2)
        all_goals clear hHeld
        all_goals go_wp2
        all_goals go_ret2
        all_goals exact ⟨by rw [HV.out]; rfl, X0.out.trans (HX.out.trans x2)⟩
      · have hzi : ¬ (0 : Int) < (L.length : Int) := by omega
        have HV := Lib.hid (HE2.out hz)
        clear hz
        go_wp2
        go_region_held3 (fun w' => ((w'.cell? ⟨w.heap.size, 0, none⟩ = some (.int .i64 m) ∧ w'.cell? ⟨w.heap.size, 1, none⟩ = some (.slice (some ⟨b, off, none⟩) zs.length cap)) ∧ w'.cell? ⟨b, off + k, none⟩ = some (.int .i64 z) ∧ w'.cell? ⟨b, off + k1, none⟩ = some (.int .i64 y)) ∧ Ext wr w') (first | assumption | exact HSN.out _ (Ext.refl _).drew | exact HSN.out _ (Ext.trans (And.right (by assumption)) x6)) (first | (go_at_call 59; refine (HM.out _).mono ?_; rintro e w6 ⟨u, U, rfl, hr, x6⟩; obtain ⟨ga, gc, rfl⟩ := hr.shape))
        all_goals (rename_i hHeld)
        all_goals (have x2 := hHeld.2)
        all_goals clear hHeld
        all_goals go_wp2
        all_goals exact ⟨⟨k + 1, by have := HK1.out; omega, by have := HK1.out; rw [show ((k + 1 + 1 : Nat) : Int) = (k1 : Int) + 1 by omega], HV.out, hx.trans x2⟩, by simp [intOf]; omega⟩
    · obtain rfl : k = zs.length - 1 := by omega
      have HV := Lib.hid (f2V_y HSC.out HA.out)
      go_wp2
      go_ret2
      exact ⟨by rw [HV.out]; rfl, X0.out.trans HX.out⟩

end Go.Proofs.Ytdhcknknmloopaa
