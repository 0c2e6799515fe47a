/- Is it a clue: the model's test. No conditions. -/
import Derived.Test.YtpdnpphjlnlneaaGreatDoorPuz
import Derived.Test.YtpdnpphjlnlneaaGreatDoorWk
import Derived.Deep.RegionWith
namespace Go.Proofs.YtpdnpphjlnlneaaGreatDoor
open Go.RowKit

/-- The least and the most of what a clue of a kind tells. -/
def lA (k : Int) : Int := if k = 4 then 2 else 0
def mA (d k : Int) : Int := if k = 1 then d - 1 else if k = 4 then 9 else 0
def lB (k : Int) : Int := if k = 5 then 1 else 0
def mB (k : Int) : Int := if k = 0 then 27 else if k = 1 then 9 else if k = 2 then 20 else if k = 5 then 3 else 1
def clB (d k a b : Int) : Bool := inW k 0 5 && (inW a (lA k) (mA d k) && inW b (lB k) (mB k))
theorem inW_00 (a : Int) : inW a 0 0 = decide (a = 0) := by
  by_cases h : a = 0
  · subst h; rfl
  · rw [decide_eq_false h]
    by_cases h2 : a < 0
    · exact inW_lo h2
    · exact inW_hi (by omega)
theorem clB_0 (d a b : Int) : clB d 0 a b = (decide (a = 0) && inW b 0 27) := by rw [← inW_00]; rfl
theorem clB_1 (d a b : Int) : clB d 1 a b = (inW a 0 (d - 1) && inW b 0 9) := rfl
theorem clB_2 (d a b : Int) : clB d 2 a b = (decide (a = 0) && inW b 0 20) := by rw [← inW_00]; rfl
theorem clB_3 (d a b : Int) : clB d 3 a b = (decide (a = 0) && inW b 0 1) := by rw [← inW_00]; rfl
theorem clB_4 (d a b : Int) : clB d 4 a b = (inW a 2 9 && inW b 0 1) := rfl
theorem clB_5 (d a b : Int) : clB d 5 a b = (decide (a = 0) && inW b 1 3) := by rw [← inW_00]; rfl
theorem clB_k {d k a b : Int} (h : inW k 0 5 = false) : clB d k a b = false := by unfold clB; rw [h]; rfl
theorem inW_not6 {k : Int} (h0 : ¬ k = 0) (h1 : ¬ k = 1) (h2 : ¬ k = 2) (h3 : ¬ k = 3) (h4 : ¬ k = 4) (h5 : ¬ k = 5) : inW k 0 5 = false := by
  by_cases h : k < 0
  · exact inW_lo h
  · exact inW_hi (by omega)

set_option maxHeartbeats 1000000 in
theorem pzClue_any (d k a b : Int) (w : World) (hd : 0 ≤ d ∧ d ≤ 1048576) : Calls Tryz.prog 49 #[.int .i64 d, .agg #[.int .i64 k, .int .i64 a, .int .i64 b]] w fun e w' => e = .returned (.bool (clB d k a b)) ∧ Ext w w' := by
  have X0 := Lib.hid (show Ext w (w.alloc (.cells #[.int .i64 k, .int .i64 a, .int .i64 b] 26)) from (Ext.refl w).alloc _)
  by_cases h0 : k = 0
  · subst h0
    have HV := Lib.hid (clB_0 d a b)
    by_cases ha : a = 0
    · subst ha
      go_enter Tryz.func49, Tryz.ntmps49
      go_wp2_with (go_at_call 73; refine (inW_any _ _ _ _).mono ?_; rintro e w' ⟨rfl, rfl⟩)
      go_ret
      exact ⟨ret_bool HV.out.symm, X0.out⟩
    · go_enter Tryz.func49, Tryz.ntmps49
      go_wp2
      go_ret
      exact ⟨ret_bool (by rw [HV.out, decide_eq_false ha]; rfl), X0.out⟩
  by_cases h1 : k = 1
  · subst h1
    have HV := Lib.hid (clB_1 d a b)
    cases ha : inW a 0 (d - 1)
    · go_enter Tryz.func49, Tryz.ntmps49
      go_wp2_with (go_at_call 73; refine (inW_any _ _ _ _).mono ?_; rintro e w' ⟨rfl, rfl⟩; rw [ha])
      go_ret
      exact ⟨ret_bool (by rw [HV.out, ha]; rfl), X0.out⟩
    · have HA := Lib.hid ha
      go_enter Tryz.func49, Tryz.ntmps49
      go_wp2_with (go_at_call 73; refine (inW_any _ _ _ _).mono ?_; rintro e w' ⟨rfl, rfl⟩; first | rw [ha] | skip)
      go_ret
      exact ⟨ret_bool (by rw [HV.out, HA.out]; rfl), X0.out⟩
  by_cases h2 : k = 2
  · subst h2
    have HV := Lib.hid (clB_2 d a b)
    by_cases ha : a = 0
    · subst ha
      go_enter Tryz.func49, Tryz.ntmps49
      go_wp2_with (go_at_call 73; refine (inW_any _ _ _ _).mono ?_; rintro e w' ⟨rfl, rfl⟩)
      go_ret
      exact ⟨ret_bool HV.out.symm, X0.out⟩
    · go_enter Tryz.func49, Tryz.ntmps49
      go_wp2
      go_ret
      exact ⟨ret_bool (by rw [HV.out, decide_eq_false ha]; rfl), X0.out⟩
  by_cases h3 : k = 3
  · subst h3
    have HV := Lib.hid (clB_3 d a b)
    by_cases ha : a = 0
    · subst ha
      go_enter Tryz.func49, Tryz.ntmps49
      go_wp2_with (go_at_call 73; refine (inW_any _ _ _ _).mono ?_; rintro e w' ⟨rfl, rfl⟩)
      go_ret
      exact ⟨ret_bool HV.out.symm, X0.out⟩
    · go_enter Tryz.func49, Tryz.ntmps49
      go_wp2
      go_ret
      exact ⟨ret_bool (by rw [HV.out, decide_eq_false ha]; rfl), X0.out⟩
  by_cases h4 : k = 4
  · subst h4
    have HV := Lib.hid (clB_4 d a b)
    cases ha : inW a 2 9
    · go_enter Tryz.func49, Tryz.ntmps49
      go_wp2_with (go_at_call 73; refine (inW_any _ _ _ _).mono ?_; rintro e w' ⟨rfl, rfl⟩; rw [ha])
      go_ret
      exact ⟨ret_bool (by rw [HV.out, ha]; rfl), X0.out⟩
    · have HA := Lib.hid ha
      go_enter Tryz.func49, Tryz.ntmps49
      go_wp2_with (go_at_call 73; refine (inW_any _ _ _ _).mono ?_; rintro e w' ⟨rfl, rfl⟩; first | rw [ha] | skip)
      go_ret
      exact ⟨ret_bool (by rw [HV.out, HA.out]; rfl), X0.out⟩
  by_cases h5 : k = 5
  · subst h5
    have HV := Lib.hid (clB_5 d a b)
    by_cases ha : a = 0
    · subst ha
      go_enter Tryz.func49, Tryz.ntmps49
      go_wp2_with (go_at_call 73; refine (inW_any _ _ _ _).mono ?_; rintro e w' ⟨rfl, rfl⟩)
      go_ret
      exact ⟨ret_bool HV.out.symm, X0.out⟩
    · go_enter Tryz.func49, Tryz.ntmps49
      go_wp2
      go_ret
      exact ⟨ret_bool (by rw [HV.out, decide_eq_false ha]; rfl), X0.out⟩
  · have HV := Lib.hid (clB_k (d := d) (a := a) (b := b) (inW_not6 h0 h1 h2 h3 h4 h5))
    go_enter Tryz.func49, Tryz.ntmps49
    go_wp2
    go_ret
    exact ⟨ret_bool HV.out.symm, X0.out⟩

theorem pzDig_any (d : Int) (w : World) : Calls Tryz.prog 83 #[.int .i64 d] w fun e w' => e = .returned (.bool (inW d 2 3)) ∧ w = w' := by
  go_enter Tryz.func83, Tryz.ntmps83
  go_wp2_with (go_at_call 73; refine (inW_any _ _ _ _).mono ?_; rintro e w' ⟨rfl, rfl⟩)
  go_ret
  exact ⟨rfl, rfl⟩

def isCl (d : Int) (g : Cl) : Bool := clB d g.k g.a g.b
def isPz (d : Int) (gs : List Cl) : Bool := inW d 2 3 && (decide (gs.length ≤ 6) && gs.all (isCl d))
theorem isPz_d {d : Int} {gs : List Cl} (h : inW d 2 3 = false) : isPz d gs = false := by unfold isPz; rw [h]; rfl
theorem isPz_l {d : Int} {gs : List Cl} (h : 6 < gs.length) : isPz d gs = false := by unfold isPz; rw [decide_eq_false (by omega), Bool.false_and, Bool.and_false]
theorem isPz_a {d : Int} {gs : List Cl} (h : inW d 2 3 = true) (h2 : gs.length ≤ 6) : isPz d gs = gs.all (isCl d) := by unfold isPz; rw [h, decide_eq_true h2]; rfl
theorem inW_bd' {n lo hi : Int} (h : inW n lo hi = true) : lo ≤ n ∧ n ≤ hi := by
  unfold inW at h
  rw [Bool.and_eq_true, decide_eq_true_eq, decide_eq_true_eq] at h
  exact h
structure PzB (d : Int) (gs : List Cl) : Prop where
  d1 : 2 ≤ d
  d2 : d ≤ 3
  l : gs.length ≤ 6
  all : ∀ g ∈ gs, isCl d g = true
theorem isPz_bd {d : Int} {gs : List Cl} (h : isPz d gs = true) : PzB d gs := by
  unfold isPz at h
  rw [Bool.and_eq_true, Bool.and_eq_true, List.all_eq_true] at h
  have a := inW_bd' h.1
  exact ⟨a.1, a.2, of_decide_eq_true h.2.1, h.2.2⟩
theorem take_allC {p : Cl → Bool} (zs : List Cl) (k : Nat) (h : k < zs.length) : (zs.take (k + 1)).all p = ((zs.take k).all p && p zs[k]) := by
  rw [List.take_succ_eq_append_getElem h, List.all_append]; simp
theorem all_noC {p : Cl → Bool} {zs : List Cl} (k : Nat) (h : k < zs.length) (h2 : p zs[k] = false) : zs.all p = false := by
  rw [List.all_eq_false]; exact ⟨zs[k], List.getElem_mem h, by simp [h2]⟩

set_option maxHeartbeats 1000000 in
theorem pzGood_any (d : Int) (v : Value) (gs : List Cl) (w : World) (h : Cls w v gs) : Calls Tryz.prog 55 #[.agg #[.int .i64 d, v]] w fun e w' => e = .returned (.bool (isPz d gs)) ∧ Ext w w' := by
  have H := Lib.hid h
  have hl := h.1
  unfold maxLen at hl
  have X0 := Lib.hid (show Ext w (w.alloc (.cells #[.int .i64 d, v] 37)) from (Ext.refl w).alloc _)
  obtain ⟨a, cap, hv, hnil⟩ := h.at
  rw [hv] at H X0 ⊢
  clear hv h hnil
  cases h1 : inW d 2 3
  · have HV := Lib.hid (isPz_d (gs := gs) h1)
    go_enter Tryz.func55, Tryz.ntmps55
    go_wp2_with (go_at_call 83; refine (pzDig_any _ _).mono ?_; rintro e w' ⟨rfl, rfl⟩; rw [h1])
    go_ret
    exact ⟨ret_bool HV.out.symm, X0.out⟩
  by_cases h2 : 6 < gs.length
  · have HV := Lib.hid (isPz_l (d := d) h2)
    go_enter Tryz.func55, Tryz.ntmps55
    go_wp2_with (go_at_call 83; refine (pzDig_any _ _).mono ?_; rintro e w' ⟨rfl, rfl⟩; rw [h1])
    go_ret
    exact ⟨ret_bool HV.out.symm, X0.out⟩
  have hb := inW_bd' h1
  have HI := Lib.hid (isPz_a h1 (show gs.length ≤ 6 by omega))
  go_enter Tryz.func55, Tryz.ntmps55
  go_wp2_with (go_at_call 83; refine (pzDig_any _ _).mono ?_; rintro e w' ⟨rfl, rfl⟩; rw [h1])
  go_loopw [18] (fun i wr => ∃ k : Nat, k ≤ gs.length ∧ i = .int .i64 k ∧ (gs.take k).all (isCl d) = true ∧ Ext (w.alloc (.cells #[.int .i64 d, .slice a gs.length cap] 37)) wr) (fun i _ => gs.length - (intOf i).toNat)
  case atStart => exact ⟨0, Nat.zero_le _, rfl, rfl, Ext.refl _⟩
  case round =>
    obtain ⟨k, hk, rfl, hall, hx⟩ := hrel
    have HA := Lib.hid hall
    have HX := Lib.hid hx
    clear hall hx
    by_cases hlt : k < gs.length
    · rcases (H.out.ext (X0.out.trans HX.out)).2.2 with ⟨h3, _⟩ | ⟨b, off, cap', h1, hb1, hc⟩
      · rw [h3] at hlt; exact absurd hlt (by simp)
      have ha : a = some ⟨b, off, none⟩ := by injection h1
      have HCK := Lib.hid (hc k hlt)
      have HT := Lib.hid (take_allC (p := isCl d) gs k hlt)
      have HF := Lib.hid (fun (h : isCl d gs[k] = false) => all_noC (p := isCl d) k hlt h)
      obtain ⟨g, hg⟩ : ∃ g, g = gs[k] := ⟨_, rfl⟩
      rw [← hg] at HCK HT HF
      obtain ⟨gk, ga, gb⟩ := g
      clear hc h1 hg
      rw [ha] at HX ⊢
      obtain ⟨a1, a2⟩ := pz_cells (HX.out.trans ((Ext.refl wr).alloc (.cells #[.int .i64 gk, .int .i64 ga, .int .i64 gb] 26)))
      cases hbo : isCl d ⟨gk, ga, gb⟩
      · have HV := Lib.hid (HF.out hbo)
        have hb2 : clB d gk ga gb = false := hbo
        clear hbo
        go_wp2_with (first | (refine wpList_load_mid rfl _ _ rfl b (off + k * 3) rfl [.int .i64 gk, .int .i64 ga, .int .i64 gb] _ HCK.out Tryz.underlying26 rfl (ci_size (Cl.mk gk ga gb)) ?_) | (go_at_call 49; refine (pzClue_any _ _ _ _ _ (by omega)).mono ?_; rintro e w' ⟨rfl, x1⟩; have X1 := Lib.hid (((Ext.refl wr).alloc (.cells #[.int .i64 gk, .int .i64 ga, .int .i64 gb] 26)).trans x1); clear x1; rw [hb2]))
        go_ret
        exact ⟨ret_bool (HI.out.trans HV.out).symm, X0.out.trans ((ha ▸ HX.out).trans X1.out)⟩
      · have HN := Lib.hid (show (gs.take (k + 1)).all (isCl d) = true by rw [HT.out, HA.out, hbo]; rfl)
        have hb2 : clB d gk ga gb = true := hbo
        clear hbo
        go_wp2_with (first | (refine wpList_load_mid rfl _ _ rfl b (off + k * 3) rfl [.int .i64 gk, .int .i64 ga, .int .i64 gb] _ HCK.out Tryz.underlying26 rfl (ci_size (Cl.mk gk ga gb)) ?_) | (go_at_call 49; refine (pzClue_any _ _ _ _ _ (by omega)).mono ?_; rintro e w' ⟨rfl, x1⟩; have X1 := Lib.hid (((Ext.refl wr).alloc (.cells #[.int .i64 gk, .int .i64 ga, .int .i64 gb] 26)).trans x1); clear x1; rw [hb2]))
        go_roundw
        case rel => exact ⟨k + 1, by omega, by go_num, HN.out, HX.out.trans X1.out⟩
        case measure => simp [intOf]; omega
    · have HV := Lib.hid (show gs.all (isCl d) = true by have := HA.out; rw [List.take_of_length_le (by omega)] at this; exact this)
      go_wp2
      go_ret
      exact ⟨ret_bool (HI.out.trans HV.out).symm, X0.out.trans HX.out⟩

end Go.Proofs.YtpdnpphjlnlneaaGreatDoor
