/- The clue that the fewest numbers fit alone: both sides. No conditions. -/
import Derived.Test.YtpdnpphjlnlneaaGreatDoorLbc
import Derived.Lib.Slices
import Derived.Deep.RegionWith
namespace Go.Proofs.YtpdnpphjlnlneaaGreatDoor
open Go.RowKit

/-- How many numbers fit each clue alone. -/
def aloK (d : Int) (gs : List Cl) (k : Nat) : List Int := (List.range k).map fun k => cntV d ((gs.take (k + 1)).drop k)
theorem aloK_len (d : Int) (gs : List Cl) (k : Nat) : (aloK d gs k).length = k := by unfold aloK; rw [List.length_map, List.length_range]
theorem aloK_at (d : Int) (gs : List Cl) (n j : Nat) (h : j < n) : (aloK d gs n).getD j 0 = cntV d ((gs.take (j + 1)).drop j) := by
  rw [List.getD_eq_getElem?_getD]
  unfold aloK
  rw [List.getElem?_map, List.getElem?_range h]
  rfl
def besOk (d : Int) (gs : List Cl) : Bool := isPz d gs && decide (0 < gs.length)
def besV (d : Int) (gs : List Cl) : Int := if besOk d gs then Lib.idxOf (aloK d gs gs.length) (Lib.minOf (aloK d gs gs.length)) else 0
theorem besOk_p {d : Int} {gs : List Cl} (h : isPz d gs = false) : besOk d gs = false := by unfold besOk; rw [h]; rfl
theorem besOk_l {d : Int} {gs : List Cl} (h : gs.length = 0) : besOk d gs = false := by unfold besOk; rw [decide_eq_false (by omega), Bool.and_false]
theorem besOk_y {d : Int} {gs : List Cl} (h : isPz d gs = true) (h2 : 0 < gs.length) : besOk d gs = true := by unfold besOk; rw [h, decide_eq_true h2]; rfl
theorem besV_no {d : Int} {gs : List Cl} (h : besOk d gs = false) : besV d gs = 0 := by unfold besV; rw [h]; rfl
theorem besV_yes {d : Int} {gs : List Cl} (h : besOk d gs = true) : besV d gs = Lib.idxOf (aloK d gs gs.length) (Lib.minOf (aloK d gs gs.length)) := by unfold besV; rw [h]; rfl

/-- The first least one of the first k. -/
def bstI (cs : List Int) (k b : Nat) : Prop := b < k ∧ cs.getD b 0 = Lib.minOf (cs.take k) ∧ ∀ j, j < b → cs.getD j 0 ≠ Lib.minOf (cs.take k)
theorem min_le (cs : List Int) : ∀ k, k ≤ cs.length → ∀ j, j < k → Lib.minOf (cs.take k) ≤ cs.getD j 0
  | 0, _, j, hj => absurd hj (by omega)
  | k + 1, hk, j, hj => by
    by_cases h0 : k = 0
    · subst h0
      obtain rfl : j = 0 := by omega
      rw [Lib.minOf_one]
      exact Int.le_refl _
    · rw [Lib.minOf_step cs k (by omega) (by omega)]
      by_cases e : j = k
      · subst e; exact Int.min_le_right _ _
      · exact Int.le_trans (Int.min_le_left _ _) (min_le cs k (by omega) j (by omega))
theorem bst_first (cs : List Int) : bstI cs 1 0 := ⟨by omega, (Lib.minOf_one cs).symm, fun j h => absurd h (by omega)⟩
theorem bst_less {cs : List Int} {k b : Nat} (h0 : 0 < k) (hk : k < cs.length) (h : bstI cs k b) (hl : cs.getD k 0 < cs.getD b 0) : bstI cs (k + 1) k := by
  obtain ⟨h1, h2, h3⟩ := h
  have e : Lib.minOf (cs.take (k + 1)) = cs.getD k 0 := by
    rw [Lib.minOf_step cs k h0 hk, ← h2]
    exact Int.min_eq_right (by omega)
  refine ⟨by omega, e.symm, fun j hj => ?_⟩
  rw [e]
  have := min_le cs k (by omega) j hj
  omega
theorem bst_more {cs : List Int} {k b : Nat} (h0 : 0 < k) (hk : k < cs.length) (h : bstI cs k b) (hl : ¬ cs.getD k 0 < cs.getD b 0) : bstI cs (k + 1) b := by
  obtain ⟨h1, h2, h3⟩ := h
  have e : Lib.minOf (cs.take (k + 1)) = cs.getD b 0 := by
    rw [Lib.minOf_step cs k h0 hk, ← h2]
    exact Int.min_eq_left (by omega)
  refine ⟨by omega, e.symm, fun j hj => ?_⟩
  rw [e, h2]
  exact h3 j hj
theorem bst_end {cs : List Int} {b : Nat} (h : bstI cs cs.length b) : Lib.idxOf cs (Lib.minOf cs) = (b : Int) := by
  obtain ⟨h1, h2, h3⟩ := h
  rw [List.take_length] at h2 h3
  have := Lib.idxOf_hit cs cs.length b (Lib.minOf cs) h1 (Nat.le_refl _) h2 h3
  rw [List.take_length] at this
  exact this

set_option maxRecDepth 100000 in
set_option maxHeartbeats 4000000 in
theorem bcS_any (d : Int) (v : Value) (gs : List Cl) (w : World) (h : Clc w v gs) : Calls Tryz.prog 30 #[.agg #[.int .i64 d, v]] w fun e w' => e = .returned (.tuple #[.int .i64 (besV d gs), .bool (besOk d gs)]) ∧ Ext w w' := by
  have X0 := Lib.hid (show Ext w (w.alloc (.cells #[.int .i64 d, v] 37)) from (Ext.refl w).alloc _)
  have H := Lib.hid h.1
  have HG := Lib.hid (fun w h => pzGood_any d v gs w h)
  obtain ⟨a, cap, rfl, hcap⟩ := h.2
  clear h
  cases hp : isPz d gs
  · have HO := Lib.hid (besOk_p hp)
    have HV := Lib.hid (besV_no HO.out)
    rw [hp] at HG
    clear hp
    go_enter Tryz.func30, Tryz.ntmps30
    go_wp2_with (go_at_call 55; refine (HG.out _ (H.out.ext X0.out)).mono ?_; rintro e w1 ⟨rfl, x1⟩)
    go_ret2
    exact ⟨ret_ib HV.out.symm HO.out.symm, X0.out.trans x1⟩
  rw [hp] at HG
  have HP := Lib.hid hp
  have h6 := (isPz_bd hp).l
  have HOY := Lib.hid (fun h2 => besOk_y hp h2)
  clear hp
  by_cases hz : gs.length = 0
  · have HO := Lib.hid (besOk_l (d := d) hz)
    have HV := Lib.hid (besV_no HO.out)
    have HZ := Lib.hid hz
    rw [hz] at X0
    have HGZ := Lib.hid (fun w (h : Cls w (.slice a 0 cap) gs) => (hz ▸ HG.out : ∀ w, Cls w (.slice a 0 cap) gs → Calls Tryz.prog 55 #[.agg #[.int .i64 d, .slice a 0 cap]] w fun e w' => e = .returned (.bool true) ∧ Ext w w') w h)
    have H0 := Lib.hid (show Cls w (.slice a 0 cap) gs by have := H.out; rw [hz] at this; exact this)
    rw [hz]
    clear HG H hz hcap h6
    go_enter Tryz.func30, Tryz.ntmps30
    go_wp2_with fail
    refine (HGZ.out _ (H0.out.ext X0.out)).mono ?_
    rintro e w1 ⟨rfl, x1⟩
    obtain ⟨a1, a2⟩ := pz_cells x1
    go_wp2
    go_ret2
    exact ⟨ret_ib HV.out.symm HO.out.symm, X0.out.trans x1⟩
  have HO := Lib.hid (HOY.out (by omega))
  have HV := Lib.hid (besV_yes HO.out)
  obtain ⟨L, hL⟩ : ∃ L, L = gs.length := ⟨_, rfl⟩
  have HLL := Lib.hid hL
  rw [← hL] at X0 hcap h6 HV HG hz ⊢
  clear hL HOY
  obtain ⟨cs, hcs⟩ : ∃ cs, cs = aloK d gs L := ⟨_, rfl⟩
  have HCS := Lib.hid hcs
  rw [← hcs] at HV
  have HCL := Lib.hid (show cs.length = L by rw [hcs, aloK_len])
  have HCA := Lib.hid (fun j (h : j < L) => (show cs.getD j 0 = cntV d ((gs.take (j + 1)).drop j) by rw [hcs]; exact aloK_at d gs L j h))
  clear hcs
  have hLz : ((L : Int) == 0) = false := beq_eq_false_iff_ne.2 (by omega)
  go_enter Tryz.func30, Tryz.ntmps30
  go_wp2_with fail
  refine (HG.out _ (by rw [HLL.out]; exact (H.out.ext (by rw [← HLL.out]; exact X0.out)))).mono ?_
  rintro e w1 ⟨rfl, x1⟩
  have X1 := Lib.hid x1
  obtain ⟨a1, a2⟩ := pz_cells x1
  clear x1
  go_wp2
  go_loopw [4, 5, 20] (fun b l i wr => ∃ k : Nat, k ≤ L ∧ i = .int .i64 k ∧ ((k = 0 ∧ b = .int .i64 0 ∧ l = .int .i64 0) ∨ (0 < k ∧ ∃ q : Nat, b = .int .i64 q ∧ l = .int .i64 (cs.getD q 0) ∧ bstI cs k q)) ∧ Ext (w.alloc (.cells #[.int .i64 d, .slice a L cap] 37)) wr) (fun _ _ i _ => L - (intOf i).toNat)
  case atStart => exact ⟨0, Nat.zero_le _, rfl, .inl ⟨rfl, rfl, rfl⟩, X1.out⟩
  case round =>
    obtain ⟨k, hk, rfl, hbl, hx⟩ := hrel
    have HX := Lib.hid hx
    obtain ⟨b1, b2⟩ := pz_cells hx
    clear hx a1 a2
    by_cases hlt : k < L
    · have hkc : k + 1 ≤ cap := by omega
      have hkg : k + 1 ≤ gs.length := by rw [← HLL.out]; omega
      obtain ⟨b, off, ha, hsub⟩ := H.out.sub (f := k) (t := k + 1) (by omega) hkg
      have HQ := Lib.hid (fun (w' : World) (x' : Ext w w') => pzQ_any d (.slice (some ⟨b, off + k * 3, none⟩) 1 (cap - k)) ((gs.take (k + 1)).drop k) w' (by have := (hsub (cap - k)).ext x'; rw [show k + 1 - k = 1 by omega] at this; exact this) (isPz_part HP.out k (k + 1)))
      have HC := Lib.hid (show (((solV d ((gs.take (k + 1)).drop k)).length : Nat) : Int) = cs.getD k 0 from (HCA.out k hlt).symm)
      obtain ⟨ss, hss⟩ : ∃ ss, ss = solV d ((gs.take (k + 1)).drop k) := ⟨_, rfl⟩
      rw [← hss] at HQ HC
      rw [ha] at HX ⊢
      rw [ha] at b2
      have W1 : IntKind.i64.wrap ((k : Int) + 1) = (k : Int) + 1 := by simp only [IntKind.wrap_i64]; omega
      clear hss hsub hkg
      rcases hbl with ⟨h0, rfl, rfl⟩ | ⟨h0, q, rfl, rfl, hq⟩
      · have HN := Lib.hid (show bstI cs (k + 1) k by rw [h0]; exact bst_first cs)
        have hbe : ((k : Int) == 0) = true := beq_iff_eq.2 (by omega)
        clear h0
        go_wp2
        go_region_with (go_at_call 56; refine (HQ.out _ (X0.out.trans (ha ▸ ext_drewN HX.out _))).mono ?_; rintro e w2 ⟨u, rfl, hr2, x2⟩; obtain ⟨ua, uc, rfl⟩ := hr2.shape; have X2 := Lib.hid ((ext_drewN HX.out _).trans x2); clear hr2 x2)
        all_goals go_wp2
        all_goals go_roundw
        all_goals first | exact ⟨k + 1, by omega, by go_num, .inr ⟨by omega, k, rfl, by rw [HC.out], HN.out⟩, X2.out⟩ | (simp [intOf]; omega)
      · have hbe : ((k : Int) == 0) = false := beq_eq_false_iff_ne.2 (by omega)
        have HCN := Lib.hid (show k < cs.length by rw [HCL.out]; exact hlt)
        have HM := Lib.hid (fun (hl : cs.getD k 0 < cs.getD q 0) => bst_less h0 HCN.out hq hl)
        have HR := Lib.hid (fun (hl : ¬ cs.getD k 0 < cs.getD q 0) => bst_more h0 HCN.out hq hl)
        rw [← HC.out] at HM HR
        obtain ⟨y, hy⟩ : ∃ y, y = cs.getD q 0 := ⟨_, rfl⟩
        have HY := Lib.hid hy
        rw [← hy] at HM HR ⊢
        clear hy hq
        by_cases hl : (ss.length : Int) < y
        · have HN := Lib.hid (HM.out hl)
          go_wp2
          go_region_with (go_at_call 56; refine (HQ.out _ (X0.out.trans (ha ▸ ext_drewN HX.out _))).mono ?_; rintro e w2 ⟨u, rfl, hr2, x2⟩; obtain ⟨ua, uc, rfl⟩ := hr2.shape; have X2 := Lib.hid ((ext_drewN HX.out _).trans x2); clear hr2 x2)
          all_goals go_wp2
          all_goals go_roundw
          all_goals first | exact ⟨k + 1, by omega, by go_num, .inr ⟨by omega, k, rfl, by rw [HC.out], HN.out⟩, X2.out⟩ | (simp [intOf]; omega)
        · have HN := Lib.hid (HR.out hl)
          go_wp2
          go_region_with (go_at_call 56; refine (HQ.out _ (X0.out.trans (ha ▸ ext_drewN HX.out _))).mono ?_; rintro e w2 ⟨u, rfl, hr2, x2⟩; obtain ⟨ua, uc, rfl⟩ := hr2.shape; have X2 := Lib.hid ((ext_drewN HX.out _).trans x2); clear hr2 x2)
          all_goals go_wp2
          all_goals go_roundw
          all_goals first | exact ⟨k + 1, by omega, by go_num, .inr ⟨by omega, q, rfl, by rw [HY.out], HN.out⟩, X2.out⟩ | (simp [intOf]; omega)
    · obtain rfl : k = L := by omega
      rcases hbl with ⟨h0, _⟩ | ⟨h0, q, rfl, rfl, hq⟩
      · exact absurd h0 hz
      · have HE := Lib.hid (show (q : Int) = besV d gs by
          rw [HV.out]
          have hq2 : bstI cs cs.length q := by rw [HCL.out]; exact hq
          have := bst_end hq2
          rw [← this, HCS.out, HLL.out])
        clear hq
        go_wp2
        go_ret2
        exact ⟨ret_ib HE.out HO.out.symm, X0.out.trans HX.out⟩
end Go.Proofs.YtpdnpphjlnlneaaGreatDoor
