/- How many solutions there are, the first one, all of them, is a puzzle solved: both sides. No conditions. -/
import Derived.Test.YtpdnpphjlnlneaaGreatDoorSlP
namespace Go.Proofs.YtpdnpphjlnlneaaGreatDoor
open Go.RowKit

def ResS (ts : List ByteArray) (ok : Bool) (w : World) (e : Ending) (w' : World) : Prop := ∃ v, e = .returned (.tuple #[v, .bool ok]) ∧ RowS w.heap.size w' v ts ∧ Ext w w'
/-- The solutions of a puzzle. -/
def solV (d : Int) (gs : List Cl) : List ByteArray := if isPz d gs then sols d.toNat gs else []
theorem solV_no {d : Int} {gs : List Cl} (h : isPz d gs = false) : solV d gs = [] := by unfold solV; rw [h]; rfl
theorem solV_yes {d : Int} {gs : List Cl} (h : isPz d gs = true) : solV d gs = sols d.toNat gs := by unfold solV; rw [h]; rfl
theorem solV_len (d : Int) (gs : List Cl) : (solV d gs).length ≤ 1000 := by
  cases h : isPz d gs
  · rw [solV_no h]; simp
  · rw [solV_yes h]
    have b := isPz_bd h
    have b1 := b.d1
    have b2 := b.d2
    exact Nat.le_trans (solK_len _ _ _) (pow_bd3 (by omega))
theorem solV_mem (d : Int) (gs : List Cl) : ∀ s ∈ solV d gs, s.size ≤ 3 := by
  cases h : isPz d gs
  · rw [solV_no h]; intro s hs; cases hs
  · rw [solV_yes h]
    have b := isPz_bd h
    have b1 := b.d1
    have b2 := b.d2
    intro s hs
    rw [solK_mem _ _ _ s hs]
    omega
theorem pzQ_any (d : Int) (v : Value) (gs : List Cl) (w : World) (h : Cls w v gs) (hp : isPz d gs = true) : Calls Tryz.prog 56 #[.int .i64 d, v] w fun e w' => ∃ u, e = .returned u ∧ RowS w.heap.size w' u (solV d gs) ∧ Ext w w' := by
  have b := isPz_bd hp
  have b1 := b.d1
  have b2 := b.d2
  have hl := b.l
  have ha := b.all
  rw [solV_yes hp]
  obtain ⟨D, rfl⟩ := Int.eq_ofNat_of_zero_le (show 0 ≤ d by omega)
  exact pzAll_any D v gs w h (by omega) (by omega) hl ha
theorem solQ_any (d : Int) (v : Value) (gs : List Cl) (w : World) (h : Cls w v gs) (hp : isPz d gs = true) : Calls Tryz.prog 69 #[.agg #[.int .i64 d, v]] w fun e w' => ∃ u, e = .returned u ∧ RowS w.heap.size w' u (solV d gs) ∧ Ext w w' := by
  have b := isPz_bd hp
  have b1 := b.d1
  have b2 := b.d2
  have hl := b.l
  have ha := b.all
  rw [solV_yes hp]
  obtain ⟨D, rfl⟩ := Int.eq_ofNat_of_zero_le (show 0 ≤ d by omega)
  exact solP_any D v gs w h (by omega) (by omega) hl ha
def cntV (d : Int) (gs : List Cl) : Int := ((solV d gs).length : Nat)
theorem cntV_no {d : Int} {gs : List Cl} (h : isPz d gs = false) : cntV d gs = 0 := by unfold cntV; rw [solV_no h]; rfl
def slvV (d : Int) (gs : List Cl) : Bool := decide (cntV d gs = 1)
theorem slvV_no {d : Int} {gs : List Cl} (h : isPz d gs = false) : slvV d gs = false := by unfold slvV; rw [cntV_no h]; rfl
theorem ret_ib {a a' : Int} {b b' : Bool} (h : a = a') (h2 : b = b') : Ending.returned (.tuple #[.int .i64 a, .bool b]) = .returned (.tuple #[.int .i64 a', .bool b']) := by rw [h, h2]
theorem ret_2B {a a' b b' : Bool} (h : a = a') (h2 : b = b') : Ending.returned (.tuple #[.bool a, .bool b]) = .returned (.tuple #[.bool a', .bool b']) := by rw [h, h2]

theorem cntP_any (d : Int) (v : Value) (gs : List Cl) (w : World) (h : Cls w v gs) (hp : isPz d gs = true) : Calls Tryz.prog 59 #[.agg #[.int .i64 d, v]] w fun e w' => e = .returned (.int .i64 (cntV d gs)) ∧ Ext w w' := by
  have HQ := Lib.hid (fun w h => solQ_any d v gs w h hp)
  have H := Lib.hid h
  have HV := Lib.hid (show (((solV d gs).length : Nat) : Int) = cntV d gs from rfl)
  have X0 := Lib.hid (show Ext w (w.alloc (.cells #[.int .i64 d, v] 37)) from (Ext.refl w).alloc _)
  clear h hp
  go_enter Tryz.func59, Tryz.ntmps59
  go_wp2_with fail
  refine (HQ.out _ (H.out.ext X0.out)).mono ?_
  rintro e w1 ⟨u, rfl, hr, x1⟩
  obtain ⟨ua, uc, rfl⟩ := hr.shape
  go_wp2
  go_ret
  exact ⟨ret_iD HV.out, X0.out.trans x1⟩
theorem slvP_any (d : Int) (v : Value) (gs : List Cl) (w : World) (h : Cls w v gs) (hp : isPz d gs = true) : Calls Tryz.prog 62 #[.agg #[.int .i64 d, v]] w fun e w' => e = .returned (.bool (slvV d gs)) ∧ Ext w w' := by
  have HQ := Lib.hid (fun w h => cntP_any d v gs w h hp)
  have H := Lib.hid h
  have HV := Lib.hid (show (cntV d gs == 1) = slvV d gs from eqb_int _ _)
  obtain ⟨x, hx⟩ : ∃ x, x = cntV d gs := ⟨_, rfl⟩
  rw [← hx] at HQ HV
  have X0 := Lib.hid (show Ext w (w.alloc (.cells #[.int .i64 d, v] 37)) from (Ext.refl w).alloc _)
  clear h hp hx
  go_enter Tryz.func62, Tryz.ntmps62
  go_wp2_with fail
  refine (HQ.out _ (H.out.ext X0.out)).mono ?_
  rintro e w1 ⟨rfl, x1⟩
  go_wp2
  go_ret
  exact ⟨ret_bool HV.out, X0.out.trans x1⟩
theorem slvS_any (d : Int) (v : Value) (gs : List Cl) (w : World) (h : Cls w v gs) (hp : isPz d gs = true) : Calls Tryz.prog 61 #[.int .i64 d, v] w fun e w' => e = .returned (.bool (slvV d gs)) ∧ Ext w w' := by
  have HQ := Lib.hid (fun w h => pzQ_any d v gs w h hp)
  have H := Lib.hid h
  have HV := Lib.hid (show (cntV d gs == 1) = slvV d gs from eqb_int _ _)
  have HW := Lib.hid (show (((solV d gs).length : Nat) : Int) = cntV d gs from rfl)
  obtain ⟨ss, hs⟩ : ∃ ss, ss = solV d gs := ⟨_, rfl⟩
  rw [← hs] at HQ HW
  rw [← HW.out] at HV
  clear h hp hs
  go_enter Tryz.func61, Tryz.ntmps61
  go_wp2_with fail
  refine (HQ.out _ H.out).mono ?_
  rintro e w1 ⟨u, rfl, hr, x1⟩
  obtain ⟨ua, uc, rfl⟩ := hr.shape
  go_wp2
  go_ret
  exact ⟨ret_bool (by first | exact HV.out | (rw [← HV.out]; simp)), x1⟩

set_option maxRecDepth 100000 in
set_option maxHeartbeats 1000000 in
theorem csS_any (d : Int) (v : Value) (gs : List Cl) (w : World) (h : Cls w v gs) : Calls Tryz.prog 18 #[.agg #[.int .i64 d, v]] w fun e w' => e = .returned (.tuple #[.int .i64 (cntV d gs), .bool (isPz d gs)]) ∧ Ext w w' := by
  have X0 := Lib.hid (show Ext w (w.alloc (.cells #[.int .i64 d, v] 37)) from (Ext.refl w).alloc _)
  have H := Lib.hid h
  have HG := Lib.hid (fun w h => pzGood_any d v gs w h)
  cases hp : isPz d gs
  · have HV := Lib.hid (cntV_no hp)
    rw [hp] at HG
    clear hp h
    go_enter Tryz.func18, Tryz.ntmps18
    go_wp2_with (go_at_call 55; refine (HG.out _ (H.out.ext X0.out)).mono ?_; rintro e w1 ⟨rfl, x1⟩)
    go_ret2
    exact ⟨ret_ib HV.out.symm rfl, X0.out.trans x1⟩
  · have HQ := Lib.hid (fun w h => pzQ_any d v gs w h hp)
    rw [hp] at HG
    clear hp h
    go_enter Tryz.func18, Tryz.ntmps18
    go_wp2_with fail
    refine (HG.out _ (H.out.ext X0.out)).mono ?_
    rintro e w1 ⟨rfl, x1⟩
    have X1 := Lib.hid x1
    clear x1
    obtain ⟨a1, a2⟩ := pz_cells X1.out
    go_wp2_with fail
    refine (HQ.out _ (H.out.ext (X0.out.trans X1.out))).mono ?_
    rintro e w2 ⟨u, rfl, hr, x2⟩
    obtain ⟨ua, uc, rfl⟩ := hr.shape
    go_wp2
    go_ret2
    exact ⟨rfl, X0.out.trans (X1.out.trans x2)⟩

set_option maxRecDepth 100000 in
set_option maxHeartbeats 1000000 in
theorem csP_any (d : Int) (v : Value) (gs : List Cl) (w : World) (h : Cls w v gs) : Calls Tryz.prog 20 #[.agg #[.int .i64 d, v]] w fun e w' => e = .returned (.tuple #[.int .i64 (cntV d gs), .bool (isPz d gs)]) ∧ Ext w w' := by
  have X0 := Lib.hid (show Ext w (w.alloc (.cells #[.int .i64 d, v] 37)) from (Ext.refl w).alloc _)
  have H := Lib.hid h
  have HG := Lib.hid (fun w h => isPzP_any d v gs w h)
  cases hp : isPz d gs
  · have HV := Lib.hid (cntV_no hp)
    rw [hp] at HG
    clear hp h
    go_enter Tryz.func20, Tryz.ntmps20
    go_wp2_with (go_at_call 58; refine (HG.out _ (H.out.ext X0.out)).mono ?_; rintro e w1 ⟨rfl, x1⟩)
    go_ret2
    exact ⟨ret_ib HV.out.symm rfl, X0.out.trans x1⟩
  · have HQ := Lib.hid (fun w h => cntP_any d v gs w h hp)
    rw [hp] at HG
    clear hp h
    go_enter Tryz.func20, Tryz.ntmps20
    go_wp2_with fail
    refine (HG.out _ (H.out.ext X0.out)).mono ?_
    rintro e w1 ⟨rfl, x1⟩
    have X1 := Lib.hid x1
    clear x1
    obtain ⟨a1, a2⟩ := pz_cells X1.out
    go_wp2_with fail
    refine (HQ.out _ (H.out.ext (X0.out.trans X1.out))).mono ?_
    rintro e w2 ⟨rfl, x2⟩
    go_wp2
    go_ret2
    exact ⟨rfl, X0.out.trans (X1.out.trans x2)⟩

set_option maxRecDepth 100000 in
set_option maxHeartbeats 1000000 in
theorem isS_any (d : Int) (v : Value) (gs : List Cl) (w : World) (h : Cls w v gs) : Calls Tryz.prog 22 #[.agg #[.int .i64 d, v]] w fun e w' => e = .returned (.tuple #[.bool (slvV d gs), .bool (isPz d gs)]) ∧ Ext w w' := by
  have X0 := Lib.hid (show Ext w (w.alloc (.cells #[.int .i64 d, v] 37)) from (Ext.refl w).alloc _)
  have H := Lib.hid h
  have HG := Lib.hid (fun w h => pzGood_any d v gs w h)
  cases hp : isPz d gs
  · have HV := Lib.hid (slvV_no hp)
    rw [hp] at HG
    clear hp h
    go_enter Tryz.func22, Tryz.ntmps22
    go_wp2_with (go_at_call 55; refine (HG.out _ (H.out.ext X0.out)).mono ?_; rintro e w1 ⟨rfl, x1⟩)
    go_ret2
    exact ⟨ret_2B HV.out.symm rfl, X0.out.trans x1⟩
  · have HQ := Lib.hid (fun w h => slvS_any d v gs w h hp)
    rw [hp] at HG
    clear hp h
    go_enter Tryz.func22, Tryz.ntmps22
    go_wp2_with fail
    refine (HG.out _ (H.out.ext X0.out)).mono ?_
    rintro e w1 ⟨rfl, x1⟩
    have X1 := Lib.hid x1
    clear x1
    obtain ⟨a1, a2⟩ := pz_cells X1.out
    go_wp2_with fail
    refine (HQ.out _ (H.out.ext (X0.out.trans X1.out))).mono ?_
    rintro e w2 ⟨rfl, x2⟩
    go_wp2
    go_ret2
    exact ⟨rfl, X0.out.trans (X1.out.trans x2)⟩

set_option maxRecDepth 100000 in
set_option maxHeartbeats 1000000 in
theorem isP_any (d : Int) (v : Value) (gs : List Cl) (w : World) (h : Cls w v gs) : Calls Tryz.prog 23 #[.agg #[.int .i64 d, v]] w fun e w' => e = .returned (.tuple #[.bool (slvV d gs), .bool (isPz d gs)]) ∧ Ext w w' := by
  have X0 := Lib.hid (show Ext w (w.alloc (.cells #[.int .i64 d, v] 37)) from (Ext.refl w).alloc _)
  have H := Lib.hid h
  have HG := Lib.hid (fun w h => isPzP_any d v gs w h)
  cases hp : isPz d gs
  · have HV := Lib.hid (slvV_no hp)
    rw [hp] at HG
    clear hp h
    go_enter Tryz.func23, Tryz.ntmps23
    go_wp2_with (go_at_call 58; refine (HG.out _ (H.out.ext X0.out)).mono ?_; rintro e w1 ⟨rfl, x1⟩)
    go_ret2
    exact ⟨ret_2B HV.out.symm rfl, X0.out.trans x1⟩
  · have HQ := Lib.hid (fun w h => slvP_any d v gs w h hp)
    rw [hp] at HG
    clear hp h
    go_enter Tryz.func23, Tryz.ntmps23
    go_wp2_with fail
    refine (HG.out _ (H.out.ext X0.out)).mono ?_
    rintro e w1 ⟨rfl, x1⟩
    have X1 := Lib.hid x1
    clear x1
    obtain ⟨a1, a2⟩ := pz_cells X1.out
    go_wp2_with fail
    refine (HQ.out _ (H.out.ext (X0.out.trans X1.out))).mono ?_
    rintro e w2 ⟨rfl, x2⟩
    go_wp2
    go_ret2
    exact ⟨rfl, X0.out.trans (X1.out.trans x2)⟩

set_option maxRecDepth 100000 in
set_option maxHeartbeats 1000000 in
theorem soS_any (d : Int) (v : Value) (gs : List Cl) (w : World) (h : Cls w v gs) : Calls Tryz.prog 34 #[.agg #[.int .i64 d, v]] w (ResS (solV d gs) (isPz d gs) w) := by
  have X0 := Lib.hid (show Ext w (w.alloc (.cells #[.int .i64 d, v] 37)) from (Ext.refl w).alloc _)
  have H := Lib.hid h
  have HG := Lib.hid (fun w h => pzGood_any d v gs w h)
  cases hp : isPz d gs
  · have HV := Lib.hid (solV_no hp)
    rw [hp] at HG
    clear hp h
    go_enter Tryz.func34, Tryz.ntmps34
    go_wp2_with (go_at_call 55; refine (HG.out _ (H.out.ext X0.out)).mono ?_; rintro e w1 ⟨rfl, x1⟩)
    go_ret2
    exact ⟨_, rfl, by rw [HV.out]; exact RowS.nil _ _, X0.out.trans x1⟩
  · have HQ := Lib.hid (fun w h => pzQ_any d v gs w h hp)
    rw [hp] at HG
    clear hp h
    go_enter Tryz.func34, Tryz.ntmps34
    go_wp2_with fail
    refine (HG.out _ (H.out.ext X0.out)).mono ?_
    rintro e w1 ⟨rfl, x1⟩
    have X1 := Lib.hid x1
    clear x1
    obtain ⟨a1, a2⟩ := pz_cells X1.out
    go_wp2_with fail
    refine (HQ.out _ (H.out.ext (X0.out.trans X1.out))).mono ?_
    rintro e w2 ⟨u, rfl, hr, x2⟩
    obtain ⟨ua, uc, rfl⟩ := hr.shape
    go_wp2
    go_ret2
    exact ⟨_, rfl, hr.down (X0.out.trans X1.out).size, X0.out.trans (X1.out.trans x2)⟩

set_option maxRecDepth 100000 in
set_option maxHeartbeats 1000000 in
theorem soP_any (d : Int) (v : Value) (gs : List Cl) (w : World) (h : Cls w v gs) : Calls Tryz.prog 35 #[.agg #[.int .i64 d, v]] w (ResS (solV d gs) (isPz d gs) w) := by
  have X0 := Lib.hid (show Ext w (w.alloc (.cells #[.int .i64 d, v] 37)) from (Ext.refl w).alloc _)
  have H := Lib.hid h
  have HG := Lib.hid (fun w h => isPzP_any d v gs w h)
  cases hp : isPz d gs
  · have HV := Lib.hid (solV_no hp)
    rw [hp] at HG
    clear hp h
    go_enter Tryz.func35, Tryz.ntmps35
    go_wp2_with (go_at_call 58; refine (HG.out _ (H.out.ext X0.out)).mono ?_; rintro e w1 ⟨rfl, x1⟩)
    go_ret2
    exact ⟨_, rfl, by rw [HV.out]; exact RowS.nil _ _, X0.out.trans x1⟩
  · have HQ := Lib.hid (fun w h => solQ_any d v gs w h hp)
    rw [hp] at HG
    clear hp h
    go_enter Tryz.func35, Tryz.ntmps35
    go_wp2_with fail
    refine (HG.out _ (H.out.ext X0.out)).mono ?_
    rintro e w1 ⟨rfl, x1⟩
    have X1 := Lib.hid x1
    clear x1
    obtain ⟨a1, a2⟩ := pz_cells X1.out
    go_wp2_with fail
    refine (HQ.out _ (H.out.ext (X0.out.trans X1.out))).mono ?_
    rintro e w2 ⟨u, rfl, hr, x2⟩
    obtain ⟨ua, uc, rfl⟩ := hr.shape
    go_wp2
    go_ret2
    exact ⟨_, rfl, hr.down (X0.out.trans X1.out).size, X0.out.trans (X1.out.trans x2)⟩

end Go.Proofs.YtpdnpphjlnlneaaGreatDoor
