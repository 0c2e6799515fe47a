/- The first solution: both sides. No conditions. -/
import Derived.Test.YtpdnpphjlnlneaaGreatDoorCts
namespace Go.Proofs.YtpdnpphjlnlneaaGreatDoor
open Go.RowKit

def firV (d : Int) (gs : List Cl) : ByteArray := (solV d gs).headD ⟨#[]⟩
def anyV (d : Int) (gs : List Cl) : Bool := !(solV d gs).isEmpty
theorem fir_nil {d : Int} {gs : List Cl} (h : solV d gs = []) : firV d gs = ⟨#[]⟩ ∧ anyV d gs = false := by unfold firV anyV; rw [h]; exact ⟨rfl, rfl⟩
theorem fir_cons {d : Int} {gs : List Cl} {s : ByteArray} {l : List ByteArray} (h : solV d gs = s :: l) : firV d gs = s ∧ anyV d gs = true := by unfold firV anyV; rw [h]; exact ⟨rfl, rfl⟩
theorem ret_sb' {a a' : ByteArray} {b b' : Bool} (h : a = a') (h2 : b = b') : Ending.returned (.tuple #[.string a, .bool b]) = .returned (.tuple #[.string a', .bool b']) := by rw [h, h2]

set_option maxRecDepth 100000 in
set_option maxHeartbeats 1000000 in
theorem fiP_any (d : Int) (v : Value) (gs : List Cl) (w : World) (h : Cls w v gs) : Calls Tryz.prog 40 #[.agg #[.int .i64 d, v]] w fun e w' => e = .returned (.tuple #[.string (firV d gs), .bool (anyV d gs)]) ∧ Ext w w' := by
  have H := Lib.hid h
  have HQ := Lib.hid (fun w h => soP_any d v gs w h)
  rcases hs : solV d gs with _ | ⟨s, l⟩
  · obtain ⟨e1, e2⟩ := fir_nil hs
    have E1 := Lib.hid e1
    have E2 := Lib.hid e2
    rw [hs] at HQ
    clear hs h e1 e2
    go_enter Tryz.func40, Tryz.ntmps40
    go_wp2_with fail
    first | refine (HQ.out _ H.out).mono ?_ | refine (HQ.out _ (H.out.ext ((Ext.refl _).alloc _))).mono ?_
    rintro e w1 ⟨u, rfl, hr, x1⟩
    obtain ⟨ua, uc, rfl⟩ := hr.shape
    go_wp2
    go_ret2
    exact ⟨ret_sb' E1.out.symm E2.out.symm, by first | exact x1 | exact ((Ext.refl _).alloc _).trans x1⟩
  · obtain ⟨e1, e2⟩ := fir_cons hs
    have E1 := Lib.hid e1
    have E2 := Lib.hid e2
    rw [hs] at HQ
    clear hs h e1 e2
    go_enter Tryz.func40, Tryz.ntmps40
    go_wp2_with fail
    first | refine (HQ.out _ H.out).mono ?_ | refine (HQ.out _ (H.out.ext ((Ext.refl _).alloc _))).mono ?_
    rintro e w1 ⟨u, rfl, hr, x1⟩
    obtain ⟨ua, uc, rfl⟩ := hr.shape
    obtain ⟨g, rfl, _, hg, hc, _⟩ := RowS.at hr 0 (by simp)
    have hc0 : w1.cell? ⟨g, 0, none⟩ = some (.string s) := hc
    clear hr hc
    go_wp2
    go_ret2
    exact ⟨ret_sb' E1.out.symm E2.out.symm, by first | exact x1 | exact ((Ext.refl _).alloc _).trans x1⟩

set_option maxRecDepth 100000 in
set_option maxHeartbeats 1000000 in
theorem fiS_any (d : Int) (v : Value) (gs : List Cl) (w : World) (h : Cls w v gs) : Calls Tryz.prog 39 #[.agg #[.int .i64 d, v]] w fun e w' => e = .returned (.tuple #[.string (firV d gs), .bool (anyV d gs)]) ∧ Ext w w' := by
  have X0 := Lib.hid (show Ext w (w.alloc (.cells #[.int .i64 d, v] 37)) from (Ext.refl w).alloc _)
  have H := Lib.hid h
  have HG := Lib.hid (fun w h => pzGood_any d v gs w h)
  cases hp : isPz d gs
  · obtain ⟨e1, e2⟩ := fir_nil (solV_no hp)
    have E1 := Lib.hid e1
    have E2 := Lib.hid e2
    rw [hp] at HG
    clear hp h e1 e2
    go_enter Tryz.func39, Tryz.ntmps39
    go_wp2_with (go_at_call 55; refine (HG.out _ (H.out.ext X0.out)).mono ?_; rintro e w1 ⟨rfl, x1⟩)
    go_ret2
    exact ⟨ret_sb' E1.out.symm E2.out.symm, X0.out.trans x1⟩
  have HQ := Lib.hid (fun w h => pzQ_any d v gs w h hp)
  rw [hp] at HG
  rcases hs : solV d gs with _ | ⟨s, l⟩
  · obtain ⟨e1, e2⟩ := fir_nil hs
    have E1 := Lib.hid e1
    have E2 := Lib.hid e2
    rw [hs] at HQ
    clear hs hp h e1 e2
    go_enter Tryz.func39, Tryz.ntmps39
    go_wp2_with fail
    refine (HG.out _ (H.out.ext X0.out)).mono ?_
    rintro e w1 ⟨rfl, x1⟩
    have X1 := Lib.hid x1
    clear x1
    obtain ⟨a1, a2⟩ := pz_cells X1.out
    go_wp2_with fail
    refine (HQ.out _ (H.out.ext (X0.out.trans X1.out))).mono ?_
    rintro e w2 ⟨u, rfl, hr, x2⟩
    obtain ⟨ua, uc, rfl⟩ := hr.shape
    go_wp2
    go_ret2
    exact ⟨ret_sb' E1.out.symm E2.out.symm, X0.out.trans (X1.out.trans x2)⟩
  · obtain ⟨e1, e2⟩ := fir_cons hs
    have E1 := Lib.hid e1
    have E2 := Lib.hid e2
    rw [hs] at HQ
    clear hs hp h e1 e2
    go_enter Tryz.func39, Tryz.ntmps39
    go_wp2_with fail
    refine (HG.out _ (H.out.ext X0.out)).mono ?_
    rintro e w1 ⟨rfl, x1⟩
    have X1 := Lib.hid x1
    clear x1
    obtain ⟨a1, a2⟩ := pz_cells X1.out
    go_wp2_with fail
    refine (HQ.out _ (H.out.ext (X0.out.trans X1.out))).mono ?_
    rintro e w2 ⟨u, rfl, hr, x2⟩
    obtain ⟨ua, uc, rfl⟩ := hr.shape
    obtain ⟨g, rfl, _, hg, hc, _⟩ := RowS.at hr 0 (by simp)
    have hc0 : w2.cell? ⟨g, 0, none⟩ = some (.string s) := hc
    clear hr hc
    go_wp2
    go_ret2
    exact ⟨ret_sb' E1.out.symm E2.out.symm, X0.out.trans (X1.out.trans x2)⟩
end Go.Proofs.YtpdnpphjlnlneaaGreatDoor
