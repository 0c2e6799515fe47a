/- SchemeText, the model's. No conditions. -/
import Derived.Test.YthooedmlnonadaaDoorSct
namespace Go.Proofs.YthooedmlnonadaaDoor
open Go.RowKit

set_option maxHeartbeats 1000000 in
theorem stS_any (m : Int) (v : Value) (zs : List Int) (w : World) (h : IntsA w v zs) (hm : -9223372036854775808 ≤ m ∧ m ≤ 9223372036854775807) : Calls Tryd.prog 12 #[.agg #[.int .i64 m, v]] w fun e w' => e = .returned (.tuple #[.string (stV m zs), .bool (isSch m zs)]) ∧ Ext w w' := by
  have H := Lib.hid h
  have HM := Lib.hid hm
  obtain ⟨a, cap, hv⟩ := h.at
  rw [hv] at H ⊢
  clear h hm hv v
  have X0 := Lib.hid (show Ext w (w.alloc (.cells #[.int .i64 m, .slice a zs.length cap] 34)) from (Ext.refl w).alloc _)
  cases h1 : isSch m zs
  · have HV := Lib.hid (stV_no h1)
    go_enter Tryd.func12, Tryd.ntmps12
    go_wp2_with (go_at_call 26; refine (ckGood_any m _ zs _ (H.out.ext X0.out) HM.out).mono ?_; rintro e w1 ⟨rfl, x1⟩; rw [h1])
    go_ret2
    exact ⟨ret_sb HV.out.symm rfl, X0.out.trans x1⟩
  · have HB := Lib.hid (isSch_bd h1)
    have HV := Lib.hid (stV_yes h1)
    have hm1 := HB.out.m1
    obtain ⟨n, rfl⟩ : ∃ n : Nat, m = n := ⟨m.toNat, by omega⟩
    have HG := Lib.hid h1
    have HT := Lib.hid (fun w h => ckText_any n (.slice a zs.length cap) zs w h HB.out)
    obtain ⟨t, ht⟩ : ∃ t, t = hd (n : Int) ++ jt (wT zs) := ⟨_, rfl⟩
    rw [← ht] at HV
    simp only [← ht] at HT
    clear h1 hm1 ht
    go_enter Tryd.func12, Tryd.ntmps12
    go_wp2_with (first | (go_at_call 26; refine (ckGood_any _ _ zs _ (H.out.ext X0.out) HM.out).mono ?_; rintro e w1 ⟨rfl, x1⟩; rw [HG.out]; have XA1 := Lib.hid x1; obtain ⟨a1, a2⟩ := sc_cells x1) | (go_at_call 27; refine (HT.out _ (H.out.ext (X0.out.trans XA1.out))).mono ?_; rintro e w2 ⟨rfl, x2⟩))
    go_ret2
    exact ⟨ret_sb HV.out.symm rfl, X0.out.trans (XA1.out.trans x2)⟩

end Go.Proofs.YthooedmlnonadaaDoor
