/- How many right numbers there are: the program's answer. No conditions. -/
import Derived.Test.YtdhcknknmloopaaEndI
import Derived.Test.YtdhcknknmloopaaCtS
namespace Go.Proofs.Ytdhcknknmloopaa
open Go.RowKit

def rowE (t : Nat → Nat → Int) (r : Nat) : List Value := (List.range 13).map fun j => .int .i64 (t r j)
theorem ixE_zero (t : Nat → Nat → Int) (w : World) : (Instr.index 78 (.agg (tabE t).toArray) (.int .i64 0)).run Try.prog w = .ok (.agg (rowE t 0).toArray) w := by kernel_rfl
theorem ixE_row (t : Nat → Nat → Int) (r : Nat) (w : World) : (Instr.index 76 (.agg (rowE t r).toArray) (.int .i64 0)).run Try.prog w = .ok (.int .i64 (t r 0)) w := by kernel_rfl

set_option maxRecDepth 100000 in
set_option maxHeartbeats 2000000 in
theorem crI_any (mi : Int) (v : Value) (zs : List Int) (w : World) (h : IntsA w v zs) (hm : -9223372036854775808 ≤ mi ∧ mi ≤ 9223372036854775807) : Calls Try.prog 42 #[.agg #[.int .i64 mi, v]] w fun e w' => e = .returned (.tuple #[.int .i64 (crV mi zs), .bool (isSch mi zs)]) ∧ Ext w w' := by
  have X0 := Lib.hid (show Ext w (w.alloc (.cells #[.int .i64 mi, v] 27)) from (Ext.refl w).alloc _)
  have H := Lib.hid (h.ext X0.out)
  have HG := Lib.hid (isSch_any mi v zs _ (h.ext X0.out) hm)
  clear h
  cases h1 : isSch mi zs
  · have HV := Lib.hid (crV_no h1)
    rw [h1] at HG
    clear h1
    go_enter Try.func42, Try.ntmps42
    go_wp2_with (go_at_call 16; refine HG.out.mono ?_; rintro e w1 ⟨rfl, x1⟩)
    go_ret2
    exact ⟨by rw [HV.out]; rfl, X0.out.trans x1⟩
  have HB0 := isSch_bd h1
  obtain ⟨m, hmm⟩ : ∃ m : Nat, mi = (m : Int) := ⟨mi.toNat, by have := HB0.m1; omega⟩
  subst hmm
  have HV := Lib.hid (crV_yes h1)
  have HE := Lib.hid (fun w' (x : Ext (w.alloc (.cells #[.int .i64 (m : Int), v] 27)) w') => ends_any m v zs w' (H.out.ext x) HB0)
  rw [h1] at HG
  clear h1 HB0
  go_enter Try.func42, Try.ntmps42
  go_wp2_with (first | (go_at_call 16; refine HG.out.mono ?_; rintro e w1 ⟨rfl, x1⟩; obtain ⟨c1, c2⟩ := sc_cells x1) | (go_at_call 75; refine (HE.out _ x1).mono ?_; rintro e w2 ⟨⟨t, rfl, ht⟩, x2⟩; have HT := Lib.hid ht; have i1 := fun w => ixE_zero t w; have i2 := fun w => ixE_row t 0 w; clear ht))
  go_ret2
  exact ⟨by rw [HV.out, ← HT.out]; rfl, X0.out.trans (x1.trans x2)⟩
end Go.Proofs.Ytdhcknknmloopaa
