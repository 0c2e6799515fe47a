/- The steps of one thumb, by the model. No conditions. -/
import Derived.Test.YtpdnpphjlnlneaaGreatDoorSteps
namespace Go.Proofs.YtpdnpphjlnlneaaGreatDoor
open Go.RowKit

set_option maxHeartbeats 1000000 in
theorem otS_any (s : ByteArray) (w : World) (h1 : isD s = true) : Calls Tryz.prog 92 #[.string s, .string ⟨#[53]⟩, .bool false] w fun e w' => e = .returned (.tuple #[.int .i64 ((wlk false 4 (plcs s) : Nat) : Int), .bool true]) ∧ Ext w w' := by
  have hs : s.size ≤ maxLen := by have := isD_size h1; unfold maxLen; omega
  have h2 : oneD ⟨#[53]⟩ = true := rfl
  have g1 : isK (53 : UInt8).toNat = true := rfl
  have e1 : pn (53 : UInt8) = 4 := rfl
  go_enter Tryz.func92, Tryz.ntmps92
  go_wp2_with (first | (go_at_call 114; refine (thGood_any _ _ hs).mono ?_; rintro e w' ⟨rfl, rfl⟩; rw [h1]) | (go_at_call 115; refine (thOne_any _ _ (by unfold maxLen; decide)).mono ?_; rintro e w' ⟨rfl, rfl⟩; rw [h2]) | (go_at_call 116; refine (thWalk_any _ (53 : UInt8) _ _ h1 g1).mono ?_; rintro e w1 ⟨rfl, x1⟩))
  go_ret2
  exact ⟨rfl, x1⟩
end Go.Proofs.YtpdnpphjlnlneaaGreatDoor
