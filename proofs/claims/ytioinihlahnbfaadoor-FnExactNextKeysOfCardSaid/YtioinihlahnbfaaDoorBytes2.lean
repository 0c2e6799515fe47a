/- The library's sort of at most twelve bytes. No conditions. -/
import Derived.Test.YtioinihlahnbfaaDoorBytes
namespace Go.Proofs.YtioinihlahnbfaaDoor
open Go.RowKit

set_option maxHeartbeats 4000000 in
theorem pdq_any (B : Nat) (u : World) (a : Option Addr) (n cap : Nat) (lim : Int) (zs : List Int) (w : World) (hl : zs.length = n) (hn : n ≤ 12) (h : RowY B w (.slice a n cap) n zs) (hu : Ext u w) (hB : u.heap.size ≤ B) : Calls Tryd.prog 64 #[.slice a n cap, .int .i64 0, .int .i64 n, .int .i64 lim] w (Srt B u (.slice a n cap) n zs) := by
  have HR := Lib.hid h
  have W1 : IntKind.i64.wrap ((n : Int) - 0) = (n : Int) := by simp only [IntKind.wrap_i64]; omega
  have h12 : (n : Int) ≤ 12 := by omega
  clear h
  go_enter Tryd.func64, Tryd.ntmps64
  go_wp2
  go_loopw [1, 2] (fun p q wr => p = .int .i64 0 ∧ q = .int .i64 n ∧ wr = w) (fun _ _ _ => 0)
  case atStart => exact ⟨rfl, rfl, rfl⟩
  case round =>
    obtain ⟨rfl, rfl, rfl⟩ := hrel
    go_wp2_with (go_at_call 76; refine (insert_any B u a n cap zs _ hl hn HR.out hu hB).mono ?_; rintro e w9 ⟨rfl, r9, x9⟩)
    go_end0
    exact ⟨rfl, r9, x9⟩

set_option maxRecDepth 100000 in
set_option maxHeartbeats 1000000 in
theorem len64_any (n : Nat) (w : World) (hn : n ≤ 12) : Calls Tryd.prog 86 #[.int .u64 n] w fun e w' => ∃ k, e = .returned (.int .i64 k) ∧ w = w' := by
  rcases (by omega : n = 0 ∨ n = 1 ∨ n = 2 ∨ n = 3 ∨ n = 4 ∨ n = 5 ∨ n = 6 ∨ n = 7 ∨ n = 8 ∨ n = 9 ∨ n = 10 ∨ n = 11 ∨ n = 12) with rfl | rfl | rfl | rfl | rfl | rfl | rfl | rfl | rfl | rfl | rfl | rfl | rfl
  all_goals
    go_enter Tryd.func86, Tryd.ntmps86
    go_wp2
    go_ret
    exact ⟨_, rfl, rfl⟩
theorem len_any (n : Nat) (w : World) (hn : n ≤ 12) : Calls Tryd.prog 65 #[.int .u64 n] w fun e w' => ∃ k, e = .returned (.int .i64 k) ∧ w = w' := by
  go_enter Tryd.func65, Tryd.ntmps65
  go_wp2_with (go_at_call 86; refine (len64_any n _ hn).mono ?_; rintro e w' ⟨k, rfl, rfl⟩)
  go_ret
  exact ⟨_, rfl, rfl⟩

set_option maxHeartbeats 1000000 in
theorem sortY_any (B : Nat) (u : World) (a : Option Addr) (n cap : Nat) (zs : List Int) (w : World) (hl : zs.length = n) (hn : n ≤ 12) (h : RowY B w (.slice a n cap) n zs) (hu : Ext u w) (hB : u.heap.size ≤ B) : Calls Tryd.prog 40 #[.slice a n cap] w (Srt B u (.slice a n cap) n zs) := by
  have HR := Lib.hid h
  clear h
  go_enter Tryd.func40, Tryd.ntmps40
  go_wp2_with (first | (go_at_call 65; refine (len_any n _ hn).mono ?_; rintro e w' ⟨k, rfl, rfl⟩) | (go_at_call 64; refine (pdq_any B u a n cap _ zs _ hl hn HR.out hu hB).mono ?_; rintro e w9 ⟨rfl, r9, x9⟩))
  go_end0
  exact ⟨rfl, r9, x9⟩

end Go.Proofs.YtioinihlahnbfaaDoor
