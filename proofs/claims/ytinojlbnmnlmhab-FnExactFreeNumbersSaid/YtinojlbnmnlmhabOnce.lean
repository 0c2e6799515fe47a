/- The program's way to put texts in order, each once, on a list of the call's own. No conditions. -/
import Derived.Test.YtinojlbnmnlmhabSorted
namespace Go.Proofs.Ytinojlbnmnlmhab
open Go.RowKit Go.Sort

theorem compact_zero (p : Option Addr) (cap : Nat) (w : World) : Calls Try.prog 130 #[.slice p 0 cap] w fun e w' => e = .returned (.slice p 0 cap) ∧ w = w' := by
  go_enter Try.func130, Try.ntmps130
  go_wp2
  go_ret
  exact ⟨rfl, rfl⟩
theorem once_zero (p : Option Addr) (cap : Nat) (w : World) : Calls Try.prog 92 #[.slice p 0 cap] w fun e w' => e = .returned (.slice p 0 cap) ∧ w = w' := by
  go_enter Try.func92, Try.ntmps92
  go_wp2_with (first | (go_at_call 84; refine (Go.Proofs.Try.slices_Sort_string_none _ _ _).mono ?_; rintro e w4 ⟨rfl, rfl⟩) | (go_at_call 130; refine (compact_zero _ _ _).mono ?_; rintro e w5 ⟨rfl, rfl⟩))
  go_ret
  exact ⟨rfl, rfl⟩

theorem once_any (B g n cap : Nat) (l : List ByteArray) (w : World) (hl : l.length = n) (hn : n ≤ 1048576) (h : w.ownsRow B 9 1 (.slice (some ⟨g, 0, none⟩) n cap) n (l.map Value.string)) :
    Calls Try.prog 92 #[.slice (some ⟨g, 0, none⟩) n cap] w fun e w' => ∃ v, e = .returned v ∧ RowS B w' v (putAll l) ∧ ∀ a : World, Ext a w → a.heap.size ≤ g → Ext a w' := by
  have HR := Lib.hid h
  have HL := Lib.hid hl
  have HV := Lib.hid (sorted_once l)
  clear h hl
  go_enter Try.func92, Try.ntmps92
  go_wp2_with (first | (go_at_call 84; refine (sort_own B g n cap l _ HL.out hn HR.out).mono ?_; rintro e w4 ⟨rfl, r4, g4⟩; have R4 := Lib.hid r4; clear r4) | (go_at_call 130; refine (compact_own B g n cap (sortB (l.map (·.data.toList))) _ (by rw [sortB_len, List.length_map, HL.out]) hn R4.out).mono ?_; rintro e w5 ⟨v5, rfl, r5, g5⟩; have R5 := Lib.hid r5; clear r5))
  go_ret
  exact ⟨_, rfl, by rw [← HV.out]; exact R5.out, fun a ha hg => ext_grown (ext_grown ha g4 (fun j hj => by cases hj; exact hg)) g5 (fun j hj => by cases hj; exact hg)⟩

end Go.Proofs.Ytinojlbnmnlmhab
