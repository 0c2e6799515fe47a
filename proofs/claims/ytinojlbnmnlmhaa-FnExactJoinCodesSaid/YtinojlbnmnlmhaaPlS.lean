/- Codes: the model's and the program's tests of them, and which code begins which text. No conditions. -/
import Derived.Test.YtinojlbnmnlmhaaPla
import Derived.Test.YtinojlbnmnlmhaaPin
import Derived.Test.YtinojlbnmnlmhaaByR
namespace Go.Proofs.Ytinojlbnmnlmhaa
open Go.RowKit

theorem isCode_any (s : ByteArray) (w : World) (hs : s.size ≤ maxLen) : Calls Try.prog 64 #[.string s] w fun e w' => e = .returned (.bool (isDg 1 6 s)) ∧ w = w' := by
  go_enter Try.func64, Try.ntmps64
  go_wp2_with fail
  refine (areDig_any _ _ _ _ hs).mono ?_
  rintro e w' ⟨rfl, rfl⟩
  go_wp2
  go_ret
  exact ⟨rfl, rfl⟩
theorem plCode_any (s : ByteArray) (w : World) (hs : s.size ≤ maxLen) : Calls Try.prog 63 #[.string s] w fun e w' => e = .returned (.bool (isDg 1 6 s)) ∧ w = w' := by
  go_enter Try.func63, Try.ntmps63
  go_wp2_with fail
  refine (piDig_any _ _ _ _ hs).mono ?_
  rintro e w' ⟨rfl, rfl⟩
  go_wp2
  go_ret
  exact ⟨rfl, rfl⟩

theorem plBeg_any (c t : ByteArray) (w : World) : Calls Try.prog 59 #[.string c, .string t] w fun e w' => e = .returned (.bool (bgB c t)) ∧ w = w' := by
  by_cases hl : t.size < c.size
  · have HV := Lib.hid (bg_short hl)
    go_enter Try.func59, Try.ntmps59
    go_wp2
    go_ret
    exact ⟨ret_bool HV.out.symm, rfl⟩
  · have HV := Lib.hid (bg_eq (c := c) (t := t) (by omega))
    have hle : (c.size : Int) ≤ (t.size : Int) := by omega
    have hle2 : c.size ≤ t.size := by omega
    go_enter Try.func59, Try.ntmps59
    go_wp2
    go_ret
    exact ⟨ret_bool (by rw [HV.out, ← beqT]), rfl⟩
theorem hasPre_any (t c : ByteArray) (w : World) : Calls Try.prog 109 #[.string t, .string c] w fun e w' => e = .returned (.bool (bgB c t)) ∧ w = w' := by
  by_cases hl : t.size < c.size
  · have HV := Lib.hid (bg_short hl)
    go_enter Try.func109, Try.ntmps109
    go_wp2
    go_ret
    exact ⟨ret_bool HV.out.symm, rfl⟩
  · have HV := Lib.hid (bg_eq (c := c) (t := t) (by omega))
    have hle : (c.size : Int) ≤ (t.size : Int) := by omega
    have hle2 : c.size ≤ t.size := by omega
    go_enter Try.func109, Try.ntmps109
    go_wp2
    go_ret
    exact ⟨ret_bool (by rw [HV.out, ← beqT]), rfl⟩
theorem hasPreS_any (t c : ByteArray) (w : World) : Calls Try.prog 88 #[.string t, .string c] w fun e w' => e = .returned (.bool (bgB c t)) ∧ w = w' := by
  go_enter Try.func88, Try.ntmps88
  go_wp2_with fail
  refine (hasPre_any _ _ _).mono ?_
  rintro e w' ⟨rfl, rfl⟩
  go_wp2
  go_ret
  exact ⟨rfl, rfl⟩
theorem begins_any (c t : ByteArray) (w : World) : Calls Try.prog 53 #[.string c, .string t] w fun e w' => e = .returned (.bool (bgB c t)) ∧ w = w' := by
  go_enter Try.func53, Try.ntmps53
  go_wp2_with fail
  refine (hasPreS_any _ _ _).mono ?_
  rintro e w' ⟨rfl, rfl⟩
  go_wp2
  go_ret
  exact ⟨rfl, rfl⟩
end Go.Proofs.Ytinojlbnmnlmhaa
