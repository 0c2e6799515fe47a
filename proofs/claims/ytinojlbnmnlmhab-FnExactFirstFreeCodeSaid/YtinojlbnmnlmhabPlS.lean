/- Codes: the model's and the program's tests of them, and which code begins which text. No conditions. -/
import Derived.Test.YtinojlbnmnlmhabPla
import Derived.Test.YtinojlbnmnlmhabPin
import Derived.Test.YtinojlbnmnlmhabByR
namespace Go.Proofs.Ytinojlbnmnlmhab
open Go.RowKit

theorem isCode_any (s : ByteArray) (w : World) (hs : s.size ≤ maxLen) : Calls Try.prog 123 #[.string s] w fun e w' => e = .returned (.bool (isDg 1 6 s)) ∧ w = w' := by
  go_enter Try.func123, Try.ntmps123
  go_wp2_with fail
  refine (areDig_any _ _ _ _ hs).mono ?_
  rintro e w' ⟨rfl, rfl⟩
  go_wp2
  go_ret
  exact ⟨rfl, rfl⟩
theorem plCode_any (s : ByteArray) (w : World) (hs : s.size ≤ maxLen) : Calls Try.prog 128 #[.string s] w fun e w' => e = .returned (.bool (isDg 1 6 s)) ∧ w = w' := by
  go_enter Try.func128, Try.ntmps128
  go_wp2_with fail
  refine (piDig_any _ _ _ _ hs).mono ?_
  rintro e w' ⟨rfl, rfl⟩
  go_wp2
  go_ret
  exact ⟨rfl, rfl⟩

theorem plBeg_any (c t : ByteArray) (w : World) : Calls Try.prog 89 #[.string c, .string t] w fun e w' => e = .returned (.bool (bgB c t)) ∧ w = w' := by
  by_cases hl : t.size < c.size
  · have HV := Lib.hid (bg_short hl)
    go_enter Try.func89, Try.ntmps89
    go_wp2
    go_ret
    exact ⟨ret_bool HV.out.symm, rfl⟩
  · have HV := Lib.hid (bg_eq (c := c) (t := t) (by omega))
    have hle : (c.size : Int) ≤ (t.size : Int) := by omega
    have hle2 : c.size ≤ t.size := by omega
    go_enter Try.func89, Try.ntmps89
    go_wp2
    go_ret
    exact ⟨ret_bool (by rw [HV.out, ← beqT]), rfl⟩
theorem hasPre_any (t c : ByteArray) (w : World) : Calls Try.prog 172 #[.string t, .string c] w fun e w' => e = .returned (.bool (bgB c t)) ∧ w = w' := by
  by_cases hl : t.size < c.size
  · have HV := Lib.hid (bg_short hl)
    go_enter Try.func172, Try.ntmps172
    go_wp2
    go_ret
    exact ⟨ret_bool HV.out.symm, rfl⟩
  · have HV := Lib.hid (bg_eq (c := c) (t := t) (by omega))
    have hle : (c.size : Int) ≤ (t.size : Int) := by omega
    have hle2 : c.size ≤ t.size := by omega
    go_enter Try.func172, Try.ntmps172
    go_wp2
    go_ret
    exact ⟨ret_bool (by rw [HV.out, ← beqT]), rfl⟩
theorem hasPreS_any (t c : ByteArray) (w : World) : Calls Try.prog 127 #[.string t, .string c] w fun e w' => e = .returned (.bool (bgB c t)) ∧ w = w' := by
  go_enter Try.func127, Try.ntmps127
  go_wp2_with fail
  refine (hasPre_any _ _ _).mono ?_
  rintro e w' ⟨rfl, rfl⟩
  go_wp2
  go_ret
  exact ⟨rfl, rfl⟩
theorem begins_any (c t : ByteArray) (w : World) : Calls Try.prog 87 #[.string c, .string t] w fun e w' => e = .returned (.bool (bgB c t)) ∧ w = w' := by
  go_enter Try.func87, Try.ntmps87
  go_wp2_with fail
  refine (hasPreS_any _ _ _).mono ?_
  rintro e w' ⟨rfl, rfl⟩
  go_wp2
  go_ret
  exact ⟨rfl, rfl⟩
end Go.Proofs.Ytinojlbnmnlmhab
