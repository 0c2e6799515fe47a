/- Codes: the model's and the program's tests of them, and which code begins which text. No conditions. -/
import Derived.Test.YthooedmlnonadaaDoorPla
import Derived.Test.YthooedmlnonadaaDoorPin
import Derived.Test.YthooedmlnonadaaDoorByR
namespace Go.Proofs.YthooedmlnonadaaDoor
open Go.RowKit

theorem isCode_any (s : ByteArray) (w : World) (hs : s.size ≤ maxLen) : Calls Tryd.prog 61 #[.string s] w fun e w' => e = .returned (.bool (isDg 1 6 s)) ∧ w = w' := by
  go_enter Tryd.func61, Tryd.ntmps61
  go_wp2_with fail
  refine (areDig_any _ _ _ _ hs).mono ?_
  rintro e w' ⟨rfl, rfl⟩
  go_wp2
  go_ret
  exact ⟨rfl, rfl⟩
theorem plCode_any (s : ByteArray) (w : World) (hs : s.size ≤ maxLen) : Calls Tryd.prog 56 #[.string s] w fun e w' => e = .returned (.bool (isDg 1 6 s)) ∧ w = w' := by
  go_enter Tryd.func56, Tryd.ntmps56
  go_wp2_with fail
  refine (piDig_any _ _ _ _ hs).mono ?_
  rintro e w' ⟨rfl, rfl⟩
  go_wp2
  go_ret
  exact ⟨rfl, rfl⟩

theorem plBeg_any (c t : ByteArray) (w : World) : Calls Tryd.prog 39 #[.string c, .string t] w fun e w' => e = .returned (.bool (bgB c t)) ∧ w = w' := by
  by_cases hl : t.size < c.size
  · have HV := Lib.hid (bg_short hl)
    go_enter Tryd.func39, Tryd.ntmps39
    go_wp2
    go_ret
    exact ⟨ret_bool HV.out.symm, rfl⟩
  · have HV := Lib.hid (bg_eq (c := c) (t := t) (by omega))
    have hle : (c.size : Int) ≤ (t.size : Int) := by omega
    have hle2 : c.size ≤ t.size := by omega
    go_enter Tryd.func39, Tryd.ntmps39
    go_wp2
    go_ret
    exact ⟨ret_bool (by rw [HV.out, ← beqT]), rfl⟩
theorem hasPre_any (t c : ByteArray) (w : World) : Calls Tryd.prog 77 #[.string t, .string c] w fun e w' => e = .returned (.bool (bgB c t)) ∧ w = w' := by
  by_cases hl : t.size < c.size
  · have HV := Lib.hid (bg_short hl)
    go_enter Tryd.func77, Tryd.ntmps77
    go_wp2
    go_ret
    exact ⟨ret_bool HV.out.symm, rfl⟩
  · have HV := Lib.hid (bg_eq (c := c) (t := t) (by omega))
    have hle : (c.size : Int) ≤ (t.size : Int) := by omega
    have hle2 : c.size ≤ t.size := by omega
    go_enter Tryd.func77, Tryd.ntmps77
    go_wp2
    go_ret
    exact ⟨ret_bool (by rw [HV.out, ← beqT]), rfl⟩
theorem hasPreS_any (t c : ByteArray) (w : World) : Calls Tryd.prog 62 #[.string t, .string c] w fun e w' => e = .returned (.bool (bgB c t)) ∧ w = w' := by
  go_enter Tryd.func62, Tryd.ntmps62
  go_wp2_with fail
  refine (hasPre_any _ _ _).mono ?_
  rintro e w' ⟨rfl, rfl⟩
  go_wp2
  go_ret
  exact ⟨rfl, rfl⟩
theorem begins_any (c t : ByteArray) (w : World) : Calls Tryd.prog 42 #[.string c, .string t] w fun e w' => e = .returned (.bool (bgB c t)) ∧ w = w' := by
  go_enter Tryd.func42, Tryd.ntmps42
  go_wp2_with fail
  refine (hasPreS_any _ _ _).mono ?_
  rintro e w' ⟨rfl, rfl⟩
  go_wp2
  go_ret
  exact ⟨rfl, rfl⟩
end Go.Proofs.YthooedmlnonadaaDoor
