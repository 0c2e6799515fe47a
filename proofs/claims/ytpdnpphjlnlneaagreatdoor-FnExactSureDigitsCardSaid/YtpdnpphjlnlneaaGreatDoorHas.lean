/- Is a sign in a text: the model. No conditions. -/
import Derived.Test.YtpdnpphjlnlneaaGreatDoorTld
namespace Go.Proofs.YtpdnpphjlnlneaaGreatDoor
open Go.RowKit

theorem hasB_take (s : ByteArray) (c : Int) (k : Nat) (h : k < s.size) : (s.data.toList.take (k + 1)).any (fun b => decide ((b.toNat : Int) = c)) = ((s.data.toList.take k).any (fun b => decide ((b.toNat : Int) = c)) || decide ((s[k].toNat : Int) = c)) := by
  have h2 : s.data.toList.take (k + 1) = s.data.toList.take k ++ [s[k]] := by
    rw [List.take_succ_eq_append_getElem (by simpa using h)]; rfl
  rw [h2, List.any_append]; simp
theorem hasB_hit {s : ByteArray} {c : Int} {k : Nat} (h : k < s.size) (he : (s[k].toNat : Int) = c) : hasB s c = true := by
  unfold hasB
  rw [List.any_eq_true]
  have h2 : k < s.data.toList.length := by simpa using h
  exact ⟨s[k], by have : s.data.toList[k] = s[k] := rfl
                  rw [← this]; exact List.getElem_mem h2, decide_eq_true he⟩

set_option maxHeartbeats 400000 in
theorem piHas_any (s : ByteArray) (c : Int) (w : World) (hs : s.size ≤ maxLen) : Calls Tryz.prog 94 #[.string s, .int .u8 c] w fun e w' => e = .returned (.bool (hasB s c)) ∧ w = w' := by
  unfold maxLen at hs
  go_enter Tryz.func94, Tryz.ntmps94
  go_wp2
  go_loop [5] (fun i => ∃ k : Nat, k ≤ s.size ∧ i = .int .i64 k ∧ (s.data.toList.take k).any (fun b => decide ((b.toNat : Int) = c)) = false) (fun i => s.size - (intOf i).toNat)
  case atStart => exact ⟨0, Nat.zero_le _, rfl, rfl⟩
  case round =>
    obtain ⟨k, hk, rfl, hall⟩ := hrel
    have HA := Lib.hid hall
    clear hall
    by_cases hlt : k < s.size
    · have ik : ∀ w, (Instr.index 9 (.string s) (.int .i64 (k : Int))).run Tryz.prog w = .ok (.int .u8 s[k].toNat) w := fun w => ixS s k hlt w
      have HT := Lib.hid (hasB_take s c k hlt)
      have HH := Lib.hid (fun h => hasB_hit (c := c) hlt h)
      obtain ⟨b, hb⟩ : ∃ b : Nat, b = s[k].toNat := ⟨_, rfl⟩
      rw [← hb] at ik HT HH
      clear hb
      by_cases he : (b : Int) = c
      · have HV := Lib.hid (HH.out he)
        have hbe : ((b : Int) == c) = true := beq_iff_eq.2 he
        clear he
        go_wp2
        go_ret
        exact ⟨ret_bool HV.out.symm, rfl⟩
      · have HN := Lib.hid (show (s.data.toList.take (k + 1)).any (fun b => decide ((b.toNat : Int) = c)) = false by rw [HT.out, HA.out, decide_eq_false he]; rfl)
        have hbe : ((b : Int) == c) = false := beq_eq_false_iff_ne.2 he
        clear he
        go_wp2
        go_round
        case rel => exact ⟨k + 1, by omega, by go_num, HN.out⟩
        case measure => simp [intOf]; omega
    · have HV := Lib.hid (show hasB s c = false by
        have := HA.out
        rw [List.take_of_length_le (by simp; omega)] at this
        exact this)
      go_wp2
      go_ret
      exact ⟨ret_bool HV.out.symm, rfl⟩

end Go.Proofs.YtpdnpphjlnlneaaGreatDoor
