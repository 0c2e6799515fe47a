/- Letters in order, letters in a text: the program's tests and its model's. No conditions. -/
import Derived.Test.YtcfoicogaggkbaaCol
import Derived.Test.YtcfoicogaggkbaaShw
namespace Go.Proofs.Ytcfoicogaggkbaa
open Go.RowKit

/-- In order, of the first so many places. -/
def incr (s : ByteArray) : Nat → Bool
  | 0 => true
  | k + 1 => incr s k && (decide (k = 0) || decide ((sg s (k - 1)).toNat < (sg s k).toNat))
theorem incr_no {s : ByteArray} {k : Nat} (h : incr s k = false) : ∀ m, k ≤ m → incr s m = false
  | 0, hm => by rw [show k = 0 by omega] at h; exact h
  | m + 1, hm => by
    rcases Nat.lt_or_ge m k with h1 | h1
    · rw [show m + 1 = k by omega]; exact h
    · rw [incr, incr_no h m h1]; rfl
theorem incr_yes {s : ByteArray} {j : Nat} (h : incr s (j + 1) = true) (hl : (sg s j).toNat < (sg s (j + 1)).toNat) : incr s (j + 1 + 1) = true := by
  rw [incr, h, Nat.add_sub_cancel, decide_eq_true hl]
  simp
theorem incr_bad {s : ByteArray} {j : Nat} (hl : ¬ (sg s j).toNat < (sg s (j + 1)).toNat) : incr s (j + 1 + 1) = false := by
  rw [incr, Nat.add_sub_cancel, decide_eq_false hl]
  simp
def isLs (s : ByteArray) : Bool := isT 20 s && incr s s.size
theorem isLs_t {s : ByteArray} (h : isT 20 s = false) : isLs s = false := by unfold isLs; rw [h]; rfl
theorem isLs_i {s : ByteArray} {k : Nat} (h : incr s k = false) (hk : k ≤ s.size) : isLs s = false := by unfold isLs; rw [incr_no h _ hk, Bool.and_false]
theorem isLs_y {s : ByteArray} (h : isT 20 s = true) (h2 : incr s s.size = true) : isLs s = true := by unfold isLs; rw [h, h2]; rfl
theorem isLs_and {s : ByteArray} (h : isLs s = true) : isT 20 s = true := by unfold isLs at h; simp only [Bool.and_eq_true] at h; exact h.1
theorem incr_low (s : ByteArray) : incr s 1 = true := rfl

/-- Whether a letter is among these. -/
def hasB (l : List UInt8) (c : UInt8) : Bool := l.any fun d => decide (d = c)
theorem hasB_take (s : ByteArray) (k : Nat) (h : k < s.size) (c : UInt8) : hasB (s.data.toList.take (k + 1)) c = (hasB (s.data.toList.take k) c || decide (sg s k = c)) := by
  unfold hasB
  rw [List.take_succ_eq_append_getElem (by simpa using h), List.any_append]
  congr 1
  simp only [List.any_cons, List.any_nil, Bool.or_false]
  rw [← sg_at s k h]
  rfl

set_option maxRecDepth 100000 in
set_option maxHeartbeats 2000000 in
theorem hasS_any (s : ByteArray) (c : UInt8) (w : World) (hs : s.size ≤ maxLen) : Calls Try.prog 66 #[.string s, .int .u8 (c.toNat : Int)] w fun e w' => e = .returned (.bool (hasB s.data.toList c)) ∧ w = w' := by
  have h63 : s.size ≤ 9223372036854775807 := hs
  go_enter Try.func66, Try.ntmps66
  go_wp2
  go_loop [5] (fun i => ∃ k : Nat, k ≤ s.size ∧ i = .int .i64 k ∧ hasB (s.data.toList.take k) c = false) (fun i => s.size - (intOf i).toNat)
  case atStart => exact ⟨0, Nat.zero_le _, rfl, rfl⟩
  case round =>
    obtain ⟨k, hk, rfl, hf⟩ := hrel
    have HF := Lib.hid hf
    clear hf
    by_cases hlt : k < s.size
    · have ik : ∀ w, (Instr.index 9 (.string s) (.int .i64 (k : Int))).run Try.prog w = .ok (.int .u8 ((sg s k).toNat : Int)) w := fun w => ixB s k hlt w
      by_cases he : ((sg s k).toNat : Int) = (c.toNat : Int)
      · have HV := Lib.hid (show hasB s.data.toList c = true by
          have h1 : hasB (s.data.toList.take (k + 1)) c = true := by
            rw [hasB_take s k hlt, decide_eq_true (UInt8.toNat_inj.1 (by omega))]
            simp
          unfold hasB at h1 ⊢
          rw [List.any_eq_true] at h1 ⊢
          obtain ⟨x, hx, hy⟩ := h1
          exact ⟨x, List.mem_of_mem_take hx, hy⟩)
        have heb : (((sg s k).toNat : Int) == (c.toNat : Int)) = true := beq_iff_eq.2 he
        clear he
        go_wp2
        go_ret
        exact ⟨ret_bool HV.out.symm, rfl⟩
      · have HN := Lib.hid (show hasB (s.data.toList.take (k + 1)) c = false by
          rw [hasB_take s k hlt, HF.out, decide_eq_false (fun h => he (by rw [h]))]
          rfl)
        have heb : (((sg s k).toNat : Int) == (c.toNat : Int)) = false := beq_eq_false_iff_ne.2 he
        go_wp2
        go_round
        case rel => exact ⟨k + 1, by omega, by go_num, HN.out⟩
        case measure => simp [intOf]; omega
    · have HV := Lib.hid (show hasB s.data.toList c = false by rw [← HF.out, List.take_of_length_le (by simp; omega)])
      go_wp2
      go_ret
      exact ⟨ret_bool HV.out.symm, rfl⟩
end Go.Proofs.Ytcfoicogaggkbaa
