/- Letters in order, letters in a text: the program's tests and its model's. No conditions. -/
import Derived.Test.YtnoidabmbckfkaaCol
import Derived.Test.YtnoidabmbckfkaaShw
namespace Go.Proofs.Ytnoidabmbckfkaa
open Go.RowKit

/-- In order, of the first so many places. -/
def incr (s : ByteArray) : Nat → Bool
  | 0 => true
  | k + 1 => incr s k && (decide (k = 0) || decide ((sg s (k - 1)).toNat < (sg s k).toNat))
theorem incr_no {s : ByteArray} {k : Nat} (h : incr s k = false) : ∀ m, k ≤ m → incr s m = false
  | 0, hm => by rw [show k = 0 by omega] at h; exact h
  | m + 1, hm => by
    rcases Nat.lt_or_ge m k with h1 | h1
    · rw [show m + 1 = k by omega]; exact h
    · rw [incr, incr_no h m h1]; rfl
theorem incr_yes {s : ByteArray} {j : Nat} (h : incr s (j + 1) = true) (hl : (sg s j).toNat < (sg s (j + 1)).toNat) : incr s (j + 1 + 1) = true := by
  rw [incr, h, Nat.add_sub_cancel, decide_eq_true hl]
  simp
theorem incr_bad {s : ByteArray} {j : Nat} (hl : ¬ (sg s j).toNat < (sg s (j + 1)).toNat) : incr s (j + 1 + 1) = false := by
  rw [incr, Nat.add_sub_cancel, decide_eq_false hl]
  simp
def isLs (s : ByteArray) : Bool := isT 20 s && incr s s.size
theorem isLs_t {s : ByteArray} (h : isT 20 s = false) : isLs s = false := by unfold isLs; rw [h]; rfl
theorem isLs_i {s : ByteArray} {k : Nat} (h : incr s k = false) (hk : k ≤ s.size) : isLs s = false := by unfold isLs; rw [incr_no h _ hk, Bool.and_false]
theorem isLs_y {s : ByteArray} (h : isT 20 s = true) (h2 : incr s s.size = true) : isLs s = true := by unfold isLs; rw [h, h2]; rfl
theorem isLs_and {s : ByteArray} (h : isLs s = true) : isT 20 s = true := by unfold isLs at h; simp only [Bool.and_eq_true] at h; exact h.1
theorem incr_low (s : ByteArray) : incr s 1 = true := rfl

set_option maxRecDepth 100000 in
set_option maxHeartbeats 2000000 in
theorem lettersI_any (s : ByteArray) (w : World) (hs : s.size ≤ maxLen) : Calls Try.prog 50 #[.string s] w fun e w' => e = .returned (.bool (isLs s)) ∧ Ext w w' := by
  cases h : isT 20 s
  · have HV := Lib.hid (isLs_t h)
    go_enter Try.func50, Try.ntmps50
    go_wp2_with (go_at_call 45; refine (isTyped_any s _ hs).mono ?_; rintro e w1 ⟨rfl, x1⟩; rw [h])
    go_ret
    exact ⟨ret_bool HV.out.symm, x1⟩
  have HT := Lib.hid h
  have h20 := isT_size h
  go_enter Try.func50, Try.ntmps50
  go_wp2_with (go_at_call 45; refine (isTyped_any s _ hs).mono ?_; rintro e w1 ⟨rfl, x1⟩; rw [h])
  clear h
  go_loopw [3] (fun i wr => ∃ j : Nat, (j + 1 ≤ s.size ∨ j = 0) ∧ i = .int .i64 (j + 1 : Nat) ∧ incr s (j + 1) = true ∧ Ext w wr) (fun i _ => s.size - (intOf i).toNat)
  case atStart => exact ⟨0, .inr rfl, rfl, rfl, x1⟩
  case round =>
    obtain ⟨j, hj, rfl, hinc, hx⟩ := hrel
    have HINC := Lib.hid hinc
    clear hinc
    obtain ⟨k, hk⟩ : ∃ k, k = j + 1 := ⟨_, rfl⟩
    have HK := Lib.hid hk
    rw [← hk]
    by_cases hlt : k < s.size
    · have ik : ∀ w, (Instr.index 9 (.string s) (.int .i64 (k : Int))).run Try.prog w = .ok (.int .u8 ((sg s k).toNat : Int)) w := fun w => ixB s k hlt w
      have hjl : j < s.size := by omega
      have ij : ∀ w, (Instr.index 9 (.string s) (.int .i64 (j : Int))).run Try.prog w = .ok (.int .u8 ((sg s j).toNat : Int)) w := fun w => ixB s j hjl w
      have W1 : IntKind.i64.wrap ((k : Int) - 1) = ((j : Nat) : Int) := by simp only [IntKind.wrap_i64]; omega
      by_cases he : (sg s j).toNat < (sg s k).toNat
      · have HN := Lib.hid (show incr s (k + 1) = true by rw [hk] at he ⊢; exact incr_yes HINC.out he)
        have hg : ¬ ((sg s k).toNat : Int) ≤ ((sg s j).toNat : Int) := by omega
        have hgd : decide (((sg s k).toNat : Int) ≤ ((sg s j).toNat : Int)) = false := decide_eq_false hg
        clear hk
        go_wp2
        go_quiet (fail)
        go_wp2
        exact ⟨⟨k, by omega, by go_num, HN.out, ext_drewN hx _⟩, by simp [intOf]; omega⟩
      · have HV := Lib.hid (isLs_i (k := k + 1) (by rw [hk] at he ⊢; exact incr_bad he) hlt)
        have hg : ((sg s k).toNat : Int) ≤ ((sg s j).toNat : Int) := by omega
        have hgd : decide (((sg s k).toNat : Int) ≤ ((sg s j).toNat : Int)) = true := decide_eq_true hg
        clear hk
        go_wp2
        go_quiet (fail)
        go_wp2
        go_ret
        exact ⟨ret_bool HV.out.symm, ext_drewN hx _⟩
    · have HV := Lib.hid (show isLs s = true from isLs_y HT.out (by
        by_cases h0 : s.size = 0
        · rw [h0]; rfl
        · rw [show s.size = j + 1 by omega]; exact HINC.out))
      clear hk
      go_wp2
      go_ret
      exact ⟨ret_bool HV.out.symm, hx⟩

set_option maxRecDepth 100000 in
set_option maxHeartbeats 2000000 in
theorem lettersS_any (s : ByteArray) (w : World) (hs : s.size ≤ maxLen) : Calls Try.prog 47 #[.string s] w fun e w' => e = .returned (.bool (isLs s)) ∧ Ext w w' := by
  have h63 : s.size ≤ 9223372036854775807 := hs
  go_enter Try.func47, Try.ntmps47
  go_wp2
  go_loopw [3] (fun i wr => ∃ j : Nat, (j + 1 ≤ s.size ∨ j = 0) ∧ i = .int .i64 (j + 1 : Nat) ∧ incr s (j + 1) = true ∧ Ext w wr) (fun i _ => s.size - (intOf i).toNat)
  case atStart => exact ⟨0, .inr rfl, rfl, rfl, Ext.refl _⟩
  case round =>
    obtain ⟨j, hj, rfl, hinc, hx⟩ := hrel
    have HINC := Lib.hid hinc
    clear hinc
    obtain ⟨k, hk⟩ : ∃ k, k = j + 1 := ⟨_, rfl⟩
    have HK := Lib.hid hk
    rw [← hk]
    by_cases hlt : k < s.size
    · have ik : ∀ w, (Instr.index 9 (.string s) (.int .i64 (k : Int))).run Try.prog w = .ok (.int .u8 ((sg s k).toNat : Int)) w := fun w => ixB s k hlt w
      have hjl : j < s.size := by omega
      have ij : ∀ w, (Instr.index 9 (.string s) (.int .i64 (j : Int))).run Try.prog w = .ok (.int .u8 ((sg s j).toNat : Int)) w := fun w => ixB s j hjl w
      have W1 : IntKind.i64.wrap ((k : Int) - 1) = ((j : Nat) : Int) := by simp only [IntKind.wrap_i64]; omega
      by_cases he : (sg s j).toNat < (sg s k).toNat
      · have HN := Lib.hid (show incr s (k + 1) = true by rw [hk] at he ⊢; exact incr_yes HINC.out he)
        have hg : ¬ ((sg s k).toNat : Int) ≤ ((sg s j).toNat : Int) := by omega
        have hgd : decide (((sg s k).toNat : Int) ≤ ((sg s j).toNat : Int)) = false := decide_eq_false hg
        clear hk
        go_wp2
        go_quiet (fail)
        go_wp2
        exact ⟨⟨k, by omega, by go_num, HN.out, ext_drewN hx _⟩, by simp [intOf]; omega⟩
      · have HV := Lib.hid (isLs_i (k := k + 1) (by rw [hk] at he ⊢; exact incr_bad he) hlt)
        have hg : ((sg s k).toNat : Int) ≤ ((sg s j).toNat : Int) := by omega
        have hgd : decide (((sg s k).toNat : Int) ≤ ((sg s j).toNat : Int)) = true := decide_eq_true hg
        clear hk
        go_wp2
        go_quiet (fail)
        go_wp2
        go_ret
        exact ⟨ret_bool HV.out.symm, ext_drewN hx _⟩
    · have HV := Lib.hid (show isLs s = isT 20 s by
        unfold isLs
        rw [show incr s s.size = true from by
          by_cases h0 : s.size = 0
          · rw [h0]; rfl
          · rw [show s.size = j + 1 by omega]; exact HINC.out, Bool.and_true])
      clear hk
      go_wp2_with (go_at_call 43; refine (bkText_any s _ hs).mono ?_; rintro e w1 ⟨rfl, rfl⟩)
      go_ret
      exact ⟨ret_bool HV.out.symm, hx⟩

/-- Whether a letter is among these. -/
def hasB (l : List UInt8) (c : UInt8) : Bool := l.any fun d => decide (d = c)
theorem hasB_take (s : ByteArray) (k : Nat) (h : k < s.size) (c : UInt8) : hasB (s.data.toList.take (k + 1)) c = (hasB (s.data.toList.take k) c || decide (sg s k = c)) := by
  unfold hasB
  rw [List.take_succ_eq_append_getElem (by simpa using h), List.any_append]
  congr 1
  simp only [List.any_cons, List.any_nil, Bool.or_false]
  rw [← sg_at s k h]
  rfl

set_option maxRecDepth 100000 in
set_option maxHeartbeats 2000000 in
theorem hasS_any (s : ByteArray) (c : UInt8) (w : World) (hs : s.size ≤ maxLen) : Calls Try.prog 48 #[.string s, .int .u8 (c.toNat : Int)] w fun e w' => e = .returned (.bool (hasB s.data.toList c)) ∧ w = w' := by
  have h63 : s.size ≤ 9223372036854775807 := hs
  go_enter Try.func48, Try.ntmps48
  go_wp2
  go_loop [5] (fun i => ∃ k : Nat, k ≤ s.size ∧ i = .int .i64 k ∧ hasB (s.data.toList.take k) c = false) (fun i => s.size - (intOf i).toNat)
  case atStart => exact ⟨0, Nat.zero_le _, rfl, rfl⟩
  case round =>
    obtain ⟨k, hk, rfl, hf⟩ := hrel
    have HF := Lib.hid hf
    clear hf
    by_cases hlt : k < s.size
    · have ik : ∀ w, (Instr.index 9 (.string s) (.int .i64 (k : Int))).run Try.prog w = .ok (.int .u8 ((sg s k).toNat : Int)) w := fun w => ixB s k hlt w
      by_cases he : ((sg s k).toNat : Int) = (c.toNat : Int)
      · have HV := Lib.hid (show hasB s.data.toList c = true by
          have h1 : hasB (s.data.toList.take (k + 1)) c = true := by
            rw [hasB_take s k hlt, decide_eq_true (UInt8.toNat_inj.1 (by omega))]
            simp
          unfold hasB at h1 ⊢
          rw [List.any_eq_true] at h1 ⊢
          obtain ⟨x, hx, hy⟩ := h1
          exact ⟨x, List.mem_of_mem_take hx, hy⟩)
        have heb : (((sg s k).toNat : Int) == (c.toNat : Int)) = true := beq_iff_eq.2 he
        clear he
        go_wp2
        go_ret
        exact ⟨ret_bool HV.out.symm, rfl⟩
      · have HN := Lib.hid (show hasB (s.data.toList.take (k + 1)) c = false by
          rw [hasB_take s k hlt, HF.out, decide_eq_false (fun h => he (by rw [h]))]
          rfl)
        have heb : (((sg s k).toNat : Int) == (c.toNat : Int)) = false := beq_eq_false_iff_ne.2 he
        go_wp2
        go_round
        case rel => exact ⟨k + 1, by omega, by go_num, HN.out⟩
        case measure => simp [intOf]; omega
    · have HV := Lib.hid (show hasB s.data.toList c = false by rw [← HF.out, List.take_of_length_le (by simp; omega)])
      go_wp2
      go_ret
      exact ⟨ret_bool HV.out.symm, rfl⟩
end Go.Proofs.Ytnoidabmbckfkaa
