/- A text with one letter for each run: the program's way and its model's. No conditions. -/
import Derived.Test.YtnoidabmbckfkaaByR
namespace Go.Proofs.Ytnoidabmbckfkaa
open Go.RowKit

theorem ret_sB {a a' : ByteArray} {b b' : Bool} (h : a = a') (h2 : b = b') : Ending.returned (.tuple #[.string a, .bool b]) = .returned (.tuple #[.string a', .bool b']) := by rw [h, h2]
/-- The first sign of each run, of the first so many signs. -/
def col (s : ByteArray) : Nat → List UInt8
  | 0 => []
  | k + 1 => if k = 0 ∨ sg s (k - 1) ≠ sg s k then col s k ++ [sg s k] else col s k
theorem col_len (s : ByteArray) : ∀ k, (col s k).length ≤ k
  | 0 => Nat.le_refl _
  | k + 1 => by
    have := col_len s k
    rw [col]
    split
    · rw [List.length_append, List.length_singleton]; omega
    · omega
theorem col_yes {s : ByteArray} {k : Nat} (h : k = 0 ∨ sg s (k - 1) ≠ sg s k) : col s (k + 1) = col s k ++ [sg s k] := by rw [col, if_pos h]
theorem col_no {s : ByteArray} {k : Nat} (h : ¬ (k = 0 ∨ sg s (k - 1) ≠ sg s k)) : col s (k + 1) = col s k := by rw [col, if_neg h]
def colV (s : ByteArray) : ByteArray := if isT 20 s then tB (col s s.size) else ⟨#[]⟩
theorem colV_no {s : ByteArray} (h : isT 20 s = false) : colV s = ⟨#[]⟩ := by unfold colV; rw [h]; rfl
theorem colV_yes {s : ByteArray} (h : isT 20 s = true) : colV s = tB (col s s.size) := by unfold colV; rw [h]; rfl
theorem sg_eq {s t : ByteArray} {i j : Nat} : sg s i = sg t j ↔ ((sg s i).toNat : Int) = ((sg t j).toNat : Int) := by
  constructor
  · intro h; rw [h]
  · intro h; exact UInt8.toNat_inj.1 (by omega)

set_option maxHeartbeats 2000000 in
theorem colI_any (s : ByteArray) (w : World) (hs : s.size ≤ maxLen) : Calls Try.prog 18 #[.string s] w fun e w' => e = .returned (.tuple #[.string (colV s), .bool (isT 20 s)]) ∧ Ext w w' := by
  cases h : isT 20 s
  · have HV := Lib.hid (colV_no h)
    go_enter Try.func18, Try.ntmps18
    go_wp2_with (go_at_call 45; refine (isTyped_any s _ hs).mono ?_; rintro e w1 ⟨rfl, x1⟩; rw [h])
    go_ret2
    exact ⟨ret_sB HV.out.symm rfl, x1⟩
  have HV := Lib.hid (colV_yes h)
  have h20 := isT_size h
  go_enter Try.func18, Try.ntmps18
  go_wp2_with (go_at_call 45; refine (isTyped_any s _ hs).mono ?_; rintro e w1 ⟨rfl, x1⟩; rw [h])
  clear h
  go_loopw [4, 11] (fun o i wr => ∃ k : Nat, k ≤ s.size ∧ i = .int .i64 k ∧ RowB w.heap.size wr o (col s k) ∧ Ext w wr) (fun _ i _ => s.size - (intOf i).toNat)
  case atStart => exact ⟨0, Nat.zero_le _, rfl, RowB.nil _ _, x1⟩
  case round =>
    obtain ⟨k, hk, rfl, hr, hx⟩ := hrel
    have HR := Lib.hid hr
    clear hr
    have hcl := col_len s k
    by_cases hlt : k < s.size
    · have ik : ∀ w, (Instr.index 9 (.string s) (.int .i64 (k : Int))).run Try.prog w = .ok (.int .u8 ((sg s k).toNat : Int)) w := fun w => ixB s k hlt w
      by_cases h0 : k = 0
      · subst h0
        have HN := Lib.hid (col_yes (s := s) (k := 0) (.inl rfl))
        have ik0 : ∀ w, (Instr.index 9 (.string s) (.int .i64 0)).run Try.prog w = .ok (.int .u8 ((sg s 0).toNat : Int)) w := fun w => ik w
        clear ik
        go_wp2
        go_quiet (fail)
        go_wp2_with (at_builtin; refine app_byte rfl _ _ rfl w w.heap.size _ _ _ (sg s 0) _ rfl (HR.out.ext (ext_drewN (Ext.refl _) _)) (ext_drewN hx _) (Nat.le_refl _) (ext_drewN hx _).size (by omega) rfl rfl ?_; intro v5 w5 r5 x5; have R5 := Lib.hid r5; clear r5)
        go_roundw
        case rel => exact ⟨0 + 1, by omega, by go_num, by rw [HN.out]; exact R5.out, x5⟩
        case measure => simp [intOf]; omega
      · obtain ⟨j, hj⟩ : ∃ j, j = k - 1 := ⟨_, rfl⟩
        have HJ := Lib.hid hj
        have hjl : j < s.size := by omega
        have hjn : ¬ (k : Int) = 0 := by omega
        have hjd : decide ((k : Int) = 0) = false := decide_eq_false hjn
        have ij : ∀ w, (Instr.index 9 (.string s) (.int .i64 (j : Int))).run Try.prog w = .ok (.int .u8 ((sg s j).toNat : Int)) w := fun w => ixB s j hjl w
        have W1 : IntKind.i64.wrap ((k : Int) - 1) = ((j : Nat) : Int) := by simp only [IntKind.wrap_i64]; omega
        clear hj
        by_cases he : ((sg s j).toNat : Int) = ((sg s k).toNat : Int)
        · have HN := Lib.hid (col_no (s := s) (k := k) (fun h => h.elim h0 (fun h => h (by rw [← HJ.out]; exact sg_eq.2 he))))
          go_wp2
          go_quiet (fail)
          go_wp2
          go_roundw
          case rel => exact ⟨k + 1, by omega, by go_num, by rw [HN.out]; exact HR.out.ext (ext_drewN (Ext.refl _) _), ext_drewN hx _⟩
          case measure => simp [intOf]; omega
        · have HN := Lib.hid (col_yes (s := s) (k := k) (.inr (fun h => he (sg_eq.1 (by rw [HJ.out]; exact h)))))
          have hb : (((sg s j).toNat : Int) != ((sg s k).toNat : Int)) = true := bne_iff_ne.2 he
          go_wp2
          go_quiet (fail)
          go_wp2_with (at_builtin; refine app_byte rfl _ _ rfl w w.heap.size _ _ _ (sg s k) _ rfl (HR.out.ext (ext_drewN (Ext.refl _) _)) (ext_drewN hx _) (Nat.le_refl _) (ext_drewN hx _).size (by omega) rfl rfl ?_; intro v5 w5 r5 x5; have R5 := Lib.hid r5; clear r5)
          go_roundw
          case rel => exact ⟨k + 1, by omega, by go_num, by rw [HN.out]; exact R5.out, x5⟩
          case measure => simp [intOf]; omega
    · obtain rfl : k = s.size := by omega
      have hcv := convB HR.out
      go_wp2
      go_ret2
      exact ⟨ret_sB HV.out.symm rfl, hx⟩

set_option maxHeartbeats 2000000 in
theorem colS_any (s : ByteArray) (w : World) (hs : s.size ≤ maxLen) : Calls Try.prog 17 #[.string s] w fun e w' => e = .returned (.tuple #[.string (colV s), .bool (isT 20 s)]) ∧ Ext w w' := by
  cases h : isT 20 s
  · have HV := Lib.hid (colV_no h)
    go_enter Try.func17, Try.ntmps17
    go_wp2_with (go_at_call 43; refine (bkText_any s _ hs).mono ?_; rintro e w1 ⟨rfl, rfl⟩; rw [h])
    go_ret2
    exact ⟨ret_sB HV.out.symm rfl, Ext.refl _⟩
  have HV := Lib.hid (colV_yes h)
  have h20 := isT_size h
  go_enter Try.func17, Try.ntmps17
  go_wp2_with (go_at_call 43; refine (bkText_any s _ hs).mono ?_; rintro e w1 ⟨rfl, rfl⟩; rw [h])
  clear h
  go_loopw [4, 5] (fun o i wr => ∃ k : Nat, k ≤ s.size ∧ i = .int .i64 k ∧ o = .string (tB (col s k)) ∧ Ext w wr) (fun _ i _ => s.size - (intOf i).toNat)
  case atStart => exact ⟨0, Nat.zero_le _, rfl, rfl, Ext.refl _⟩
  case round =>
    obtain ⟨k, hk, rfl, rfl, hx⟩ := hrel
    have hcl := col_len s k
    have hts : (tB (col s k)).size ≤ 20 := by rw [tB_size]; omega
    obtain ⟨T, hT⟩ : ∃ T, T = tB (col s k) := ⟨_, rfl⟩
    have HT := Lib.hid hT
    rw [← hT] at hts ⊢
    clear hT
    by_cases hlt : k < s.size
    · have ik : ∀ w, (Instr.index 9 (.string s) (.int .i64 (k : Int))).run Try.prog w = .ok (.int .u8 ((sg s k).toNat : Int)) w := fun w => ixB s k hlt w
      have he1 := ext1B s k hlt
      have hz1 : (⟨#[sg s k]⟩ : ByteArray).size = 1 := rfl
      have hk1 : k + 1 ≤ s.size := hlt
      by_cases h0 : k = 0
      · subst h0
        have HN := Lib.hid (show tB (col s (0 + 1)) = T ++ ⟨#[sg s 0]⟩ by rw [col_yes (s := s) (k := 0) (.inl rfl), tB_snoc, HT.out])
        have ik0 : ∀ w, (Instr.index 9 (.string s) (.int .i64 0)).run Try.prog w = .ok (.int .u8 ((sg s 0).toNat : Int)) w := fun w => ik w
        have he0 : s.extract 0 1 = ⟨#[sg s 0]⟩ := he1
        clear ik
        go_wp2
        go_quiet (fail)
        go_wp2
        go_roundw
        case rel => exact ⟨0 + 1, by omega, by go_num, by rw [HN.out, ← he0], ext_drewN hx _⟩
        case measure => simp [intOf]; omega
      · obtain ⟨j, hj⟩ : ∃ j, j = k - 1 := ⟨_, rfl⟩
        have HJ := Lib.hid hj
        have hjl : j < s.size := by omega
        have hjn : ¬ (k : Int) = 0 := by omega
        have hjd : decide ((k : Int) = 0) = false := decide_eq_false hjn
        have ij : ∀ w, (Instr.index 9 (.string s) (.int .i64 (j : Int))).run Try.prog w = .ok (.int .u8 ((sg s j).toNat : Int)) w := fun w => ixB s j hjl w
        have W1 : IntKind.i64.wrap ((k : Int) - 1) = ((j : Nat) : Int) := by simp only [IntKind.wrap_i64]; omega
        clear hj
        by_cases he : ((sg s j).toNat : Int) = ((sg s k).toNat : Int)
        · have HN := Lib.hid (col_no (s := s) (k := k) (fun h => h.elim h0 (fun h => h (by rw [← HJ.out]; exact sg_eq.2 he))))
          go_wp2
          go_quiet (fail)
          go_wp2
          go_roundw
          case rel => exact ⟨k + 1, by omega, by go_num, by rw [HN.out, HT.out], ext_drewN hx _⟩
          case measure => simp [intOf]; omega
        · have HN := Lib.hid (show tB (col s (k + 1)) = T ++ ⟨#[sg s k]⟩ by rw [col_yes (s := s) (k := k) (.inr (fun h => he (sg_eq.1 (by rw [HJ.out]; exact h)))), tB_snoc, HT.out])
          have hb : (((sg s j).toNat : Int) != ((sg s k).toNat : Int)) = true := bne_iff_ne.2 he
          go_wp2
          go_quiet (fail)
          go_wp2
          go_roundw
          case rel => exact ⟨k + 1, by omega, by go_num, by rw [HN.out, ← he1], ext_drewN hx _⟩
          case measure => simp [intOf]; omega
    · obtain rfl : k = s.size := by omega
      go_wp2
      go_ret2
      exact ⟨ret_sB (by rw [HV.out, HT.out]) rfl, hx⟩
end Go.Proofs.Ytnoidabmbckfkaa
