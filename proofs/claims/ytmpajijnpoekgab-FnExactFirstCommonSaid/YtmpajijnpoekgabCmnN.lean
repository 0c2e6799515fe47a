/- The first common text of two: the model's side. No conditions. -/
import Derived.Test.YtmpajijnpoekgabCmnI
import Derived.Test.YtmpajijnpoekgabCmnT
namespace Go.Proofs.Ytmpajijnpoekgab
open Go.RowKit

/-- The next place of a letter, from a place on. -/
def nq (s : ByteArray) (z : UInt8) (i : Nat) : Nat := i + ((s.data.toList.drop i).takeWhile fun c => c != z).length
theorem nq_end {s : ByteArray} {z : UInt8} {i : Nat} (h : s.size ≤ i) : nq s z i = i := by
  unfold nq
  rw [List.drop_of_length_le (by simpa using h)]; rfl
theorem nq_hit {s : ByteArray} {z : UInt8} {i : Nat} (h : i < s.size) (e : sg s i = z) : nq s z i = i := by
  unfold nq
  rw [dropAt s i h, List.takeWhile_cons]
  simp [e]
theorem nq_go {s : ByteArray} {z : UInt8} {i : Nat} (h : i < s.size) (e : sg s i ≠ z) : nq s z i = nq s z (i + 1) := by
  unfold nq
  rw [dropAt s i h, List.takeWhile_cons]
  simp [e]
  omega
theorem nq_le {s : ByteArray} {z : UInt8} (n : Nat) : ∀ i, s.size - i ≤ n → i ≤ s.size → i ≤ nq s z i ∧ nq s z i ≤ s.size := by
  induction n with
  | zero => intro i h hi; rw [nq_end (by omega)]; omega
  | succ n ih =>
    intro i h hi
    by_cases hl : i < s.size
    · by_cases e : sg s i = z
      · rw [nq_hit hl e]; omega
      · rw [nq_go hl e]
        have := ih (i + 1) (by omega) (by omega)
        omega
    · rw [nq_end (by omega)]; omega
theorem nq_bd {s : ByteArray} {z : UInt8} {i : Nat} (h : i ≤ s.size) : i ≤ nq s z i ∧ nq s z i ≤ s.size := nq_le _ i (Nat.le_refl _) h
theorem nq_aft {s : ByteArray} {z : UInt8} (n : Nat) : ∀ i, s.size - i ≤ n → i ≤ s.size → aft z (s.data.toList.drop i) = if nq s z i < s.size then some (s.data.toList.drop (nq s z i + 1)) else none := by
  induction n with
  | zero =>
    intro i h hi
    rw [nq_end (by omega), if_neg (by omega), List.drop_of_length_le (by simp; omega)]
    rfl
  | succ n ih =>
    intro i h hi
    by_cases hl : i < s.size
    · rw [dropAt s i hl, aft]
      by_cases e : sg s i = z
      · rw [if_pos e, nq_hit hl e, if_pos hl]
      · rw [if_neg e, nq_go hl e]
        exact ih (i + 1) (by omega) (by omega)
    · rw [nq_end (by omega), if_neg (by omega), List.drop_of_length_le (by simp; omega)]
      rfl
theorem nq_aft' {s : ByteArray} {z : UInt8} {i : Nat} (h : i ≤ s.size) : aft z (s.data.toList.drop i) = if nq s z i < s.size then some (s.data.toList.drop (nq s z i + 1)) else none := nq_aft _ i (Nat.le_refl _) h

theorem ret_iN {a a' : Int} {k : IntKind} (h : a = a') : Ending.returned (.int k a) = .returned (.int k a') := by rw [h]
set_option maxHeartbeats 1000000 in
theorem bkNext_any (s : ByteArray) (i : Nat) (z : UInt8) (x : Int) (w : World) (hi : i ≤ s.size) (hs : s.size ≤ 20) (hx : x = (z.toNat : Int)) : Calls Try.prog 77 #[.string s, .int .i64 i, .int .u8 x] w fun e w' => e = .returned (.int .i64 (nq s z i : Nat)) ∧ w = w' := by
  subst hx
  go_enter Try.func77, Try.ntmps77
  go_wp2
  go_loop [1] (fun q => ∃ k : Nat, k ≤ s.size ∧ q = .int .i64 k ∧ nq s z k = nq s z i) (fun q => s.size - (intOf q).toNat)
  case atStart => exact ⟨i, hi, rfl, rfl⟩
  case round =>
    obtain ⟨k, hk, rfl, hn⟩ := hrel
    have HN := Lib.hid hn
    clear hn
    by_cases hlt : k < s.size
    · have ik : ∀ w, (Instr.index 9 (.string s) (.int .i64 (k : Int))).run Try.prog w = .ok (.int .u8 ((sg s k).toNat : Int)) w := fun w => ixB s k hlt w
      have hki : (k : Int) < (s.size : Int) := by omega
      have hks : ¬ (s.size : Int) ≤ (k : Int) := by omega
      by_cases he : sg s k = z
      · have HV := Lib.hid (nq_hit hlt he)
        have heb : (((sg s k).toNat : Int) != (z.toNat : Int)) = false := by rw [he]; simp
        have hee : (((sg s k).toNat : Int) == (z.toNat : Int)) = true := by rw [he]; simp
        have hei : ((sg s k).toNat : Int) = (z.toNat : Int) := by rw [he]
        obtain ⟨c, hc⟩ : ∃ c : Nat, c = (sg s k).toNat := ⟨_, rfl⟩
        rw [← hc] at ik heb hee hei
        clear he hc
        go_wp2
        go_ret
        exact ⟨ret_iN (by rw [← HN.out, HV.out]), rfl⟩
      · have HV := Lib.hid (nq_go hlt he)
        have hne : (sg s k).toNat ≠ z.toNat := fun h => he (UInt8.toNat_inj.1 h)
        have heb : (((sg s k).toNat : Int) != (z.toNat : Int)) = true := by simp; omega
        have hee : (((sg s k).toNat : Int) == (z.toNat : Int)) = false := by simp; omega
        have hei : ¬ ((sg s k).toNat : Int) = (z.toNat : Int) := by omega
        obtain ⟨c, hc⟩ : ∃ c : Nat, c = (sg s k).toNat := ⟨_, rfl⟩
        rw [← hc] at ik heb hee hei
        clear he hc hne
        go_wp2
        go_round
        case rel => exact ⟨k + 1, by omega, by go_num, by rw [← HV.out]; exact HN.out⟩
        case measure => simp [intOf]; omega
    · have HV := Lib.hid (nq_end (z := z) (show s.size ≤ k by omega))
      have hks : ¬ (k : Int) < (s.size : Int) := by omega
      go_wp2
      go_ret
      exact ⟨ret_iN (by rw [← HN.out, HV.out]), rfl⟩
end Go.Proofs.Ytmpajijnpoekgab
