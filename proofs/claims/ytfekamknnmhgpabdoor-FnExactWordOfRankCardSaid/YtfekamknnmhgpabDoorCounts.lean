/- How many words have the same keys, or one more than the most: alike by the program and by its model. No conditions but the table's content. -/
import Derived.Test.YtfekamknnmhgpabDoorDigits
namespace Go.Proofs.YtfekamknnmhgpabDoor
open Go.RowKit

def mn (a b : Int) : Int := if a < b then a else b
theorem mn_any (a b : Int) (w : World) : Calls Tryd.prog 27 #[.int .i64 a, .int .i64 b] w fun e w' => e = .returned (.int .i64 (mn a b)) ∧ w = w' := by
  by_cases h : a < b
  · have H := Lib.hid (show mn a b = a from if_pos h)
    go_enter Tryd.func27, Tryd.ntmps27
    go_wp2
    go_ret
    exact ⟨ret_int H.out.symm, rfl⟩
  · have H := Lib.hid (show mn a b = b from if_neg h)
    go_enter Tryd.func27, Tryd.ntmps27
    go_wp2
    go_ret
    exact ⟨ret_int H.out.symm, rfl⟩
theorem mn_bd (a b : Int) (h : 1 ≤ a) (h2 : 1 ≤ b) : 1 ≤ mn a b ∧ mn a b ≤ b := by unfold mn; split <;> omega

/-- How many letters a digit's key has. -/
def kz (c : Int) : Int := (lt (dk c)).size
theorem kz_bd {c : Int} (h : isD c = true) : 3 ≤ kz c ∧ kz c ≤ 4 := by have := lt_size (dk c) (dk_bd h).1; unfold kz; omega
def csL : List UInt8 → Int → Int
  | [], r => r
  | c :: l, r => csL l (mn (r * kz c.toNat) 1000000000000001)
def csTo (s : ByteArray) (k : Nat) : Int := csL (s.data.toList.take k) 1
theorem csL_snoc : ∀ (l : List UInt8) (c : UInt8) (r : Int), csL (l ++ [c]) r = mn (csL l r * kz c.toNat) 1000000000000001
  | [], _, _ => rfl
  | _ :: l, c, _ => by simp only [List.cons_append, csL]; exact csL_snoc l c _
theorem csTo_succ (s : ByteArray) (k : Nat) (h : k < s.size) : csTo s (k + 1) = mn (csTo s k * kz s[k].toNat) 1000000000000001 := by
  unfold csTo; rw [take_snoc s k h, csL_snoc]
theorem kmul_bd {r z : Int} (h0 : 1 ≤ r) (h1 : r ≤ 1000000000000001) (h2 : 3 ≤ z) (h3 : z ≤ 4) : r ≤ r * z ∧ r * z ≤ 4000000000000004 := by
  obtain rfl | rfl : z = 3 ∨ z = 4 := by omega
  all_goals omega
/-- Every sign is a digit with a key. -/
def AllD (s : ByteArray) : Prop := ∀ i (hi : i < s.size), isD s[i].toNat = true
theorem csTo_bd (s : ByteArray) (hw : AllD s) : ∀ k, k ≤ s.size → 1 ≤ csTo s k ∧ csTo s k ≤ 1000000000000001
  | 0, _ => by simp [csTo, csL]
  | k + 1, h => by
    have ih := csTo_bd s hw k (by omega)
    have hz := kz_bd (hw k h)
    have hm := kmul_bd ih.1 ih.2 hz.1 hz.2
    rw [csTo_succ s k h]
    exact mn_bd _ _ (by omega) (by decide)
theorem csTo_up (s : ByteArray) (hw : AllD s) (k : Nat) : ∀ j, k + j ≤ s.size → 1000000000000000 < csTo s k → 1000000000000000 < csTo s (k + j)
  | 0, _, h => h
  | j + 1, hj, h => by
    have ih := csTo_up s hw k j (by omega) h
    have hb := csTo_bd s hw (k + j) (by omega)
    have hz := kz_bd (hw (k + j) (by omega))
    have hm := kmul_bd hb.1 hb.2 hz.1 hz.2
    rw [show k + (j + 1) = k + j + 1 from rfl, csTo_succ s (k + j) (by omega)]
    unfold mn
    split <;> omega

set_option maxHeartbeats 400000 in
theorem prSame_any (s : ByteArray) (w : World) (hs : s.size ≤ 40) (hw : AllD s) : Calls Tryd.prog 13 #[.string s] w fun e w' => e = .returned (.int .i64 (csTo s s.size)) ∧ w = w' := by
  have HD := Lib.hid hw
  clear hw
  go_enter Tryd.func13, Tryd.ntmps13
  go_wp2
  go_loop [3, 4] (fun n i => ∃ k : Nat, k ≤ s.size ∧ i = .int .i64 k ∧ n = .int .i64 (csTo s k)) (fun _ i => s.size - (intOf i).toNat)
  case atStart => exact ⟨0, by omega, rfl, rfl⟩
  case round =>
    obtain ⟨k, hk, rfl, rfl⟩ := hrel
    obtain ⟨hb1, hb2⟩ := csTo_bd s HD.out k hk
    by_cases hlt : k < s.size
    · have HL := Lib.hid (HD.out k hlt)
      obtain ⟨hm1, hm2⟩ := kmul_bd hb1 hb2 (kz_bd HL.out).1 (kz_bd HL.out).2
      have HS := Lib.hid (csTo_succ s k hlt)
      unfold kz at hm1 hm2 HS
      go_wp2_with (first | (go_at_call 14; refine (prL_any _ _).mono ?_; rintro e w' ⟨rfl, rfl⟩; rw [lt8_dk HL.out]) | (go_at_call 27; refine (mn_any _ _ _).mono ?_; rintro e w' ⟨rfl, rfl⟩))
      go_round
      case rel => exact ⟨k + 1, by omega, by go_num, by rw [HS.out]⟩
      case measure => simp [intOf]; omega
    · obtain rfl : k = s.size := by omega
      go_wp2
      go_ret
      exact ⟨rfl, rfl⟩

end Go.Proofs.YtfekamknnmhgpabDoor
