/- What the pad's functions of the program and of its model answer at a letter or a key. No conditions but the table's content. -/
import Derived.Test.YtioinihlahnbfaaDoorPad
namespace Go.Proofs.YtioinihlahnbfaaDoor
open Go.RowKit

theorem ret_ui {a a' b b' : Int} {k l : IntKind} (h : a = a') (h2 : b = b') : Ending.returned (.tuple #[.int k a, .int l b]) = .returned (.tuple #[.int k a', .int l b']) := by rw [h, h2]
theorem ret_ib {a a' : Int} {b b' : Bool} {k : IntKind} (h : a = a') (h2 : b = b') : Ending.returned (.tuple #[.int k a, .bool b]) = .returned (.tuple #[.int k a', .bool b']) := by rw [h, h2]
theorem ret_int {a a' : Int} {k : IntKind} (h : a = a') : Ending.returned (.int k a) = .returned (.int k a') := by rw [h]

/-! ### Plain facts on letters, keys and places -/
theorem lt_size : ∀ k : Nat, k < 8 → ((lt k).size : Int) = lo (k + 1) - lo k ∧ 3 ≤ (lt k).size ∧ (lt k).size ≤ 4
  | 0, _ => ⟨rfl, by decide, by decide⟩
  | 1, _ => ⟨rfl, by decide, by decide⟩
  | 2, _ => ⟨rfl, by decide, by decide⟩
  | 3, _ => ⟨rfl, by decide, by decide⟩
  | 4, _ => ⟨rfl, by decide, by decide⟩
  | 5, _ => ⟨rfl, by decide, by decide⟩
  | 6, _ => ⟨rfl, by decide, by decide⟩
  | 7, _ => ⟨rfl, by decide, by decide⟩
  | k + 8, h => absurd h (by omega)
theorem lt_get : ∀ k : Nat, k < 8 → ∀ i (h : i < (lt k).size), ((lt k)[i].toNat : Int) = lo k + i
  | 0, _, i, h => match i, h with | 0, _ => rfl | 1, _ => rfl | 2, _ => rfl
  | 1, _, i, h => match i, h with | 0, _ => rfl | 1, _ => rfl | 2, _ => rfl
  | 2, _, i, h => match i, h with | 0, _ => rfl | 1, _ => rfl | 2, _ => rfl
  | 3, _, i, h => match i, h with | 0, _ => rfl | 1, _ => rfl | 2, _ => rfl
  | 4, _, i, h => match i, h with | 0, _ => rfl | 1, _ => rfl | 2, _ => rfl
  | 5, _, i, h => match i, h with | 0, _ => rfl | 1, _ => rfl | 2, _ => rfl | 3, _ => rfl
  | 6, _, i, h => match i, h with | 0, _ => rfl | 1, _ => rfl | 2, _ => rfl
  | 7, _, i, h => match i, h with | 0, _ => rfl | 1, _ => rfl | 2, _ => rfl | 3, _ => rfl
  | k + 8, hk, _, _ => absurd hk (by omega)
theorem lo_vals : lo 0 = 97 ∧ lo 1 = 100 ∧ lo 2 = 103 ∧ lo 3 = 106 ∧ lo 4 = 109 ∧ lo 5 = 112 ∧ lo 6 = 116 ∧ lo 7 = 119 ∧ lo 8 = 123 := by decide
theorem lo_bd (k : Nat) (hk : k ≤ 8) : 97 ≤ lo k ∧ lo k ≤ 123 := by
  obtain ⟨a0, a1, a2, a3, a4, a5, a6, a7, a8⟩ := lo_vals
  obtain rfl | rfl | rfl | rfl | rfl | rfl | rfl | rfl | rfl : k = 0 ∨ k = 1 ∨ k = 2 ∨ k = 3 ∨ k = 4 ∨ k = 5 ∨ k = 6 ∨ k = 7 ∨ k = 8 := by omega
  all_goals omega
theorem grp_lt (c : Int) : grp c < 8 := by unfold grp; (repeat' split) <;> omega
theorem grp_of (c : Int) (k : Nat) (hk : k < 8) (h1 : lo k ≤ c) (h2 : c < lo (k + 1)) : grp c = k := by
  obtain ⟨a0, a1, a2, a3, a4, a5, a6, a7, a8⟩ := lo_vals
  obtain rfl | rfl | rfl | rfl | rfl | rfl | rfl | rfl : k = 0 ∨ k = 1 ∨ k = 2 ∨ k = 3 ∨ k = 4 ∨ k = 5 ∨ k = 6 ∨ k = 7 := by omega
  all_goals (simp only [Nat.reduceAdd] at h2; unfold grp; repeat (first | rw [if_neg (by omega)] | rw [if_pos (by omega)]))
theorem grp_in (c : Int) (h1 : 97 ≤ c) (h2 : c ≤ 122) : lo (grp c) ≤ c ∧ c < lo (grp c + 1) := by
  obtain ⟨a0, a1, a2, a3, a4, a5, a6, a7, a8⟩ := lo_vals
  unfold grp
  repeat' split
  all_goals (simp only [Nat.reduceAdd]; omega)
theorem pl_bd (c : Int) (h : isL c = true) : 0 ≤ pl c ∧ pl c ≤ 3 ∧ pl c < (lt (grp c)).size := by
  have hb : 97 ≤ c ∧ c ≤ 122 := by unfold isL at h; simp at h; omega
  have h1 := grp_in c hb.1 hb.2
  have h2 := lt_size (grp c) (grp_lt c)
  unfold pl
  omega
theorem dg_bd (c : Int) : 50 ≤ dg c ∧ dg c ≤ 57 := by have := grp_lt c; unfold dg; omega

/-- The letters on the key of a digit, or none. -/
def lt8 (d : Int) : ByteArray := if 50 ≤ d ∧ d ≤ 57 then lt (d - 50).toNat else ⟨#[]⟩
theorem lt8_at (k : Nat) (hk : k < 8) : lt8 (50 + k) = lt k := by
  unfold lt8; rw [if_pos (by omega)]; congr 1; omega
theorem lt8_dg (c : Int) : lt8 (dg c) = lt (grp c) := lt8_at _ (grp_lt c)

set_option maxHeartbeats 1000000 in
theorem prL_any (d : Int) (w : World) : Calls Tryd.prog 70 #[.int .u8 d] w fun e w' => e = .returned (.string (lt8 d)) ∧ w = w' := by
  by_cases h : 50 ≤ d ∧ d ≤ 57
  · obtain rfl | rfl | rfl | rfl | rfl | rfl | rfl | rfl : d = 50 ∨ d = 51 ∨ d = 52 ∨ d = 53 ∨ d = 54 ∨ d = 55 ∨ d = 56 ∨ d = 57 := by omega
    all_goals clear h
    all_goals go_enter Tryd.func70, Tryd.ntmps70
    all_goals go_wp2
    all_goals go_ret
    all_goals exact ⟨rfl, rfl⟩
  · have H := Lib.hid (show lt8 d = ⟨#[]⟩ from if_neg h)
    have n0 : ¬ d = 50 := by omega
    have n1 : ¬ d = 51 := by omega
    have n2 : ¬ d = 52 := by omega
    have n3 : ¬ d = 53 := by omega
    have n4 : ¬ d = 54 := by omega
    have n5 : ¬ d = 55 := by omega
    have n6 : ¬ d = 56 := by omega
    have n7 : ¬ d = 57 := by omega
    clear h
    go_enter Tryd.func70, Tryd.ntmps70
    go_wp2
    go_ret
    exact ⟨by rw [H.out]; rfl, rfl⟩

set_option maxHeartbeats 1000000 in
theorem prKey_any (c : Int) (w : World) (hc : isL c = true) : Calls Tryd.prog 55 #[.int .u8 c] w fun e w' => e = .returned (.tuple #[.int .u8 (dg c), .int .i64 (pl c + 1)]) ∧ w = w' := by
  have hb : 97 ≤ c ∧ c ≤ 122 := by unfold isL at hc; simp at hc; omega
  obtain ⟨hb1, hb2⟩ := hb
  clear hc
  go_enter Tryd.func55, Tryd.ntmps55
  go_wp2
  go_loop [4] (fun d => ∃ k : Nat, k ≤ 8 ∧ d = .int .u8 (50 + k) ∧ lo k ≤ c) (fun d => 58 - (intOf d).toNat)
  case atStart => exact ⟨0, by omega, rfl, hb1⟩
  case round =>
    obtain ⟨k, hk, rfl, hlo⟩ := hrel
    have hk8 : k < 8 := by
      rcases Nat.lt_or_ge k 8 with h | h
      · exact h
      · obtain rfl : k = 8 := by omega
        have := lo_vals; omega
    obtain ⟨z1, z2, z3⟩ := lt_size k hk8
    have Z1 := Lib.hid z1
    clear z1
    have LG := Lib.hid (lt_get k hk8)
    have L8 := Lib.hid (lt8_at k hk8)
    go_wp2_with (go_at_call 70; refine (prL_any _ _).mono ?_; rintro e w' ⟨rfl, rfl⟩; rw [L8.out])
    go_loop [6] (fun i => ∃ j : Nat, j ≤ (lt k).size ∧ i = .int .i64 j ∧ lo k + j ≤ c) (fun i => (lt k).size - (intOf i).toNat)
    case atStart => exact ⟨0, by omega, rfl, by simpa using hlo⟩
    case round =>
      obtain ⟨j, hj, rfl, hcj⟩ := hrel
      by_cases hlt : j < (lt k).size
      · have hg := LG.out j hlt
        by_cases he : c = lo k + j
        · have hd : dg c = 50 + k := by unfold dg; rw [grp_of c k hk8 (by omega) (by have := Z1.out; omega)]
          have hp : pl c = j := by unfold pl; rw [grp_of c k hk8 (by omega) (by have := Z1.out; omega)]; omega
          have HD := Lib.hid hd
          have HP := Lib.hid hp
          have ht : (((lt k)[j].toNat : Int) == c) = true := by rw [beq_iff_eq]; omega
          clear hd hp hg he
          go_wp2
          go_ret2
          exact ⟨ret_ui HD.out.symm (by rw [HP.out]), rfl⟩
        · have ht : (((lt k)[j].toNat : Int) == c) = false := by rw [beq_eq_false_iff_ne]; omega
          clear hg
          go_wp2
          go_round
          case rel => exact ⟨j + 1, by omega, by go_num, by omega⟩
          case measure => simp [intOf]; omega
      · go_wp2
        go_round
        case rel => exact ⟨k + 1, by omega, by go_num, by have := Z1.out; omega⟩
        case measure => simp [intOf]; omega

/-! ### The pad's small functions -/

theorem sign_any (d : Int) (s : ByteArray) (w : World) : Calls Tryd.prog 58 #[.agg #[.int .u8 d, .string s]] w fun e w' => e = .returned (.int .u8 d) ∧ Ext w w' := by
  go_enter Tryd.func58, Tryd.ntmps58
  go_wp2
  go_ret
  exact ⟨rfl, (Ext.refl _).alloc _⟩



def is1 (s : ByteArray) : Bool := decide (s.size = 1) && isW s
theorem is1_size {s : ByteArray} (h : is1 s = true) : s.size = 1 := by unfold is1 at h; simp at h; exact h.1
theorem isW_get {s : ByteArray} (h : isW s = true) (i : Nat) (hi : i < s.size) : isL s[i].toNat = true := by
  unfold isW at h
  simp only [Bool.and_eq_true, List.all_eq_true] at h
  have h2 : i < s.data.toList.length := by simpa using hi
  exact h.2 s[i] (by have : s.data.toList[i] = s[i] := rfl; rw [← this]; exact List.getElem_mem h2)
theorem is1_get {s : ByteArray} (h : is1 s = true) : isL (s[0]'(by have := is1_size h; omega)).toNat = true :=
  isW_get (by unfold is1 at h; simp at h; exact h.2) 0 _


end Go.Proofs.YtioinihlahnbfaaDoor
