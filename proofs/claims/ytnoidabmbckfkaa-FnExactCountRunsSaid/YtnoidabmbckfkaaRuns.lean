/- The lengths of the runs of a text: the program's way and its model's. No conditions. -/
import Derived.Test.YtnoidabmbckfkaaIApp
import Derived.Test.YtnoidabmbckfkaaCol
namespace Go.Proofs.Ytnoidabmbckfkaa
open Go.RowKit

theorem ret_vB {v : Value} {b b' : Bool} (h : b = b') : Ending.returned (.tuple #[v, .bool b]) = .returned (.tuple #[v, .bool b']) := by rw [h]
/-- An answer: a list of the call's own with these numbers, and whether there is one. -/
def ResI (zs : List Int) (ok : Bool) (w : World) (e : Ending) (w' : World) : Prop := ∃ v, e = .returned (.tuple #[v, .bool ok]) ∧ RowI w.heap.size w' v zs ∧ Ext w w'
/-- The last number one more. -/
def inc1 (l : List Int) : List Int := l.set (l.length - 1) (l.getD (l.length - 1) 0 + 1)
theorem inc1_len (l : List Int) : (inc1 l).length = l.length := by unfold inc1; rw [List.length_set]
theorem inc1_snoc (l : List Int) (x : Int) : inc1 (l ++ [x]) = l ++ [x + 1] := by
  unfold inc1
  have e : (l ++ [x]).length - 1 = l.length := by simp
  rw [e, List.set_append_right _ _ (Nat.le_refl _), Nat.sub_self, List.getD_eq_getElem?_getD, List.getElem?_append_right (Nat.le_refl _), Nat.sub_self]
  rfl
/-- The lengths of the runs of the first so many signs. -/
def rns (s : ByteArray) : Nat → List Int
  | 0 => []
  | k + 1 => inc1 (if k = 0 ∨ sg s (k - 1) ≠ sg s k then rns s k ++ [0] else rns s k)
theorem rns_yes {s : ByteArray} {k : Nat} (h : k = 0 ∨ sg s (k - 1) ≠ sg s k) : rns s (k + 1) = rns s k ++ [1] := by
  rw [rns, if_pos h, inc1_snoc]; rfl
theorem rns_no {s : ByteArray} {k : Nat} (h : ¬ (k = 0 ∨ sg s (k - 1) ≠ sg s k)) : rns s (k + 1) = inc1 (rns s k) := by rw [rns, if_neg h]
theorem rns_len (s : ByteArray) : ∀ k, (rns s k).length ≤ k
  | 0 => Nat.le_refl _
  | k + 1 => by
    have := rns_len s k
    rw [rns, inc1_len]
    split
    · rw [List.length_append, List.length_singleton]; omega
    · omega
theorem rns_pos (s : ByteArray) : ∀ k, 0 < k → 0 < (rns s k).length
  | 0, h => absurd h (by omega)
  | k + 1, _ => by
    rw [rns, inc1_len]
    by_cases h0 : k = 0
    · rw [if_pos (.inl h0)]; simp
    · have := rns_pos s k (by omega)
      split
      · rw [List.length_append]; omega
      · exact this
theorem rns_le (s : ByteArray) : ∀ k, ∀ x ∈ rns s k, 0 ≤ x ∧ x ≤ (k : Int)
  | 0, x, h => by cases h
  | k + 1, x, h => by
    by_cases hs : k = 0 ∨ sg s (k - 1) ≠ sg s k
    · rw [rns_yes hs] at h
      rcases List.mem_append.1 h with h | h
      · have := rns_le s k x h; omega
      · rw [List.mem_singleton] at h; omega
    · rw [rns_no hs] at h
      unfold inc1 at h
      rcases List.mem_or_eq_of_mem_set h with h | h
      · have := rns_le s k x h; omega
      · by_cases hl : (rns s k).length - 1 < (rns s k).length
        · have h2 := rns_le s k ((rns s k).getD ((rns s k).length - 1) 0) (by
            rw [List.getD_eq_getElem?_getD, List.getElem?_eq_getElem hl]
            exact List.getElem_mem hl)
          omega
        · rw [List.getD_eq_getElem?_getD, List.getElem?_eq_none (by omega)] at h
          simp at h
          omega
/-- A run from i on, so far as k. -/
theorem rns_run {s : ByteArray} {i : Nat} (h : i = 0 ∨ sg s (i - 1) ≠ sg s i) : ∀ d, (∀ j, i ≤ j → j ≤ i + d → sg s j = sg s i) → rns s (i + d + 1) = rns s i ++ [((d + 1 : Nat) : Int)]
  | 0, _ => by rw [rns_yes h]; rfl
  | d + 1, hall => by
    have ih := rns_run h d (fun j h1 h2 => hall j h1 (by omega))
    have e : ¬ (i + d + 1 = 0 ∨ sg s (i + d + 1 - 1) ≠ sg s (i + d + 1)) := by
      intro h
      rcases h with h | h
      · omega
      · exact h (by rw [hall (i + d + 1) (by omega) (by omega), Nat.add_sub_cancel, hall (i + d) (by omega) (by omega)])
    rw [show i + (d + 1) + 1 = (i + d + 1) + 1 by omega, rns_no e, ih, inc1_snoc]
    rfl
def runsV (s : ByteArray) : List Int := if isT 20 s then rns s s.size else []
theorem runsV_no {s : ByteArray} (h : isT 20 s = false) : runsV s = [] := by unfold runsV; rw [h]; rfl
theorem runsV_yes {s : ByteArray} (h : isT 20 s = true) : runsV s = rns s s.size := by unfold runsV; rw [h]; rfl
theorem runsV_len (s : ByteArray) : (runsV s).length ≤ 20 := by
  cases h : isT 20 s
  · rw [runsV_no h]; simp
  · rw [runsV_yes h]
    have := rns_len s s.size
    have := isT_size h
    omega

/-- An answer that is where the run from i on ends. -/
def REnd (s : ByteArray) (i : Nat) (w : World) (e : Ending) (w' : World) : Prop := ∃ n : Nat, i < n ∧ n ≤ s.size ∧ (∀ j, i ≤ j → j < n → sg s j = sg s i) ∧ (n < s.size → sg s n ≠ sg s i) ∧ e = .returned (.int .i64 n) ∧ Ext w w'

set_option maxHeartbeats 1000000 in
theorem runEndS_any (p : ByteArray) (i : Nat) (hi : i < p.size) (hs : p.size ≤ 200) (w : World) : Calls Try.prog 46 #[.string p, .int .i64 i] w (REnd p i w) := by
  go_enter Try.func46, Try.ntmps46
  go_wp2
  go_loopw [5] (fun c wr => ∃ k : Nat, i ≤ k ∧ k ≤ p.size ∧ c = .int .i64 k ∧ (∀ j, i ≤ j → j < k → sg p j = sg p i) ∧ Ext w wr) (fun c _ => p.size - (intOf c).toNat)
  case atStart => exact ⟨i, Nat.le_refl _, by omega, rfl, fun j h1 h2 => absurd h2 (by omega), Ext.refl _⟩
  case round =>
    obtain ⟨k, hik, hk, rfl, hall, hx⟩ := hrel
    have HA := Lib.hid hall
    clear hall
    by_cases hlt : k < p.size
    · have i1 : ∀ w, (Instr.index 9 (.string p) (.int .i64 (k : Int))).run Try.prog w = .ok (.int .u8 ((sg p k).toNat : Int)) w := fun w => ixB p k hlt w
      have i2 : ∀ w, (Instr.index 9 (.string p) (.int .i64 (i : Int))).run Try.prog w = .ok (.int .u8 ((sg p i).toNat : Int)) w := fun w => ixB p i hi w
      by_cases he : ((sg p k).toNat : Int) = (sg p i).toNat
      · have HE := Lib.hid (sg_eq.2 he)
        go_wp2
        go_quiet (fail)
        go_wp2
        go_roundw
        case rel => exact ⟨k + 1, by omega, by omega, by go_num, fun j h1 h2 => by
          by_cases e : j = k
          · rw [e]; exact HE.out
          · exact HA.out j h1 (by omega), ext_drewN hx _⟩
        case measure => simp [intOf]; omega
      · have HE := Lib.hid (show sg p k ≠ sg p i from fun h => he (sg_eq.1 h))
        go_wp2
        go_quiet (fail)
        go_wp2
        go_ret
        have hne : k ≠ i := fun e => HE.out (by rw [e])
        exact ⟨k, by omega, hk, HA.out, fun _ => HE.out, rfl, ext_drewN hx _⟩
    · go_wp2
      go_quiet (fail)
      go_wp2
      go_ret
      exact ⟨k, by omega, hk, HA.out, fun h => absurd h hlt, rfl, ext_drewN hx _⟩

set_option maxHeartbeats 2000000 in
theorem runsI_any (s : ByteArray) (w : World) (hs : s.size ≤ maxLen) : Calls Try.prog 20 #[.string s] w (ResI (runsV s) (isT 20 s) w) := by
  cases h : isT 20 s
  · have HV := Lib.hid (runsV_no h)
    go_enter Try.func20, Try.ntmps20
    go_wp2_with (go_at_call 45; refine (isTyped_any s _ hs).mono ?_; rintro e w1 ⟨rfl, x1⟩; rw [h])
    go_ret2
    exact ⟨_, rfl, by rw [HV.out]; exact RowI.empty _ _, x1⟩
  have HV := Lib.hid (runsV_yes h)
  have h20 := isT_size h
  go_enter Try.func20, Try.ntmps20
  go_wp2_with (go_at_call 45; refine (isTyped_any s _ hs).mono ?_; rintro e w1 ⟨rfl, x1⟩; rw [h])
  clear h
  go_loopw [4, 5] (fun o i wr => ∃ k : Nat, k ≤ s.size ∧ (k = 0 ∨ k < s.size → k = 0 ∨ sg s (k - 1) ≠ sg s k) ∧ i = .int .i64 k ∧ RowI w.heap.size wr o (rns s k) ∧ Ext w wr) (fun _ i _ => s.size - (intOf i).toNat)
  case atStart => exact ⟨0, Nat.zero_le _, fun _ => .inl rfl, rfl, RowI.empty _ _, x1⟩
  case round =>
    obtain ⟨k, hk, hst, rfl, hr, hx⟩ := hrel
    have HR := Lib.hid hr
    have HS := Lib.hid hst
    clear hr hst
    have hrl := rns_len s k
    by_cases hlt : k < s.size
    · have HN := Lib.hid (fun (n : Nat) (hn1 : k < n) (hn3 : ∀ j, k ≤ j → j < n → sg s j = sg s k) => show rns s n = rns s k ++ [((n : Int) - (k : Int))] by
        have := rns_run (HS.out (.inr hlt)) (n - k - 1) (fun j h1 h2 => hn3 j h1 (by omega))
        rw [show k + (n - k - 1) + 1 = n by omega, show ((n - k - 1 + 1 : Nat) : Int) = (n : Int) - (k : Int) by omega] at this
        exact this)
      have HB := Lib.hid (fun (n : Nat) (hn1 : k < n) (hn3 : ∀ j, k ≤ j → j < n → sg s j = sg s k) (hn4 : n < s.size → sg s n ≠ sg s k) => show n = 0 ∨ n < s.size → n = 0 ∨ sg s (n - 1) ≠ sg s n from fun h => by
        rcases h with h | h
        · exact .inl h
        · refine .inr ?_
          rw [hn3 (n - 1) (by omega) (by omega)]
          exact fun e => hn4 h e.symm)
      go_wp2_with (first | (go_at_call 46; refine (runEndS_any s k hlt (by omega) _).mono ?_; rintro e w2 ⟨n, hn1, hn2, hn3, hn4, rfl, x2⟩; have HN2 := Lib.hid (HN.out n hn1 hn3); have HB2 := Lib.hid (HB.out n hn1 hn3 hn4); clear hn3 hn4; skip) | (at_builtin; refine app_int rfl _ _ rfl w w.heap.size _ _ _ ((n : Int) - (k : Int)) rfl (by exact HR.out.ext x2) (by exact hx.trans x2) (Nat.le_refl _) (hx.trans x2).size (by omega) rfl ?_; intro v5 w5 r5 x5; have R5 := Lib.hid r5; clear r5))
      go_roundw
      case rel => exact ⟨n, by omega, HB2.out, rfl, by rw [HN2.out]; exact R5.out, x5⟩
      case measure => simp [intOf]; omega
    · obtain rfl : k = s.size := by omega
      go_wp2
      go_ret2
      exact ⟨_, rfl, by rw [HV.out]; exact HR.out, hx⟩

set_option maxHeartbeats 2000000 in
theorem runsS_any (s : ByteArray) (w : World) (hs : s.size ≤ maxLen) : Calls Try.prog 19 #[.string s] w (ResI (runsV s) (isT 20 s) w) := by
  cases h : isT 20 s
  · have HV := Lib.hid (runsV_no h)
    go_enter Try.func19, Try.ntmps19
    go_wp2_with (go_at_call 43; refine (bkText_any s _ hs).mono ?_; rintro e w1 ⟨rfl, rfl⟩; rw [h])
    go_ret2
    exact ⟨_, rfl, by rw [HV.out]; exact RowI.empty _ _, Ext.refl _⟩
  have HV := Lib.hid (runsV_yes h)
  have h20 := isT_size h
  go_enter Try.func19, Try.ntmps19
  go_wp2_with (go_at_call 43; refine (bkText_any s _ hs).mono ?_; rintro e w1 ⟨rfl, rfl⟩; rw [h])
  clear h
  go_loopw [4, 5] (fun o i wr => ∃ k : Nat, k ≤ s.size ∧ i = .int .i64 k ∧ RowI w.heap.size wr o (rns s k) ∧ Ext w wr) (fun _ i _ => s.size - (intOf i).toNat)
  case atStart => exact ⟨0, Nat.zero_le _, rfl, RowI.empty _ _, Ext.refl _⟩
  case round =>
    obtain ⟨k, hk, rfl, hr, hx⟩ := hrel
    have HR := Lib.hid hr
    clear hr
    have hrl := rns_len s k
    have hrp := rns_pos s k
    by_cases hlt : k < s.size
    · have ik : ∀ w, (Instr.index 9 (.string s) (.int .i64 (k : Int))).run Try.prog w = .ok (.int .u8 ((sg s k).toNat : Int)) w := fun w => ixB s k hlt w
      by_cases h0 : k = 0
      · subst h0
        have HN := Lib.hid (rns_yes (s := s) (k := 0) (.inl rfl))
        have ik0 : ∀ w, (Instr.index 9 (.string s) (.int .i64 0)).run Try.prog w = .ok (.int .u8 ((sg s 0).toNat : Int)) w := fun w => ik w
        clear ik
        obtain ⟨L, hL⟩ : ∃ L, L = (rns s 0).length := ⟨_, rfl⟩
        have HL := Lib.hid hL
        rw [← hL] at hrl
        go_wp2
        go_quiet (fail)
        go_wp2_with (at_builtin; refine app_int rfl _ _ rfl w w.heap.size _ _ _ 0 rfl (HR.out.ext (ext_drewN (Ext.refl _) _)) (ext_drewN hx _) (Nat.le_refl _) (ext_drewN hx _).size (by omega) rfl ?_; intro v5 w5 r5 x5; obtain ⟨g5, c5, rfl, hB5, hc5, hf5, hs5⟩ := r5.last; have S5 := Lib.hid (hs5 _ (Ext.refl _) 1); clear hs5 r5)
        go_roundw
        case rel => exact ⟨0 + 1, by omega, by go_num, by rw [HN.out]; exact S5.out, x5.setCell hB5 _⟩
        case measure => simp [intOf]; omega
      · obtain ⟨j, hj⟩ : ∃ j, j = k - 1 := ⟨_, rfl⟩
        have HJ := Lib.hid hj
        have hjl : j < s.size := by omega
        have hjn : ¬ (k : Int) = 0 := by omega
        have hjd : decide ((k : Int) = 0) = false := decide_eq_false hjn
        have ij : ∀ w, (Instr.index 9 (.string s) (.int .i64 (j : Int))).run Try.prog w = .ok (.int .u8 ((sg s j).toNat : Int)) w := fun w => ixB s j hjl w
        have W1 : IntKind.i64.wrap ((k : Int) - 1) = ((j : Nat) : Int) := by simp only [IntKind.wrap_i64]; omega
        clear hj
        by_cases he : ((sg s j).toNat : Int) = ((sg s k).toNat : Int)
        · obtain ⟨l, x, hlx⟩ : ∃ l x, rns s k = l ++ [x] := by
            have := rns_pos s k (by omega)
            exact ⟨(rns s k).dropLast, (rns s k).getLast (by intro e; rw [e] at this; exact absurd this (by simp)), (List.dropLast_concat_getLast _).symm⟩
          have HN := Lib.hid (show rns s (k + 1) = l ++ [x + 1] by rw [rns_no (s := s) (k := k) (fun h => h.elim h0 (fun h => h (by rw [← HJ.out]; exact sg_eq.2 he))), hlx, inc1_snoc])
          have hxb := rns_le s k x (by rw [hlx]; simp)
          have hx0 := hxb.1
          have hxk := hxb.2
          clear hxb
          have hr2 := HR.out
          rw [hlx] at hr2 hrl
          obtain ⟨g5, c5, rfl, hB5, hc5, hf5, hs5⟩ := hr2.last
          have S5 := Lib.hid (fun w' (hx' : Ext wr w') => hs5 w' hx' (x + 1))
          have hll : l.length ≤ 20 := by simp at hrl; omega
          clear hs5 hr2 HR
          go_wp2
          go_quiet (fail)
          go_wp2
          go_roundw
          case rel => exact ⟨k + 1, by omega, by go_num, by rw [HN.out]; exact S5.out _ (ext_drewN (Ext.refl _) _), (ext_drewN hx _).setCell hB5 _⟩
          case measure => simp [intOf]; omega
        · have HN := Lib.hid (rns_yes (s := s) (k := k) (.inr (fun h => he (sg_eq.1 (by rw [HJ.out]; exact h)))))
          have hb : (((sg s j).toNat : Int) != ((sg s k).toNat : Int)) = true := bne_iff_ne.2 he
          go_wp2
          go_quiet (fail)
          go_wp2_with (at_builtin; refine app_int rfl _ _ rfl w w.heap.size _ _ _ 0 rfl (HR.out.ext (ext_drewN (Ext.refl _) _)) (ext_drewN hx _) (Nat.le_refl _) (ext_drewN hx _).size (by omega) rfl ?_; intro v5 w5 r5 x5; obtain ⟨g5, c5, rfl, hB5, hc5, hf5, hs5⟩ := r5.last; have S5 := Lib.hid (hs5 _ (Ext.refl _) 1); clear hs5 r5)
          go_roundw
          case rel => exact ⟨k + 1, by omega, by go_num, by rw [HN.out]; exact S5.out, x5.setCell hB5 _⟩
          case measure => simp [intOf]; omega
    · obtain rfl : k = s.size := by omega
      go_wp2
      go_ret2
      exact ⟨_, rfl, by rw [HV.out]; exact HR.out, hx⟩
end Go.Proofs.Ytnoidabmbckfkaa
