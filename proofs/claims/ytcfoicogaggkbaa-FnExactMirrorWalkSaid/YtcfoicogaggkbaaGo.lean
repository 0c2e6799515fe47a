/- From which digit to which one a piece goes: the program's way and its model's. No conditions. -/
import Derived.Test.YtcfoicogaggkbaaWk
namespace Go.Proofs.Ytcfoicogaggkbaa
open Go.RowKit

/-- The place of a digit. -/
def dpl (d : Nat) : Nat := if d = 0 then 10 else d - 1
theorem dpl_lt {d : Nat} (h : d < 10) : dpl d < 12 := by unfold dpl; split <;> omega
/-- A piece goes from a digit to another one. -/
def goB (p i j : Nat) : Bool :=
  let s := far false (dpl i) (dpl j)
  let c := far true (dpl i) (dpl j)
  if p = 0 then decide (s = 3) && decide (c = 2) else if p = 1 then decide (c = 1) else if p = 2 then decide (s = c) && decide (0 < s) else decide (s = 2 * c) && decide (0 < s)
theorem goB_n (i j : Nat) : goB 0 i j = (decide (far false (dpl i) (dpl j) = 3) && decide (far true (dpl i) (dpl j) = 2)) := rfl
theorem goB_k (i j : Nat) : goB 1 i j = decide (far true (dpl i) (dpl j) = 1) := rfl
theorem goB_r (i j : Nat) : goB 2 i j = (decide (far false (dpl i) (dpl j) = far true (dpl i) (dpl j)) && decide (0 < far false (dpl i) (dpl j))) := rfl
theorem goB_b (i j : Nat) : goB 3 i j = (decide (far false (dpl i) (dpl j) = 2 * far true (dpl i) (dpl j)) && decide (0 < far false (dpl i) (dpl j))) := rfl
def dgB (d : Nat) : ByteArray := (⟨#[48, 49, 50, 51, 52, 53, 54, 55, 56, 57]⟩ : ByteArray).extract d (d + 1)
theorem dgB_eq (d : Nat) : (⟨#[48, 49, 50, 51, 52, 53, 54, 55, 56, 57]⟩ : ByteArray).extract d (d + 1) = dgB d := rfl
theorem dpl_all : ∀ d : Nat, d < 10 → isK ((digL.getD d 0).toNat) = true ∧ pn (digL.getD d 0) = dpl d := of_decide_eq_true (by kernel_rfl)
theorem dgB_one {d : Nat} (h : d < 10) : dgB d = ⟨#[digL.getD d 0]⟩ := by
  unfold dgB
  rw [ext1 ⟨#[48, 49, 50, 51, 52, 53, 54, 55, 56, 57]⟩ d (show d < 10 from h)]
  congr 2
  rw [List.getD_eq_getElem?_getD, List.getElem?_eq_getElem (show d < digL.length from h)]
  rfl
theorem placeG_any (d : Nat) (w : World) (h : d < 10) : Calls Try.prog 94 #[.string (dgB d)] w fun e w' => e = .returned (.int .i64 (dpl d : Nat)) ∧ w = w' := by
  rw [dgB_one h, ← (dpl_all d h).2]
  exact placeB_any _ w (dpl_all d h).1

/-! ### The model's -/
/-- One of a row's or column's way to another one. -/
def stp (x a : Nat) : Nat := if a < x then a + 1 else if x < a then a - 1 else a
def atN (a b : Nat) : Bool := decide (a = 1 ∧ b = 3) || decide (a ≤ 2 ∧ b ≤ 2)
def clr : Nat → Nat → Nat → Nat → Nat → Bool
  | 0, _, _, _, _ => true
  | n + 1, a, b, x, y => decide (a = x ∧ b = y) || (atN (stp x a) (stp y b) && clr n (stp x a) (stp y b) x y)
def canS (p x y : Nat) : Bool := if p = 0 then decide (x * y = 2) else if p = 1 then decide (max x y = 1) else if p = 2 then decide (x * y = 0) && decide (0 < x + y) else decide (x = y) && decide (0 < x)
theorem goB_all : ∀ p : Nat, p < 4 → ∀ i : Nat, i < 10 → ∀ j : Nat, j < 10 → (canS p (absd (dpl j % 3) (dpl i % 3)) (absd (dpl j / 3) (dpl i / 3)) && (decide (p = 0) || clr 3 (dpl i % 3) (dpl i / 3) (dpl j % 3) (dpl j / 3))) = goB p i j := of_decide_eq_true (by kernel_rfl)
theorem clr_end (n a b : Nat) : clr n a b a b = true := by
  cases n
  · rfl
  · unfold clr; rw [decide_eq_true ⟨rfl, rfl⟩]; rfl
theorem clr_step {n a b x y : Nat} (h : ¬ (a = x ∧ b = y)) : clr (n + 1) a b x y = (atN (stp x a) (stp y b) && clr n (stp x a) (stp y b) x y) := by
  rw [clr, decide_eq_false h]; rfl
theorem stp_int (x a : Nat) : (a : Int) + Int.sign ((x : Int) - a) = (stp x a : Nat) := by
  unfold stp
  split
  · rw [Int.sign_eq_one_of_pos (by omega)]; omega
  · split
    · rw [Int.sign_eq_neg_one_of_neg (by omega)]; omega
    · rw [show (x : Int) - a = 0 by omega]; simp
theorem stp_le {x a m : Nat} (h1 : x ≤ m) (h2 : a ≤ m) : stp x a ≤ m := by unfold stp; split <;> (try split) <;> omega
theorem stp_absd (x a : Nat) : absd (stp x a) x = absd a x - 1 := by unfold stp absd; split <;> (try split) <;> omega

theorem ret_tup2 {a a' b b' : Int} {k : IntKind} (h : a = a') (h2 : b = b') : Ending.returned (.tuple #[.int k a, .int k b]) = .returned (.tuple #[.int k a', .int k b']) := by rw [h, h2]
theorem wkPlace_any (d : Nat) (x : Int) (w : World) (h : d < 10) (hx : x = (d : Int) + 48) : Calls Try.prog 61 #[.int .u8 x] w fun e w' => e = .returned (.tuple #[.int .i64 (dpl d % 3 : Nat), .int .i64 (dpl d / 3 : Nat)]) ∧ w = w' := by
  by_cases h0 : d = 0
  · subst h0
    have hx0 : x = 48 := by omega
    subst hx0
    clear hx h
    go_enter Try.func61, Try.ntmps61
    go_wp2
    go_ret2
    exact ⟨rfl, rfl⟩
  · have H := Lib.hid (show dpl d = d - 1 by unfold dpl; rw [if_neg h0])
    have t1 : (x == 48) = false := by simp; omega
    obtain ⟨n, hn⟩ : ∃ n : Nat, d = n + 1 := ⟨d - 1, by omega⟩
    subst hn
    have HN := Lib.hid (show dpl (n + 1) = n from H.out)
    clear H h0
    have e1 : IntKind.u8.wrap (x - 49) = (n : Int) := by rw [IntWalk.u8_in _ (by omega)]; omega
    have hn9 : n < 9 := by omega
    clear hx h
    go_enter Try.func61, Try.ntmps61
    go_wp2
    go_ret2
    exact ⟨ret_tup2 (by rw [HN.out]; omega) (by rw [HN.out]; omega), rfl⟩
theorem wkPlaceX_any (x : Int) (w : World) (h : 48 ≤ x ∧ x ≤ 57) : Calls Try.prog 61 #[.int .u8 x] w fun e w' => e = .returned (.tuple #[.int .i64 (dpl (x - 48).toNat % 3 : Nat), .int .i64 (dpl (x - 48).toNat / 3 : Nat)]) ∧ w = w' := wkPlace_any (x - 48).toNat x w (by omega) (by omega)

def atV (a b : Nat) : Int := if a = 1 ∧ b = 3 then 48 else if a ≤ 2 ∧ b ≤ 2 then ((3 * b + a + 49 : Nat) : Int) else 32
theorem atV_ne {a b : Nat} (h : atN a b = true) : (atV a b == 32) = false := by
  unfold atN at h
  rw [Bool.or_eq_true, decide_eq_true_iff, decide_eq_true_iff] at h
  unfold atV
  by_cases h1 : a = 1 ∧ b = 3
  · rw [if_pos h1]; rfl
  · have h2 : a ≤ 2 ∧ b ≤ 2 := h.resolve_left h1
    rw [if_neg h1, if_pos h2]
    exact beq_eq_false_iff_ne.2 (by omega)
theorem atV_eq {a b : Nat} (h : atN a b = false) : (atV a b == 32) = true := by
  unfold atN at h
  rw [Bool.or_eq_false_iff, decide_eq_false_iff_not, decide_eq_false_iff_not] at h
  unfold atV
  rw [if_neg h.1, if_neg h.2]
  rfl
theorem dig19 : ∀ k : Nat, k < 9 → (((⟨#[49, 50, 51, 52, 53, 54, 55, 56, 57]⟩ : ByteArray).data.toList.getD k 0).toNat : Int) = ((k + 49 : Nat) : Int) := of_decide_eq_true (by kernel_rfl)
theorem ix19 (k : Nat) (hk : k < 9) (w : World) : (Instr.index 9 (.string ⟨#[49, 50, 51, 52, 53, 54, 55, 56, 57]⟩) (.int .i64 (k : Int))).run Try.prog w = .ok (.int .u8 ((k + 49 : Nat) : Int)) w := by
  have h1 := ixS ⟨#[49, 50, 51, 52, 53, 54, 55, 56, 57]⟩ k hk w
  have h2 := dig19 k hk
  rw [List.getD_eq_getElem?_getD, List.getElem?_eq_getElem (show k < (⟨#[49, 50, 51, 52, 53, 54, 55, 56, 57]⟩ : ByteArray).data.toList.length from hk)] at h2
  rw [h1, ← h2]
  rfl
set_option maxHeartbeats 1000000 in
theorem wkAt_any (a b : Nat) (w : World) (ha : a ≤ 3) (hb : b ≤ 3) : Calls Try.prog 62 #[.int .i64 a, .int .i64 b] w fun e w' => e = .returned (.int .u8 (atV a b)) ∧ w = w' := by
  by_cases h1 : a = 1 ∧ b = 3
  · obtain ⟨rfl, rfl⟩ := h1
    go_enter Try.func62, Try.ntmps62
    go_wp2_with (go_at_call 78; refine (inW_any _ _ _ _).mono ?_; rintro e w' ⟨rfl, rfl⟩)
    go_ret
    exact ⟨rfl, rfl⟩
  have H := Lib.hid (show atV a b = if a ≤ 2 ∧ b ≤ 2 then ((3 * b + a + 49 : Nat) : Int) else 32 by unfold atV; rw [if_neg h1])
  have t1 : (((a : Int) == 1) && ((b : Int) == 3)) = false := by
    by_cases e : a = 1
    · have : b ≠ 3 := fun e2 => h1 ⟨e, e2⟩
      simp; omega
    · simp; omega
  by_cases h2 : a ≤ 2
  · have i1 := inW_yes (n := a) (lo := 0) (hi := 2) (by omega) (by omega)
    by_cases h3 : b ≤ 2
    · have i2 := inW_yes (n := b) (lo := 0) (hi := 2) (by omega) (by omega)
      have HV := Lib.hid (show atV a b = ((3 * b + a + 49 : Nat) : Int) by rw [H.out, if_pos ⟨h2, h3⟩])
      obtain ⟨k, hk⟩ : ∃ k : Nat, k = 3 * b + a := ⟨_, rfl⟩
      have ek : 3 * (b : Int) + (a : Int) = (k : Int) := by omega
      have hk9 : k < 9 := by omega
      have hx := fun w => ix19 k hk9 w
      have HV2 := Lib.hid (show ((k + 49 : Nat) : Int) = atV a b by rw [HV.out]; omega)
      clear hk HV H t1
      by_cases ha1 : a = 1
      · have tb : ((b : Int) == 3) = false := by simp; omega
        have ta : ((a : Int) == 1) = true := by simp [ha1]
        clear ha1 h1
        go_enter Try.func62, Try.ntmps62
        go_wp2_with (go_at_call 78; refine (inW_any _ _ _ _).mono ?_; (first | rw [i1] | rw [i2]); rintro e w' ⟨rfl, rfl⟩)
        go_ret
        exact ⟨ret_iD HV2.out, rfl⟩
      · have ta : ((a : Int) == 1) = false := by simp; omega
        clear ha1 h1
        go_enter Try.func62, Try.ntmps62
        go_wp2_with (go_at_call 78; refine (inW_any _ _ _ _).mono ?_; (first | rw [i1] | rw [i2]); rintro e w' ⟨rfl, rfl⟩)
        go_ret
        exact ⟨ret_iD HV2.out, rfl⟩
    · have i2 := inW_hi (n := b) (lo := 0) (hi := 2) (by omega)
      have HV := Lib.hid (show atV a b = 32 by rw [H.out, if_neg (by omega)])
      have hb3 : b = 3 := by omega
      have ta : ((a : Int) == 1) = false := beq_eq_false_iff_ne.2 (fun e => h1 ⟨by omega, hb3⟩)
      clear h1 t1 hb3
      go_enter Try.func62, Try.ntmps62
      go_wp2_with (go_at_call 78; refine (inW_any _ _ _ _).mono ?_; (first | rw [i1] | rw [i2]); rintro e w' ⟨rfl, rfl⟩)
      go_ret
      exact ⟨ret_iD (by rw [HV.out]), rfl⟩
  · have i1 := inW_hi (n := a) (lo := 0) (hi := 2) (by omega)
    have HV := Lib.hid (show atV a b = 32 by rw [H.out, if_neg (by omega)])
    have ta : ((a : Int) == 1) = false := by simp; omega
    clear h1 t1
    go_enter Try.func62, Try.ntmps62
    go_wp2_with (go_at_call 78; refine (inW_any _ _ _ _).mono ?_; rw [i1]; rintro e w' ⟨rfl, rfl⟩)
    go_ret
    exact ⟨ret_iD (by rw [HV.out]), rfl⟩