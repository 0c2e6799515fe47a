/- From which digit to which one a piece goes: the program's way and its model's. No conditions. -/
import Derived.Test.YtpdnpphjlnlneaaGreatDoorWk
namespace Go.Proofs.YtpdnpphjlnlneaaGreatDoor
open Go.RowKit

/-- The place of a digit. -/
def dpl (d : Nat) : Nat := if d = 0 then 10 else d - 1
theorem dpl_lt {d : Nat} (h : d < 10) : dpl d < 12 := by unfold dpl; split <;> omega
/-- A piece goes from a digit to another one. -/
def goB (p i j : Nat) : Bool :=
  let s := far false (dpl i) (dpl j)
  let c := far true (dpl i) (dpl j)
  if p = 0 then decide (s = 3) && decide (c = 2) else if p = 1 then decide (c = 1) else if p = 2 then decide (s = c) && decide (0 < s) else decide (s = 2 * c) && decide (0 < s)
theorem goB_n (i j : Nat) : goB 0 i j = (decide (far false (dpl i) (dpl j) = 3) && decide (far true (dpl i) (dpl j) = 2)) := rfl
theorem goB_k (i j : Nat) : goB 1 i j = decide (far true (dpl i) (dpl j) = 1) := rfl
theorem goB_r (i j : Nat) : goB 2 i j = (decide (far false (dpl i) (dpl j) = far true (dpl i) (dpl j)) && decide (0 < far false (dpl i) (dpl j))) := rfl
theorem goB_b (i j : Nat) : goB 3 i j = (decide (far false (dpl i) (dpl j) = 2 * far true (dpl i) (dpl j)) && decide (0 < far false (dpl i) (dpl j))) := rfl
def dgB (d : Nat) : ByteArray := (⟨#[48, 49, 50, 51, 52, 53, 54, 55, 56, 57]⟩ : ByteArray).extract d (d + 1)
theorem dgB_eq (d : Nat) : (⟨#[48, 49, 50, 51, 52, 53, 54, 55, 56, 57]⟩ : ByteArray).extract d (d + 1) = dgB d := rfl
theorem dpl_all : ∀ d : Nat, d < 10 → isK ((digL.getD d 0).toNat) = true ∧ pn (digL.getD d 0) = dpl d := of_decide_eq_true (by kernel_rfl)
theorem dgB_one {d : Nat} (h : d < 10) : dgB d = ⟨#[digL.getD d 0]⟩ := by
  unfold dgB
  rw [ext1 ⟨#[48, 49, 50, 51, 52, 53, 54, 55, 56, 57]⟩ d (show d < 10 from h)]
  congr 2
  rw [List.getD_eq_getElem?_getD, List.getElem?_eq_getElem (show d < digL.length from h)]
  rfl

theorem placeG_any (d : Nat) (w : World) (h : d < 10) : Calls Tryz.prog 102 #[.string (dgB d)] w fun e w' => e = .returned (.int .i64 (dpl d : Nat)) ∧ w = w' := by
  rw [dgB_one h, ← (dpl_all d h).2]
  exact placeB_any _ w (dpl_all d h).1

theorem placeD_any (d : Nat) (w : World) (h : d < 10) : Calls Tryz.prog 142 #[.int .i64 d] w fun e w' => e = .returned (.int .i64 (dpl d : Nat)) ∧ w = w' := by
  have h1 : d + 1 ≤ (⟨#[48, 49, 50, 51, 52, 53, 54, 55, 56, 57]⟩ : ByteArray).size := h
  have h2 : d ≤ 10 := by omega
  have e1 := dgB_eq d
  go_enter Tryz.func142, Tryz.ntmps142
  go_wp2_with (go_at_call 102; first | rw [e1] | skip; refine (placeG_any d _ h).mono ?_; rintro e w' ⟨rfl, rfl⟩)
  go_ret
  exact ⟨rfl, rfl⟩

set_option maxHeartbeats 1000000 in
theorem canGo_any (p i j : Nat) (w : World) (hp : p < 4) (hi : i < 10) (hj : j < 10) : Calls Tryz.prog 127 #[.string (pcT p), .int .i64 i, .int .i64 j] w fun e w' => e = .returned (.bool (goB p i j)) ∧ w = w' := by
  have ha := dpl_lt hi
  have hb := dpl_lt hj
  obtain ⟨S, hS⟩ : ∃ S, S = far false (dpl i) (dpl j) := ⟨_, rfl⟩
  obtain ⟨C, hC⟩ : ∃ C, C = far true (dpl i) (dpl j) := ⟨_, rfl⟩
  have hS5 : S ≤ 5 := by rw [hS]; exact far_le _ _ _ ha hb
  have hC5 : C ≤ 5 := by rw [hC]; exact far_le _ _ _ ha hb
  have HSE := Lib.hid hS.symm
  have HCE := Lib.hid hC.symm
  rcases (by omega : p = 0 ∨ p = 1 ∨ p = 2 ∨ p = 3) with rfl | rfl | rfl | rfl
  · rw [goB_n, ← hS, ← hC]
    clear hS hC hp
    have ep : pcT 0 = ⟨#[110]⟩ := rfl
    rw [ep]
    by_cases h1 : S = 3
    · have t1 : ((S : Int) == 3) = true := by simp [h1]
      have HV := Lib.hid (show (decide (S = 3) && decide (C = 2)) = decide (C = 2) by rw [decide_eq_true h1]; rfl)
      have HW := Lib.hid (show ((C : Int) == 2) = decide (C = 2) by by_cases h : C = 2 <;> simp [h]; omega)
      clear h1
      go_enter Tryz.func127, Tryz.ntmps127
      go_wp2_with (first | (go_at_call 142; refine (placeD_any _ _ (by assumption)).mono ?_; rintro e w' ⟨rfl, rfl⟩) | (go_at_call 124; refine (pdist_any _ _ _ _ (by assumption) (by assumption)).mono ?_; rintro e w' ⟨rfl, rfl⟩; (first | rw [HSE.out] | rw [HCE.out])))
      go_ret
      exact ⟨ret_bool (by rw [HV.out] <;> exact HW.out), rfl⟩
    · have t1 : ((S : Int) == 3) = false := by simp; omega
      have HV := Lib.hid (show (decide (S = 3) && decide (C = 2)) = false by rw [decide_eq_false h1]; rfl)
      clear h1
      go_enter Tryz.func127, Tryz.ntmps127
      go_wp2_with (first | (go_at_call 142; refine (placeD_any _ _ (by assumption)).mono ?_; rintro e w' ⟨rfl, rfl⟩) | (go_at_call 124; refine (pdist_any _ _ _ _ (by assumption) (by assumption)).mono ?_; rintro e w' ⟨rfl, rfl⟩; (first | rw [HSE.out] | rw [HCE.out])))
      go_ret
      exact ⟨ret_bool HV.out.symm, rfl⟩
  · rw [goB_k, ← hC]
    clear hS hC hp
    have ep : pcT 1 = ⟨#[107]⟩ := rfl
    rw [ep]
    have HW := Lib.hid (show ((C : Int) == 1) = decide (C = 1) by by_cases h : C = 1 <;> simp [h]; omega)
    go_enter Tryz.func127, Tryz.ntmps127
    go_wp2_with (first | (go_at_call 142; refine (placeD_any _ _ (by assumption)).mono ?_; rintro e w' ⟨rfl, rfl⟩) | (go_at_call 124; refine (pdist_any _ _ _ _ (by assumption) (by assumption)).mono ?_; rintro e w' ⟨rfl, rfl⟩; (first | rw [HSE.out] | rw [HCE.out])))
    go_ret
    exact ⟨ret_bool HW.out, rfl⟩
  · rw [goB_r, ← hS, ← hC]
    clear hS hC hp
    have ep : pcT 2 = ⟨#[114]⟩ := rfl
    rw [ep]
    by_cases h1 : S = C
    · have t1 : ((S : Int) == (C : Int)) = true := by simp [h1]
      have HV := Lib.hid (show (decide (S = C) && decide (0 < S)) = decide (0 < S) by rw [decide_eq_true h1]; rfl)
      have HW := Lib.hid (show decide ((0 : Int) < (S : Int)) = decide (0 < S) from decide_eq_decide.2 (by omega))
      clear h1
      go_enter Tryz.func127, Tryz.ntmps127
      go_wp2_with (first | (go_at_call 142; refine (placeD_any _ _ (by assumption)).mono ?_; rintro e w' ⟨rfl, rfl⟩) | (go_at_call 124; refine (pdist_any _ _ _ _ (by assumption) (by assumption)).mono ?_; rintro e w' ⟨rfl, rfl⟩; (first | rw [HSE.out] | rw [HCE.out])))
      go_ret
      exact ⟨ret_bool (by rw [HV.out] <;> exact HW.out), rfl⟩
    · have t1 : ((S : Int) == (C : Int)) = false := by simp; omega
      have HV := Lib.hid (show (decide (S = C) && decide (0 < S)) = false by rw [decide_eq_false h1]; rfl)
      clear h1
      go_enter Tryz.func127, Tryz.ntmps127
      go_wp2_with (first | (go_at_call 142; refine (placeD_any _ _ (by assumption)).mono ?_; rintro e w' ⟨rfl, rfl⟩) | (go_at_call 124; refine (pdist_any _ _ _ _ (by assumption) (by assumption)).mono ?_; rintro e w' ⟨rfl, rfl⟩; (first | rw [HSE.out] | rw [HCE.out])))
      go_ret
      exact ⟨ret_bool HV.out.symm, rfl⟩
  · rw [goB_b, ← hS, ← hC]
    clear hS hC hp
    have ep : pcT 3 = ⟨#[98]⟩ := rfl
    rw [ep]
    by_cases h1 : S = 2 * C
    · have t1 : ((S : Int) == 2 * (C : Int)) = true := by simp; omega
      have HV := Lib.hid (show (decide (S = 2 * C) && decide (0 < S)) = decide (0 < S) by rw [decide_eq_true h1]; rfl)
      have HW := Lib.hid (show decide ((0 : Int) < (S : Int)) = decide (0 < S) from decide_eq_decide.2 (by omega))
      clear h1
      go_enter Tryz.func127, Tryz.ntmps127
      go_wp2_with (first | (go_at_call 142; refine (placeD_any _ _ (by assumption)).mono ?_; rintro e w' ⟨rfl, rfl⟩) | (go_at_call 124; refine (pdist_any _ _ _ _ (by assumption) (by assumption)).mono ?_; rintro e w' ⟨rfl, rfl⟩; (first | rw [HSE.out] | rw [HCE.out])))
      go_ret
      exact ⟨ret_bool (by rw [HV.out] <;> exact HW.out), rfl⟩
    · have t1 : ((S : Int) == 2 * (C : Int)) = false := by simp; omega
      have HV := Lib.hid (show (decide (S = 2 * C) && decide (0 < S)) = false by rw [decide_eq_false h1]; rfl)
      clear h1
      go_enter Tryz.func127, Tryz.ntmps127
      go_wp2_with (first | (go_at_call 142; refine (placeD_any _ _ (by assumption)).mono ?_; rintro e w' ⟨rfl, rfl⟩) | (go_at_call 124; refine (pdist_any _ _ _ _ (by assumption) (by assumption)).mono ?_; rintro e w' ⟨rfl, rfl⟩; (first | rw [HSE.out] | rw [HCE.out])))
      go_ret
      exact ⟨ret_bool HV.out.symm, rfl⟩

/-! ### The model's -/
/-- One of a row's or column's way to another one. -/
def stp (x a : Nat) : Nat := if a < x then a + 1 else if x < a then a - 1 else a
def atN (a b : Nat) : Bool := decide (a = 1 ∧ b = 3) || decide (a ≤ 2 ∧ b ≤ 2)
def clr : Nat → Nat → Nat → Nat → Nat → Bool
  | 0, _, _, _, _ => true
  | n + 1, a, b, x, y => decide (a = x ∧ b = y) || (atN (stp x a) (stp y b) && clr n (stp x a) (stp y b) x y)
def canS (p x y : Nat) : Bool := if p = 0 then decide (x * y = 2) else if p = 1 then decide (max x y = 1) else if p = 2 then decide (x * y = 0) && decide (0 < x + y) else decide (x = y) && decide (0 < x)
theorem goB_all : ∀ p : Nat, p < 4 → ∀ i : Nat, i < 10 → ∀ j : Nat, j < 10 → (canS p (absd (dpl j % 3) (dpl i % 3)) (absd (dpl j / 3) (dpl i / 3)) && (decide (p = 0) || clr 3 (dpl i % 3) (dpl i / 3) (dpl j % 3) (dpl j / 3))) = goB p i j := of_decide_eq_true (by kernel_rfl)
theorem clr_end (n a b : Nat) : clr n a b a b = true := by
  cases n
  · rfl
  · unfold clr; rw [decide_eq_true ⟨rfl, rfl⟩]; rfl
theorem clr_step {n a b x y : Nat} (h : ¬ (a = x ∧ b = y)) : clr (n + 1) a b x y = (atN (stp x a) (stp y b) && clr n (stp x a) (stp y b) x y) := by
  rw [clr, decide_eq_false h]; rfl
theorem stp_int (x a : Nat) : (a : Int) + Int.sign ((x : Int) - a) = (stp x a : Nat) := by
  unfold stp
  split
  · rw [Int.sign_eq_one_of_pos (by omega)]; omega
  · split
    · rw [Int.sign_eq_neg_one_of_neg (by omega)]; omega
    · rw [show (x : Int) - a = 0 by omega]; simp
theorem stp_le {x a m : Nat} (h1 : x ≤ m) (h2 : a ≤ m) : stp x a ≤ m := by unfold stp; split <;> (try split) <;> omega
theorem stp_absd (x a : Nat) : absd (stp x a) x = absd a x - 1 := by unfold stp absd; split <;> (try split) <;> omega

theorem wkSign_any (n : Int) (w : World) : Calls Tryz.prog 161 #[.int .i64 n] w fun e w' => e = .returned (.int .i64 (Int.sign n)) ∧ w = w' := by
  by_cases h1 : 0 < n
  · have H := Lib.hid (Int.sign_eq_one_of_pos h1)
    go_enter Tryz.func161, Tryz.ntmps161
    go_wp2
    go_ret
    exact ⟨ret_iD H.out.symm, rfl⟩
  by_cases h2 : n < 0
  · have H := Lib.hid (Int.sign_eq_neg_one_of_neg h2)
    go_enter Tryz.func161, Tryz.ntmps161
    go_wp2
    go_ret
    exact ⟨ret_iD H.out.symm, rfl⟩
  have H := Lib.hid (show Int.sign n = 0 by rw [show n = 0 by omega]; rfl)
  go_enter Tryz.func161, Tryz.ntmps161
  go_wp2
  go_ret
  exact ⟨ret_iD H.out.symm, rfl⟩

theorem ret_tup2 {a a' b b' : Int} {k : IntKind} (h : a = a') (h2 : b = b') : Ending.returned (.tuple #[.int k a, .int k b]) = .returned (.tuple #[.int k a', .int k b']) := by rw [h, h2]
theorem wkPlace_any (d : Nat) (x : Int) (w : World) (h : d < 10) (hx : x = (d : Int) + 48) : Calls Tryz.prog 159 #[.int .u8 x] w fun e w' => e = .returned (.tuple #[.int .i64 (dpl d % 3 : Nat), .int .i64 (dpl d / 3 : Nat)]) ∧ w = w' := by
  by_cases h0 : d = 0
  · subst h0
    have hx0 : x = 48 := by omega
    subst hx0
    clear hx h
    go_enter Tryz.func159, Tryz.ntmps159
    go_wp2
    go_ret2
    exact ⟨rfl, rfl⟩
  · have H := Lib.hid (show dpl d = d - 1 by unfold dpl; rw [if_neg h0])
    have t1 : (x == 48) = false := by simp; omega
    obtain ⟨n, hn⟩ : ∃ n : Nat, d = n + 1 := ⟨d - 1, by omega⟩
    subst hn
    have HN := Lib.hid (show dpl (n + 1) = n from H.out)
    clear H h0
    have e1 : IntKind.u8.wrap (x - 49) = (n : Int) := by rw [IntWalk.u8_in _ (by omega)]; omega
    have hn9 : n < 9 := by omega
    clear hx h
    go_enter Tryz.func159, Tryz.ntmps159
    go_wp2
    go_ret2
    exact ⟨ret_tup2 (by rw [HN.out]; omega) (by rw [HN.out]; omega), rfl⟩
theorem wkPlaceX_any (x : Int) (w : World) (h : 48 ≤ x ∧ x ≤ 57) : Calls Tryz.prog 159 #[.int .u8 x] w fun e w' => e = .returned (.tuple #[.int .i64 (dpl (x - 48).toNat % 3 : Nat), .int .i64 (dpl (x - 48).toNat / 3 : Nat)]) ∧ w = w' := wkPlace_any (x - 48).toNat x w (by omega) (by omega)

def atV (a b : Nat) : Int := if a = 1 ∧ b = 3 then 48 else if a ≤ 2 ∧ b ≤ 2 then ((3 * b + a + 49 : Nat) : Int) else 32
theorem atV_ne {a b : Nat} (h : atN a b = true) : (atV a b == 32) = false := by
  unfold atN at h
  rw [Bool.or_eq_true, decide_eq_true_iff, decide_eq_true_iff] at h
  unfold atV
  by_cases h1 : a = 1 ∧ b = 3
  · rw [if_pos h1]; rfl
  · have h2 : a ≤ 2 ∧ b ≤ 2 := h.resolve_left h1
    rw [if_neg h1, if_pos h2]
    exact beq_eq_false_iff_ne.2 (by omega)
theorem atV_eq {a b : Nat} (h : atN a b = false) : (atV a b == 32) = true := by
  unfold atN at h
  rw [Bool.or_eq_false_iff, decide_eq_false_iff_not, decide_eq_false_iff_not] at h
  unfold atV
  rw [if_neg h.1, if_neg h.2]
  rfl
theorem dig19 : ∀ k : Nat, k < 9 → (((⟨#[49, 50, 51, 52, 53, 54, 55, 56, 57]⟩ : ByteArray).data.toList.getD k 0).toNat : Int) = ((k + 49 : Nat) : Int) := of_decide_eq_true (by kernel_rfl)
theorem ix19 (k : Nat) (hk : k < 9) (w : World) : (Instr.index 9 (.string ⟨#[49, 50, 51, 52, 53, 54, 55, 56, 57]⟩) (.int .i64 (k : Int))).run Tryz.prog w = .ok (.int .u8 ((k + 49 : Nat) : Int)) w := by
  have h1 := ixS ⟨#[49, 50, 51, 52, 53, 54, 55, 56, 57]⟩ k hk w
  have h2 := dig19 k hk
  rw [List.getD_eq_getElem?_getD, List.getElem?_eq_getElem (show k < (⟨#[49, 50, 51, 52, 53, 54, 55, 56, 57]⟩ : ByteArray).data.toList.length from hk)] at h2
  rw [h1, ← h2]
  rfl
set_option maxHeartbeats 1000000 in
theorem wkAt_any (a b : Nat) (w : World) (ha : a ≤ 3) (hb : b ≤ 3) : Calls Tryz.prog 162 #[.int .i64 a, .int .i64 b] w fun e w' => e = .returned (.int .u8 (atV a b)) ∧ w = w' := by
  by_cases h1 : a = 1 ∧ b = 3
  · obtain ⟨rfl, rfl⟩ := h1
    go_enter Tryz.func162, Tryz.ntmps162
    go_wp2_with (go_at_call 73; refine (inW_any _ _ _ _).mono ?_; rintro e w' ⟨rfl, rfl⟩)
    go_ret
    exact ⟨rfl, rfl⟩
  have H := Lib.hid (show atV a b = if a ≤ 2 ∧ b ≤ 2 then ((3 * b + a + 49 : Nat) : Int) else 32 by unfold atV; rw [if_neg h1])
  have t1 : (((a : Int) == 1) && ((b : Int) == 3)) = false := by
    by_cases e : a = 1
    · have : b ≠ 3 := fun e2 => h1 ⟨e, e2⟩
      simp; omega
    · simp; omega
  by_cases h2 : a ≤ 2
  · have i1 := inW_yes (n := a) (lo := 0) (hi := 2) (by omega) (by omega)
    by_cases h3 : b ≤ 2
    · have i2 := inW_yes (n := b) (lo := 0) (hi := 2) (by omega) (by omega)
      have HV := Lib.hid (show atV a b = ((3 * b + a + 49 : Nat) : Int) by rw [H.out, if_pos ⟨h2, h3⟩])
      obtain ⟨k, hk⟩ : ∃ k : Nat, k = 3 * b + a := ⟨_, rfl⟩
      have ek : 3 * (b : Int) + (a : Int) = (k : Int) := by omega
      have hk9 : k < 9 := by omega
      have hx := fun w => ix19 k hk9 w
      have HV2 := Lib.hid (show ((k + 49 : Nat) : Int) = atV a b by rw [HV.out]; omega)
      clear hk HV H t1
      by_cases ha1 : a = 1
      · have tb : ((b : Int) == 3) = false := by simp; omega
        have ta : ((a : Int) == 1) = true := by simp [ha1]
        clear ha1 h1
        go_enter Tryz.func162, Tryz.ntmps162
        go_wp2_with (go_at_call 73; refine (inW_any _ _ _ _).mono ?_; (first | rw [i1] | rw [i2]); rintro e w' ⟨rfl, rfl⟩)
        go_ret
        exact ⟨ret_iD HV2.out, rfl⟩
      · have ta : ((a : Int) == 1) = false := by simp; omega
        clear ha1 h1
        go_enter Tryz.func162, Tryz.ntmps162
        go_wp2_with (go_at_call 73; refine (inW_any _ _ _ _).mono ?_; (first | rw [i1] | rw [i2]); rintro e w' ⟨rfl, rfl⟩)
        go_ret
        exact ⟨ret_iD HV2.out, rfl⟩
    · have i2 := inW_hi (n := b) (lo := 0) (hi := 2) (by omega)
      have HV := Lib.hid (show atV a b = 32 by rw [H.out, if_neg (by omega)])
      have hb3 : b = 3 := by omega
      have ta : ((a : Int) == 1) = false := beq_eq_false_iff_ne.2 (fun e => h1 ⟨by omega, hb3⟩)
      clear h1 t1 hb3
      go_enter Tryz.func162, Tryz.ntmps162
      go_wp2_with (go_at_call 73; refine (inW_any _ _ _ _).mono ?_; (first | rw [i1] | rw [i2]); rintro e w' ⟨rfl, rfl⟩)
      go_ret
      exact ⟨ret_iD (by rw [HV.out]), rfl⟩
  · have i1 := inW_hi (n := a) (lo := 0) (hi := 2) (by omega)
    have HV := Lib.hid (show atV a b = 32 by rw [H.out, if_neg (by omega)])
    have ta : ((a : Int) == 1) = false := by simp; omega
    clear h1 t1
    go_enter Tryz.func162, Tryz.ntmps162
    go_wp2_with (go_at_call 73; refine (inW_any _ _ _ _).mono ?_; rw [i1]; rintro e w' ⟨rfl, rfl⟩)
    go_ret
    exact ⟨ret_iD (by rw [HV.out]), rfl⟩

set_option maxHeartbeats 1000000 in
theorem wkCan_any (p : Nat) (x y : Int) (w : World) (hp : p < 4) (hx : -2 ≤ x ∧ x ≤ 2) (hy : -3 ≤ y ∧ y ≤ 3) : Calls Tryz.prog 160 #[.string (pcT p), .int .i64 x, .int .i64 y] w fun e w' => e = .returned (.bool (canS p x.natAbs y.natAbs)) ∧ w = w' := by
  obtain ⟨X, hX⟩ : ∃ X, X = x.natAbs := ⟨_, rfl⟩
  obtain ⟨Y, hY⟩ : ∃ Y, Y = y.natAbs := ⟨_, rfl⟩
  have HX := Lib.hid hX.symm
  have HY := Lib.hid hY.symm
  obtain ⟨x1, x2⟩ := hx
  obtain ⟨y1, y2⟩ := hy
  rw [← hX, ← hY]
  have hX2 : X ≤ 2 := by omega
  have hY3 : Y ≤ 3 := by omega
  obtain ⟨M, hM⟩ : ∃ M, M = X * Y := ⟨_, rfl⟩
  have hM6 : M ≤ 6 := by rw [hM]; exact Nat.mul_le_mul hX2 hY3
  have hMi : (X : Int) * (Y : Int) = (M : Int) := by rw [hM]; push_cast; rfl
  rcases (by omega : p = 0 ∨ p = 1 ∨ p = 2 ∨ p = 3) with rfl | rfl | rfl | rfl
  · have HV := Lib.hid (show canS 0 X Y = ((M : Int) == 2) from by
      rw [show canS 0 X Y = decide (X * Y = 2) from rfl, ← hM]
      by_cases h : M = 2
      · rw [decide_eq_true h]; exact (beq_iff_eq.2 (by omega)).symm
      · rw [decide_eq_false h]; exact (beq_eq_false_iff_ne.2 (by omega)).symm)
    have ep : pcT 0 = ⟨#[110]⟩ := rfl
    rw [ep]
    clear hX hY hM hp
    go_enter Tryz.func160, Tryz.ntmps160
    go_wp2_with (go_at_call 157; refine (absA_any _ _ (by omega) (by omega)).mono ?_; rintro e w' ⟨rfl, rfl⟩; (first | rw [HX.out] | rw [HY.out]))
    go_ret
    exact ⟨ret_bool (by rw [HV.out] <;> first | rfl | exact decide_eq_decide.2 (by omega)), rfl⟩
  · have HV := Lib.hid (show canS 1 X Y = ((max (X : Int) (Y : Int)) == 1) from by
      rw [show canS 1 X Y = decide (max X Y = 1) from rfl]
      by_cases h : max X Y = 1
      · rw [decide_eq_true h]; exact (beq_iff_eq.2 (by omega)).symm
      · rw [decide_eq_false h]; exact (beq_eq_false_iff_ne.2 (by omega)).symm)
    have ep : pcT 1 = ⟨#[107]⟩ := rfl
    rw [ep]
    clear hX hY hM hp
    go_enter Tryz.func160, Tryz.ntmps160
    go_wp2_with (first | (go_at_call 157; refine (absA_any _ _ (by omega) (by omega)).mono ?_; rintro e w' ⟨rfl, rfl⟩; (first | rw [HX.out] | rw [HY.out])) | (go_at_call 158; refine (most_any _ _ _).mono ?_; rintro e w' ⟨rfl, rfl⟩))
    go_ret
    exact ⟨ret_bool (by rw [HV.out] <;> first | rfl | exact decide_eq_decide.2 (by omega)), rfl⟩
  · have ep : pcT 2 = ⟨#[114]⟩ := rfl
    rw [ep]
    by_cases h1 : M = 0
    · have t1 : ((M : Int) == 0) = true := by simp [h1]
      have HV := Lib.hid (show canS 2 X Y = decide ((0 : Int) < (X : Int) + (Y : Int)) by rw [show canS 2 X Y = (decide (X * Y = 0) && decide (0 < X + Y)) from rfl, ← hM, decide_eq_true h1, Bool.true_and]; exact decide_eq_decide.2 (by omega))
      clear hX hY hM hp h1
      go_enter Tryz.func160, Tryz.ntmps160
      go_wp2_with (go_at_call 157; refine (absA_any _ _ (by omega) (by omega)).mono ?_; rintro e w' ⟨rfl, rfl⟩; (first | rw [HX.out] | rw [HY.out]))
      go_ret
      exact ⟨ret_bool (by rw [HV.out] <;> first | rfl | exact decide_eq_decide.2 (by omega)), rfl⟩
    · have t1 : ((M : Int) == 0) = false := by simp; omega
      have HV := Lib.hid (show canS 2 X Y = false by rw [show canS 2 X Y = (decide (X * Y = 0) && decide (0 < X + Y)) from rfl, ← hM, decide_eq_false h1]; rfl)
      clear hX hY hM hp h1
      go_enter Tryz.func160, Tryz.ntmps160
      go_wp2_with (go_at_call 157; refine (absA_any _ _ (by omega) (by omega)).mono ?_; rintro e w' ⟨rfl, rfl⟩; (first | rw [HX.out] | rw [HY.out]))
      go_ret
      exact ⟨ret_bool (by rw [HV.out] <;> first | rfl | exact decide_eq_decide.2 (by omega)), rfl⟩
  · have ep : pcT 3 = ⟨#[98]⟩ := rfl
    rw [ep]
    clear hM hMi hM6
    by_cases h1 : X = Y
    · have t1 : ((X : Int) == (Y : Int)) = true := by simp [h1]
      have HV := Lib.hid (show canS 3 X Y = decide ((0 : Int) < (X : Int)) by rw [show canS 3 X Y = (decide (X = Y) && decide (0 < X)) from rfl, decide_eq_true h1, Bool.true_and]; exact decide_eq_decide.2 (by omega))
      clear hX hY hp h1
      go_enter Tryz.func160, Tryz.ntmps160
      go_wp2_with (go_at_call 157; refine (absA_any _ _ (by omega) (by omega)).mono ?_; rintro e w' ⟨rfl, rfl⟩; (first | rw [HX.out] | rw [HY.out]))
      go_ret
      exact ⟨ret_bool (by rw [HV.out] <;> first | rfl | exact decide_eq_decide.2 (by omega)), rfl⟩
    · have t1 : ((X : Int) == (Y : Int)) = false := by simp; omega
      have HV := Lib.hid (show canS 3 X Y = false by rw [show canS 3 X Y = (decide (X = Y) && decide (0 < X)) from rfl, decide_eq_false h1]; rfl)
      clear hX hY hp h1
      go_enter Tryz.func160, Tryz.ntmps160
      go_wp2_with (go_at_call 157; refine (absA_any _ _ (by omega) (by omega)).mono ?_; rintro e w' ⟨rfl, rfl⟩; (first | rw [HX.out] | rw [HY.out]))
      go_ret
      exact ⟨ret_bool (by rw [HV.out] <;> first | rfl | exact decide_eq_decide.2 (by omega)), rfl⟩

theorem absd_int (a b : Nat) : ((a : Int) - b).natAbs = absd a b := by unfold absd; omega
set_option maxHeartbeats 2000000 in
theorem wkGoes_any (p i j : Nat) (x y : Int) (w : World) (hp : p < 4) (hi : i < 10) (hj : j < 10) (hx : x = (i : Int) + 48) (hy : y = (j : Int) + 48) : Calls Tryz.prog 136 #[.string (pcT p), .int .u8 x, .int .u8 y] w fun e w' => e = .returned (.bool (goB p i j)) ∧ w = w' := by
  have HG := Lib.hid (goB_all p hp i hi j hj)
  have hx1 : 48 ≤ x ∧ x ≤ 57 := by omega
  have hy1 : 48 ≤ y ∧ y ≤ 57 := by omega
  have hxi : (x - 48).toNat = i := by omega
  have hyj : (y - 48).toNat = j := by omega
  have hda := dpl_lt hi
  have hdb := dpl_lt hj
  obtain ⟨A, hA⟩ : ∃ A, A = dpl i % 3 := ⟨_, rfl⟩
  obtain ⟨B, hB⟩ : ∃ B, B = dpl i / 3 := ⟨_, rfl⟩
  obtain ⟨X, hX⟩ : ∃ X, X = dpl j % 3 := ⟨_, rfl⟩
  obtain ⟨Y, hY⟩ : ∃ Y, Y = dpl j / 3 := ⟨_, rfl⟩
  have hA2 : A ≤ 2 := by omega
  have hB3 : B ≤ 3 := by omega
  have hX2 : X ≤ 2 := by omega
  have hY3 : Y ≤ 3 := by omega
  have HXA := Lib.hid (show dpl (x - 48).toNat % 3 = A by rw [hxi, hA])
  have HXB := Lib.hid (show dpl (x - 48).toNat / 3 = B by rw [hxi, hB])
  have HYA := Lib.hid (show dpl (y - 48).toNat % 3 = X by rw [hyj, hX])
  have HYB := Lib.hid (show dpl (y - 48).toNat / 3 = Y by rw [hyj, hY])
  rw [← hA, ← hB, ← hX, ← hY] at HG
  clear hA hB hX hY hda hdb hxi hyj hx hy
  have HC := Lib.hid (fun w => wkCan_any p ((X : Int) - A) ((Y : Int) - B) w hp (by omega) (by omega))
  rw [absd_int, absd_int] at HC
  obtain ⟨G, hG⟩ : ∃ G, G = goB p i j := ⟨_, rfl⟩
  rw [← hG] at HG ⊢
  clear hG
  cases hc : canS p (absd X A) (absd Y B)
  · have HV := Lib.hid (show G = false by rw [← HG.out, hc]; rfl)
    go_enter Tryz.func136, Tryz.ntmps136
    go_wp2_with (first | (go_at_call 159; refine (wkPlaceX_any _ _ (by assumption)).mono ?_; rintro e w' ⟨rfl, rfl⟩; (first | rw [HXA.out, HXB.out] | rw [HYA.out, HYB.out])) | (go_at_call 160; refine (HC.out _).mono ?_; rintro e w' ⟨rfl, rfl⟩; rw [hc]))
    go_ret
    exact ⟨ret_bool HV.out.symm, rfl⟩
  by_cases h0 : p = 0
  · have HV := Lib.hid (show G = true by rw [← HG.out, hc, decide_eq_true h0]; rfl)
    have hpn : ((pcT p).toList == [110]) = true := by rw [h0, Lib.toList_data]; rfl
    have hpn2 : (pcT p).toList = [110] := by rw [h0, Lib.toList_data]; rfl
    clear h0
    go_enter Tryz.func136, Tryz.ntmps136
    go_wp2_with (first | (go_at_call 159; refine (wkPlaceX_any _ _ (by assumption)).mono ?_; rintro e w' ⟨rfl, rfl⟩; (first | rw [HXA.out, HXB.out] | rw [HYA.out, HYB.out])) | (go_at_call 160; refine (HC.out _).mono ?_; rintro e w' ⟨rfl, rfl⟩; rw [hc]))
    go_ret
    exact ⟨ret_bool HV.out.symm, rfl⟩
  have HV := Lib.hid (show clr 3 A B X Y = G by rw [← HG.out, hc, decide_eq_false h0]; rfl)
  have hpn : ((pcT p).toList == [110]) = false := by
    rcases (by omega : p = 1 ∨ p = 2 ∨ p = 3) with rfl | rfl | rfl <;> rw [Lib.toList_data] <;> rfl
  have hpn2 : ¬ (pcT p).toList = [110] := beq_eq_false_iff_ne.1 hpn
  go_enter Tryz.func136, Tryz.ntmps136
  go_wp2_with (first | (go_at_call 159; refine (wkPlaceX_any _ _ (by assumption)).mono ?_; rintro e w' ⟨rfl, rfl⟩; (first | rw [HXA.out, HXB.out] | rw [HYA.out, HYB.out])) | (go_at_call 160; refine (HC.out _).mono ?_; rintro e w' ⟨rfl, rfl⟩; rw [hc]))
  clear hc h0 hpn hpn2
  go_loop [7, 8] (fun a b => ∃ n a' b' : Nat, a = .int .i64 a' ∧ b = .int .i64 b' ∧ a' ≤ 2 ∧ b' ≤ 3 ∧ absd a' X ≤ n ∧ absd b' Y ≤ n ∧ clr n a' b' X Y = G) (fun a b => absd (intOf a).toNat X + absd (intOf b).toNat Y)
  case atStart => exact ⟨3, A, B, rfl, rfl, hA2, hB3, by unfold absd; omega, by unfold absd; omega, HV.out⟩
  case round =>
    obtain ⟨n, a', b', rfl, rfl, ha, hb, hna, hnb, hcl⟩ := hrel
    have HL := Lib.hid hcl
    clear hcl
    by_cases he : a' = X ∧ b' = Y
    · obtain ⟨rfl, rfl⟩ := he
      have HR := Lib.hid (show G = true by rw [← HL.out]; exact clr_end _ _ _)
      go_wp2
      go_ret
      exact ⟨ret_bool HR.out.symm, rfl⟩
    · obtain ⟨m, rfl⟩ : ∃ m, n = m + 1 := ⟨n - 1, by unfold absd at hna hnb; omega⟩
      have HS := Lib.hid (show (atN (stp X a') (stp Y b') && clr m (stp X a') (stp Y b') X Y) = G by rw [← clr_step he]; exact HL.out)
      clear HL HG HC HXA HXB HYA HYB
      by_cases e1 : a' = X
      · subst e1
        have e2 : b' ≠ Y := fun e2 => he ⟨rfl, e2⟩
        have ea : stp a' a' = a' := by unfold stp; rw [if_neg (by omega), if_neg (by omega)]
        rw [ea] at HS
        obtain ⟨b2, eb⟩ : ∃ b2, b2 = stp Y b' := ⟨_, rfl⟩
        have sb : Int.sign ((Y : Int) - b') = (b2 : Int) - b' := by have := stp_int Y b'; rw [eb]; omega
        have lb : b2 ≤ 3 := by rw [eb]; exact stp_le hY3 hb
        have db := stp_absd Y b'
        rw [← eb] at HS db
        have HM := Lib.hid (show absd a' a' ≤ m ∧ absd b2 Y ≤ m ∧ absd a' a' + absd b2 Y < absd a' a' + absd b' Y by
          have : 0 < absd b' Y := by unfold absd; omega
          have : absd a' a' = 0 := by unfold absd; omega
          omega)
        have HSB := Lib.hid sb
        have HS0 := Lib.hid (show Int.sign 0 = 0 from rfl)
        have HAt := Lib.hid (fun w => wkAt_any a' b2 w (by omega) lb)
        have t2 : ((b' : Int) == (Y : Int)) = false := beq_eq_false_iff_ne.2 (by omega)
        have t4 : ¬ (b' : Int) = (Y : Int) := by omega
        have jb : (b' : Int) + ((b2 : Int) - b') = (b2 : Int) := by omega
        clear db hna hnb eb sb ea he e2
        cases hat : atN a' b2
        · have HR := Lib.hid (show G = false by rw [← HS.out, hat]; rfl)
          have t3 := atV_eq hat
          clear hat
          go_wp2_with (first | (go_at_call 161; refine (wkSign_any _ _).mono ?_; rintro e w' ⟨rfl, rfl⟩; (first | rw [HSB.out] | rw [HS0.out])) | (go_at_call 162; refine (HAt.out _).mono ?_; rintro e w' ⟨rfl, rfl⟩))
          go_ret
          exact ⟨ret_bool HR.out.symm, rfl⟩
        · have HN := Lib.hid (show clr m a' b2 a' Y = G by rw [← HS.out, hat]; rfl)
          have t3 := atV_ne hat
          clear hat
          go_wp2_with (first | (go_at_call 161; refine (wkSign_any _ _).mono ?_; rintro e w' ⟨rfl, rfl⟩; (first | rw [HSB.out] | rw [HS0.out])) | (go_at_call 162; refine (HAt.out _).mono ?_; rintro e w' ⟨rfl, rfl⟩))
          go_round
          case rel => exact ⟨m, a', b2, rfl, rfl, ha, lb, HM.out.1, HM.out.2.1, HN.out⟩
          case measure => simp [intOf]; have := HM.out.2.2; omega
      · obtain ⟨a2, ea⟩ : ∃ a2, a2 = stp X a' := ⟨_, rfl⟩
        obtain ⟨b2, eb⟩ : ∃ b2, b2 = stp Y b' := ⟨_, rfl⟩
        have sa : Int.sign ((X : Int) - a') = (a2 : Int) - a' := by have := stp_int X a'; rw [ea]; omega
        have sb : Int.sign ((Y : Int) - b') = (b2 : Int) - b' := by have := stp_int Y b'; rw [eb]; omega
        have la : a2 ≤ 2 := by rw [ea]; exact stp_le hX2 ha
        have lb : b2 ≤ 3 := by rw [eb]; exact stp_le hY3 hb
        have da := stp_absd X a'
        have db := stp_absd Y b'
        rw [← ea] at da
        rw [← eb] at db
        rw [← ea, ← eb] at HS
        have HM := Lib.hid (show absd a2 X ≤ m ∧ absd b2 Y ≤ m ∧ absd a2 X + absd b2 Y < absd a' X + absd b' Y by
          have : 0 < absd a' X := by unfold absd; omega
          omega)
        have HSA := Lib.hid sa
        have HSB := Lib.hid sb
        have HAt := Lib.hid (fun w => wkAt_any a2 b2 w (by omega) lb)
        have t1 : ((a' : Int) == (X : Int)) = false := beq_eq_false_iff_ne.2 (by omega)
        have t4 : ¬ (a' : Int) = (X : Int) := by omega
        have ja : (a' : Int) + ((a2 : Int) - a') = (a2 : Int) := by omega
        have jb : (b' : Int) + ((b2 : Int) - b') = (b2 : Int) := by omega
        clear da db hna hnb ea eb sa sb he e1
        cases hat : atN a2 b2
        · have HR := Lib.hid (show G = false by rw [← HS.out, hat]; rfl)
          have t3 := atV_eq hat
          clear hat
          go_wp2_with (first | (go_at_call 161; refine (wkSign_any _ _).mono ?_; rintro e w' ⟨rfl, rfl⟩; (first | rw [HSA.out] | rw [HSB.out])) | (go_at_call 162; refine (HAt.out _).mono ?_; rintro e w' ⟨rfl, rfl⟩))
          go_ret
          exact ⟨ret_bool HR.out.symm, rfl⟩
        · have HN := Lib.hid (show clr m a2 b2 X Y = G by rw [← HS.out, hat]; rfl)
          have t3 := atV_ne hat
          clear hat
          go_wp2_with (first | (go_at_call 161; refine (wkSign_any _ _).mono ?_; rintro e w' ⟨rfl, rfl⟩; (first | rw [HSA.out] | rw [HSB.out])) | (go_at_call 162; refine (HAt.out _).mono ?_; rintro e w' ⟨rfl, rfl⟩))
          go_round
          case rel => exact ⟨m, a2, b2, rfl, rfl, la, lb, HM.out.1, HM.out.2.1, HN.out⟩
          case measure => simp [intOf]; have := HM.out.2.2; omega
end Go.Proofs.YtpdnpphjlnlneaaGreatDoor
