/- The place behind a step, and what signs of moves do one after another. No conditions. -/
import Derived.Test.YtnnbpcookemilaaGrow
namespace Go.Proofs.Ytnnbpcookemilaa
open Go.RowKit

/-- The place to which a step goes. -/
def mvTo (p : Nat) (b : UInt8) : Option Nat :=
  if b = 108 then (if p % 3 = 0 then none else some (p - 1))
  else if b = 114 then (if p % 3 = 2 then none else some (p + 1))
  else if b = 117 then (if p / 3 = 0 then none else some (p - 3))
  else if b = 100 then (if p / 3 = 3 then none else some (p + 3))
  else none
theorem mvTo_l {p : Nat} {b : UInt8} (h : b = 108) : mvTo p b = if p % 3 = 0 then none else some (p - 1) := by subst h; rfl
theorem mvTo_r {p : Nat} {b : UInt8} (h : b = 114) : mvTo p b = if p % 3 = 2 then none else some (p + 1) := by subst h; rfl
theorem mvTo_u {p : Nat} {b : UInt8} (h : b = 117) : mvTo p b = if p / 3 = 0 then none else some (p - 3) := by subst h; rfl
theorem mvTo_d {p : Nat} {b : UInt8} (h : b = 100) : mvTo p b = if p / 3 = 3 then none else some (p + 3) := by subst h; rfl
theorem mvTo_none {p : Nat} {b : UInt8} (h1 : b ≠ 108) (h2 : b ≠ 114) (h3 : b ≠ 117) (h4 : b ≠ 100) : mvTo p b = none := by
  unfold mvTo; rw [if_neg h1, if_neg h2, if_neg h3, if_neg h4]
theorem mvTo_lt {p q : Nat} {b : UInt8} (hp : p < 12) (h : mvTo p b = some q) : q < 12 := by
  unfold mvTo at h
  split at h
  · split at h
    · cases h
    · injection h with h; omega
  · split at h
    · split at h
      · cases h
      · injection h with h; omega
    · split at h
      · split at h
        · cases h
        · injection h with h; omega
      · split at h
        · split at h
          · cases h
          · injection h with h; omega
        · cases h
theorem bYes {b : UInt8} {k : UInt8} (h : b = k) : ((b.toNat : Int) == (k.toNat : Int)) = true := by rw [h]; exact beq_self_eq_true _
theorem bNo {b : UInt8} {k : UInt8} (h : b ≠ k) : ((b.toNat : Int) == (k.toNat : Int)) = false := by
  rw [beq_eq_false_iff_ne]
  intro e
  exact h (UInt8.toNat_inj.1 (by omega))

/-- What placeBehind answers. -/
def BeP (o : Option Nat) (w : World) (e : Ending) (w' : World) : Prop := e = .returned (.tuple #[.int .i64 (o.getD 0 : Nat), .bool o.isSome]) ∧ w = w'
theorem BeP.some {q : Nat} {x : Int} {o : Option Nat} {w : World} (h : o = some q) (hx : x = (q : Int)) : BeP o w (.returned (.tuple #[.int .i64 x, .bool true])) w := by
  subst h; subst hx; exact ⟨rfl, rfl⟩
theorem BeP.none {o : Option Nat} {w : World} (h : o = none) : BeP o w (.returned (.tuple #[.int .i64 0, .bool false])) w := by
  subst h; exact ⟨rfl, rfl⟩

set_option maxHeartbeats 4000000 in
theorem behind_any (p : Nat) (b : UInt8) (w : World) (hp : p < 12) : Calls Try.prog 72 #[.int .i64 p, .int .u8 b.toNat] w (BeP (mvTo p b) w) := by
  by_cases h0 : b = 108
  · have t0 : ((b.toNat : Int) == 108) = true := bYes h0
    have HM := Lib.hid (mvTo_l (p := p) h0)
    clear h0
    by_cases hx : p % 3 = 0
    · have HN := Lib.hid (show mvTo p b = none by rw [HM.out, if_pos hx])
      have hx2 : (p : Int) % 3 = 0 := by omega
      clear HM
      go_enter Try.func72, Try.ntmps72
      go_wp2_with (first | (go_at_call 68; refine (padCol_any _ _ (by assumption)).mono ?_; rintro e w' ⟨rfl, rfl⟩) | (go_at_call 69; refine (padRow_any _ _ (by assumption)).mono ?_; rintro e w' ⟨rfl, rfl⟩))
      all_goals go_ret2
      all_goals exact BeP.none HN.out
    · have HN := Lib.hid (show mvTo p b = some (p - 1) by rw [HM.out, if_neg hx])
      have hx2 : ¬ (p : Int) % 3 = 0 := by omega
      clear HM
      go_enter Try.func72, Try.ntmps72
      go_wp2_with (first | (go_at_call 68; refine (padCol_any _ _ (by assumption)).mono ?_; rintro e w' ⟨rfl, rfl⟩) | (go_at_call 69; refine (padRow_any _ _ (by assumption)).mono ?_; rintro e w' ⟨rfl, rfl⟩))
      all_goals go_ret2
      all_goals exact BeP.some HN.out (by omega)
  have t0 : ((b.toNat : Int) == 108) = false := bNo h0
  by_cases h1 : b = 114
  · have t1 : ((b.toNat : Int) == 114) = true := bYes h1
    have HM := Lib.hid (mvTo_r (p := p) h1)
    clear h1 h0
    by_cases hx : p % 3 = 2
    · have HN := Lib.hid (show mvTo p b = none by rw [HM.out, if_pos hx])
      have hx2 : (p : Int) % 3 = 2 := by omega
      clear HM
      go_enter Try.func72, Try.ntmps72
      go_wp2_with (first | (go_at_call 68; refine (padCol_any _ _ (by assumption)).mono ?_; rintro e w' ⟨rfl, rfl⟩) | (go_at_call 69; refine (padRow_any _ _ (by assumption)).mono ?_; rintro e w' ⟨rfl, rfl⟩))
      all_goals go_ret2
      all_goals exact BeP.none HN.out
    · have HN := Lib.hid (show mvTo p b = some (p + 1) by rw [HM.out, if_neg hx])
      have hx2 : ¬ (p : Int) % 3 = 2 := by omega
      clear HM
      go_enter Try.func72, Try.ntmps72
      go_wp2_with (first | (go_at_call 68; refine (padCol_any _ _ (by assumption)).mono ?_; rintro e w' ⟨rfl, rfl⟩) | (go_at_call 69; refine (padRow_any _ _ (by assumption)).mono ?_; rintro e w' ⟨rfl, rfl⟩))
      all_goals go_ret2
      all_goals exact BeP.some HN.out (by omega)
  have t1 : ((b.toNat : Int) == 114) = false := bNo h1
  by_cases h2 : b = 117
  · have t2 : ((b.toNat : Int) == 117) = true := bYes h2
    have HM := Lib.hid (mvTo_u (p := p) h2)
    clear h2 h0 h1
    by_cases hx : p / 3 = 0
    · have HN := Lib.hid (show mvTo p b = none by rw [HM.out, if_pos hx])
      have hx2 : (p : Int) / 3 = 0 := by omega
      clear HM
      go_enter Try.func72, Try.ntmps72
      go_wp2_with (first | (go_at_call 68; refine (padCol_any _ _ (by assumption)).mono ?_; rintro e w' ⟨rfl, rfl⟩) | (go_at_call 69; refine (padRow_any _ _ (by assumption)).mono ?_; rintro e w' ⟨rfl, rfl⟩))
      all_goals go_ret2
      all_goals exact BeP.none HN.out
    · have HN := Lib.hid (show mvTo p b = some (p - 3) by rw [HM.out, if_neg hx])
      have hx2 : ¬ (p : Int) / 3 = 0 := by omega
      clear HM
      go_enter Try.func72, Try.ntmps72
      go_wp2_with (first | (go_at_call 68; refine (padCol_any _ _ (by assumption)).mono ?_; rintro e w' ⟨rfl, rfl⟩) | (go_at_call 69; refine (padRow_any _ _ (by assumption)).mono ?_; rintro e w' ⟨rfl, rfl⟩))
      all_goals go_ret2
      all_goals exact BeP.some HN.out (by omega)
  have t2 : ((b.toNat : Int) == 117) = false := bNo h2
  by_cases h3 : b = 100
  · have t3 : ((b.toNat : Int) == 100) = true := bYes h3
    have HM := Lib.hid (mvTo_d (p := p) h3)
    clear h3 h0 h1 h2
    by_cases hx : p / 3 = 3
    · have HN := Lib.hid (show mvTo p b = none by rw [HM.out, if_pos hx])
      have hx2 : (p : Int) / 3 = 3 := by omega
      clear HM
      go_enter Try.func72, Try.ntmps72
      go_wp2_with (first | (go_at_call 68; refine (padCol_any _ _ (by assumption)).mono ?_; rintro e w' ⟨rfl, rfl⟩) | (go_at_call 69; refine (padRow_any _ _ (by assumption)).mono ?_; rintro e w' ⟨rfl, rfl⟩))
      all_goals go_ret2
      all_goals exact BeP.none HN.out
    · have HN := Lib.hid (show mvTo p b = some (p + 3) by rw [HM.out, if_neg hx])
      have hx2 : ¬ (p : Int) / 3 = 3 := by omega
      clear HM
      go_enter Try.func72, Try.ntmps72
      go_wp2_with (first | (go_at_call 68; refine (padCol_any _ _ (by assumption)).mono ?_; rintro e w' ⟨rfl, rfl⟩) | (go_at_call 69; refine (padRow_any _ _ (by assumption)).mono ?_; rintro e w' ⟨rfl, rfl⟩))
      all_goals go_ret2
      all_goals exact BeP.some HN.out (by omega)
  have t3 : ((b.toNat : Int) == 100) = false := bNo h3
  have HN := Lib.hid (mvTo_none (p := p) h0 h1 h2 h3)
  clear h0 h1 h2 h3
  go_enter Try.func72, Try.ntmps72
  go_wp2_with (first | (go_at_call 68; refine (padCol_any _ _ (by assumption)).mono ?_; rintro e w' ⟨rfl, rfl⟩) | (go_at_call 69; refine (padRow_any _ _ (by assumption)).mono ?_; rintro e w' ⟨rfl, rfl⟩))
  all_goals go_ret2
  all_goals exact BeP.none HN.out

/-! ### The signs one after another -/
/-- One sign more. -/
def kmF (o : Option (Nat × List Nat)) (b : UInt8) : Option (Nat × List Nat) :=
  match o with
  | none => none
  | some (p, l) => if b = 46 then some (p, l ++ [p]) else (mvTo p b).map fun q => (q, l)
def kmS (p : Nat) (bs : List UInt8) : Option (Nat × List Nat) := bs.foldl kmF (some (p, []))
theorem kmF_dot {p : Nat} {l : List Nat} {b : UInt8} (h : b = 46) : kmF (some (p, l)) b = some (p, l ++ [p]) := by
  show (if b = 46 then _ else _) = _
  rw [if_pos h]
theorem kmF_go {p q : Nat} {l : List Nat} {b : UInt8} (h : b ≠ 46) (h2 : mvTo p b = some q) : kmF (some (p, l)) b = some (q, l) := by
  show (if b = 46 then _ else _) = _
  rw [if_neg h, h2]; rfl
theorem kmF_no {p : Nat} {l : List Nat} {b : UInt8} (h : b ≠ 46) (h2 : mvTo p b = none) : kmF (some (p, l)) b = none := by
  show (if b = 46 then _ else _) = _
  rw [if_neg h, h2]; rfl
theorem kmF_none (bs : List UInt8) : bs.foldl kmF none = none := by
  induction bs with
  | nil => rfl
  | cons b bs ih => exact ih
theorem kmS_take (p : Nat) (m : ByteArray) (k : Nat) (h : k < m.size) : kmS p (m.data.toList.take (k + 1)) = kmF (kmS p (m.data.toList.take k)) m[k] := by
  have h2 : m.data.toList.take (k + 1) = m.data.toList.take k ++ [m[k]] := by
    rw [List.take_succ_eq_append_getElem (by simpa using h)]; rfl
  unfold kmS
  rw [h2, List.foldl_append]
  rfl
theorem kmS_dead (p : Nat) (m : ByteArray) (k : Nat) (h : kmS p (m.data.toList.take k) = none) : kmS p m.data.toList = none := by
  have h2 : m.data.toList = m.data.toList.take k ++ m.data.toList.drop k := (List.take_append_drop _ _).symm
  unfold kmS at h ⊢
  rw [h2, List.foldl_append, h]
  exact kmF_none _
end Go.Proofs.Ytnnbpcookemilaa
