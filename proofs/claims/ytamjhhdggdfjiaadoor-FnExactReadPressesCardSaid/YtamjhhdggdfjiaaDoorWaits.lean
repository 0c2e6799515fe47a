/- Where one has to wait, alike by the program and by its model. No conditions but the table's content. -/
import Derived.Test.YtamjhhdggdfjiaaDoorSigns
import Derived.Deep.RegionHeld3
import Derived.BigQuiet
import Derived.IntWalk
import Derived.Deep.QuietTactic
namespace Go.Proofs.YtamjhhdggdfjiaaDoor
open Go.RowKit

theorem Ext.drewN {a w : World} (h : Ext a w) (n : Nat) : Ext a (w.drewN n) := Below.trans h ⟨rfl, rfl, rfl, Nat.le_refl _, fun _ _ => rfl⟩

theorem ix_any (s : ByteArray) (k : Nat) (hk : k < s.size) (w : World) : (Instr.index 9 (.string s) (.int .i64 (k : Int))).run Tryd.prog w = .ok (.int .u8 s[k].toNat) w := by
  have h1 : (k : Int) < (s.size : Int) := by omega
  simp [go_sem, hk]

def keyV (c : Int) : Value := .agg #[.int .u8 (dg c), .string (lt (grp c))]
theorem field_key (c : Int) (w : World) : (Instr.field 57 (padV c) 0).run Tryd.prog w = .ok (keyV c) w := by
  unfold padV keyV
  kernel_rfl

theorem guard_key (c d : Int) (p q : Operand) (w : World) : (eqGuard .eql 55 p q (keyV c) (keyV d)).run Tryd.prog w = .ok () w := by
  unfold keyV
  simp [go_sem]
theorem eql_key (c d : Int) (w : World) : (binOp .eql 55 (keyV c) (keyV d)).run Tryd.prog w = .ok (.bool (dg c == dg d)) w := by
  have h : (binOp .eql 55 (keyV c) (keyV d)).run Tryd.prog w = .ok (.bool ((dg c == dg d) && ((lt (grp c)).toList == (lt (grp d)).toList))) w := by
    unfold keyV
    simp [go_sem]
    by_cases e1 : dg c = dg d <;> by_cases e2 : (lt (grp c)).toList = (lt (grp d)).toList <;> simp [e1, e2]
  rw [h]
  by_cases e : dg c = dg d
  · have e2 : grp c = grp d := by unfold dg at e; omega
    rw [e, e2]; simp
  · have : (dg c == dg d) = false := by simpa using e
    rw [this]; rfl

/-- One waits before a letter of the same key as the one ahead of it. -/
def waitB (s : ByteArray) (k : Nat) : Bool := if h : k + 1 < s.size then dg s[k].toNat == dg s[k+1].toNat else false
theorem waitB_at {s : ByteArray} {k : Nat} (h : k + 1 < s.size) : waitB s k = (dg s[k].toNat == dg s[k+1].toNat) := dif_pos h

set_option maxHeartbeats 400000 in
theorem mustWait_any (s : ByteArray) (k : Nat) (hk : k + 1 < s.size) (w : World) (h : isW s = true) (hp : PadIs w) : Calls Tryd.prog 56 #[.string s, .int .i64 ((k : Int) + 1)] w fun e w' => e = .returned (.bool (waitB s k)) ∧ Ext w w' := by
  obtain ⟨hz1, hz2⟩ := isW_size h
  have H0 := Lib.hid (isW_get h k (by omega))
  have H1 := Lib.hid (isW_get h (k + 1) hk)
  clear h
  have hg : (0 : Int) < (k : Int) + 1 := by omega
  have hd : decide ((0 : Int) < (k : Int) + 1) = true := decide_eq_true hg
  have b1 : (k : Int) < (s.size : Int) := by omega
  have b2 : (k : Int) + 1 < (s.size : Int) := by omega
  have b3 : k < s.size := by omega
  have b4 : (0 : Int) ≤ (k : Int) + 1 := by omega
  have q1 : ((k : Int) + 1).toNat = k + 1 := by omega
  have q2 : IntKind.i64.wrap ((k : Int) + 1 - 1) = (k : Int) := by rw [IntWalk.i64_in _ (by omega)]; omega
  have q3 : IntKind.i64.wrap (k : Int) = (k : Int) := IntWalk.i64_in _ (by omega)
  have hi1 : ∀ w, (Instr.index 9 (.string s) (.int .i64 (k : Int))).run Tryd.prog w = .ok (.int .u8 s[k].toNat) w := fun w => ix_any s k b3 w
  have hi2 : ∀ w, (Instr.index 9 (.string s) (.int .i64 ((k : Int) + 1))).run Tryd.prog w = .ok (.int .u8 s[k+1].toNat) w := fun w => by
    have := ix_any s (k + 1) hk w
    simpa using this
  have hf1 := field_key s[k].toNat
  have hf2 := field_key s[k+1].toNat
  have he1 := guard_key s[k].toNat s[k+1].toNat
  have he2 := eql_key s[k].toNat s[k+1].toNat
  have HW := Lib.hid (waitB_at hk)
  go_enter Tryd.func56, Tryd.ntmps56
  go_wp2
  go_region_held3 (fun w' => Ext w w') (first | exact (Ext.refl _).drew | assumption | exact Ext.trans (by assumption) (by assumption)) (first | (go_at_call 57; refine (padOf_any _ _ (hp.ext (by assumption)) (by first | exact H0.out | exact H1.out)).mono ?_; rintro e wx ⟨rfl, xx⟩))
  all_goals go_wp2
  all_goals go_ret
  all_goals exact ⟨ret_bool HW.out.symm, by assumption⟩
theorem mustWait_0 (s : ByteArray) (i : Int) (hd : decide ((0 : Int) < i) = false) (w : World) : Calls Tryd.prog 56 #[.string s, .int .i64 i] w fun e w' => e = .returned (.bool false) ∧ Ext w w' := by
  go_enter Tryd.func56, Tryd.ntmps56
  go_wp2
  go_quiet (fail)
  go_wp2
  go_ret
  exact ⟨rfl, (Ext.refl _).drewN _⟩

def wb (s : ByteArray) : Nat → Bool
  | 0 => false
  | k + 1 => waitB s k
theorem mustWait_all (s : ByteArray) (k : Nat) (i : Int) (hi : i = k) (hk : k < s.size) (w : World) (h : isW s = true) (hp : PadIs w) : Calls Tryd.prog 56 #[.string s, .int .i64 i] w fun e w' => e = .returned (.bool (wb s k)) ∧ Ext w w' := by
  subst hi
  match k, hk with
  | 0, _ => exact mustWait_0 s _ rfl w
  | k + 1, hk => exact mustWait_any s k hk w h hp

/-- How many waits there are ahead of the first k letters. -/
def wN (s : ByteArray) : Nat → Int
  | 0 => 0
  | k + 1 => wN s k + (if wb s k then 1 else 0)
theorem wN_bd (s : ByteArray) : ∀ k, 0 ≤ wN s k ∧ wN s k ≤ k
  | 0 => ⟨Int.le_refl _, Int.le_refl _⟩
  | k + 1 => by
    have := wN_bd s k
    simp only [wN]
    split <;> omega
theorem wN_yes {s : ByteArray} {k : Nat} (h : wb s k = true) : wN s (k + 1) = wN s k + 1 := by simp [wN, h]
theorem wN_no {s : ByteArray} {k : Nat} (h : wb s k = false) : wN s (k + 1) = wN s k := by simp [wN, h]

theorem keysB_get (s : ByteArray) (k : Nat) (hk : k < s.size) (hk' : k < (keysB s).size) : ((keysB s)[k].toNat : Int) = dg s[k].toNat := by
  have h' : k < (keysL s.data.toList).length := by simpa [keysL] using hk
  have := keysL_get s k hk h'
  rw [← this]
  congr 2

def wtV (s : ByteArray) : Int := if isW s then wN s s.size else 0
theorem wtV_no {s : ByteArray} (h : isW s = false) : wtV s = 0 := by unfold wtV; simp [h]
theorem wtV_yes {s : ByteArray} (h : isW s = true) : wtV s = wN s s.size := by unfold wtV; simp [h]

end Go.Proofs.YtamjhhdggdfjiaaDoor
