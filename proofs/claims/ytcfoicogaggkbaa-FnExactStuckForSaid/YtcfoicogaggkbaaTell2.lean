/- The letters with a number, and rows held against each other: the program's way. No conditions. -/
import Derived.Test.YtcfoicogaggkbaaTell
namespace Go.Proofs.Ytcfoicogaggkbaa
open Go.RowKit

theorem ixR (RR : Array Value) (k : Nat) (hk : k < 26) (v : Value) (hv : RR[k]? = some v) (w : World) : (Instr.index 36 (.agg RR) (.int .i64 (k : Int))).run Try.prog w = .ok v w := by
  have h2 : (0 : Int) ≤ (k : Int) := by omega
  simp [go_sem, Instr.index, part, hv]
  intro h
  omega
theorem runPart (xs : Array Value) (j : Nat) (v : Value) (h : xs[j]? = some v) (w : World) : (part 3 xs (j * 1)).run Try.prog w = .ok v w := by
  simp [go_sem, part, h]
def outB : Bool → Option Bool × Unit
  | true => (none, ())
  | false => (some false, ())
theorem loopEq (d : Nat) (s t : Nat → Int) (xs ys : Array Value) (hx : ∀ j, j < 26 → xs[j]? = some (.int .i64 (s j))) (hy : ∀ j, j < 26 → ys[j]? = some (.int .i64 (t j))) (w : World) : (Op.equalIn (d + 1 + 1) 36 (.agg xs) (.agg ys)).run Try.prog w = .ok ((List.range 26).all fun j => decide (s j = t j)) w := by
  have aux : ∀ l : List Nat, (∀ j ∈ l, j < 26) → (forIn l ((none, ()) : Option Bool × Unit) (fun i (_ : Option Bool × Unit) => do
            let a ← part 3 xs (i * 1)
            let b ← part 3 ys (i * 1)
            let c ← Op.equalIn (d + 1) 3 a b
            if (!c) = true then pure (ForInStep.done (some false, ())) else pure (ForInStep.yield (none, ())))).run Try.prog w = .ok (outB (l.all fun j => decide (s j = t j))) w := by
    intro l
    induction l with
    | nil => intro _; rfl
    | cons j l ih =>
      intro hl
      have hj := hl j (by simp)
      simp only [List.forIn_cons, Sem.run_bind, runPart _ _ _ (hx j hj), runPart _ _ _ (hy j hj), Result.andThen_ok, run_equalIn_int w d 3 .i64 .i64 _ _ Try.underlying3, List.all_cons]
      by_cases e : s j = t j
      · have hb : (s j == t j) = true := beq_iff_eq.2 e
        rw [hb, decide_eq_true e]
        simp only [Bool.not_true, Bool.false_eq_true, if_false, Sem.run_pure, Result.andThen_ok, Bool.true_and]
        exact ih (fun q hq => hl q (by simp [hq]))
      · have hb : (s j == t j) = false := beq_eq_false_iff_ne.2 e
        rw [hb, decide_eq_false e]
        simp only [Bool.not_false, if_true, Sem.run_pure, Result.andThen_ok, Bool.false_and]
        rfl
  rw [Op.equalIn]
  simp only [Sem.run_bind, run_underlying Try.underlying36, Result.andThen_ok, Try.sizeOf3, Std.Legacy.Range.forIn_eq_forIn_range', Std.Legacy.Range.size]
  have h := aux (List.range' 0 ((26 - 0 + 1 - 1) / 1)) (by intro j hj; simp at hj; omega)
  rw [show (List.range' 0 ((26 - 0 + 1 - 1) / 1)) = List.range 26 from rfl] at h ⊢
  rw [h]
  simp only [Result.andThen_ok]
  cases hc : (List.range 26).all fun j => decide (s j = t j)
  · rfl
  · rfl
theorem row26_arr (t : Nat → Int) (j : Nat) (h : j < 26) : (row26 t).toArray[j]? = some (.int .i64 (t j)) := by rw [List.getElem?_toArray]; exact row26_at t j h
def sameR (s t : Nat → Int) : Bool := (List.range 26).all fun j => decide (s j = t j)
theorem neqR (s t : Nat → Int) (w : World) : (binOp .neq 36 (.agg (row26 s).toArray) (.agg (row26 t).toArray)).run Try.prog w = .ok (.bool (!sameR s t)) w := by
  rw [run_neq_struct]
  have h := loopEq 9998 s t _ _ (row26_arr s) (row26_arr t) w
  rw [show 9998 + 1 + 1 = 10000 from rfl] at h
  rw [h]
  rfl
theorem guardR : Try.prog.eqGuardType Try.prog.depth 36 = false := by kernel_rfl

set_option maxRecDepth 100000 in
set_option maxHeartbeats 4000000 in
theorem lettersAt_any (f : UInt8 → Nat) (n : Nat) (x : Int) (w : World) (hxn : x = (n : Int)) : Calls Try.prog 42 #[.agg (row26 (rwF f)).toArray, .int .i64 x] w fun e w' => e = .returned (.string (tB (ltB (fun c => decide (f c = n)) 26))) ∧ Ext w w' := by
  subst hxn
  obtain ⟨RR, hRR⟩ : ∃ RR, RR = (row26 (rwF f)).toArray := ⟨_, rfl⟩
  have HRR := Lib.hid hRR
  have HN := Lib.hid (show (Try.prog.info? 36).map (·.size) = some RR.size by rw [hRR, List.size_toArray, row26_len]; kernel_rfl)
  have G0 := Lib.hid (heap_alloc_new w (.cells RR 36))
  have X0 : Ext w (w.alloc (.cells RR 36)) := (Ext.refl _).alloc _
  rw [← hRR]
  clear hRR
  go_enter Try.func42, Try.ntmps42
  go_wp2_with (first | (refine wpList_load_row rfl _ _ rfl (w.heap.size) rfl 36 RR (0, 0) _ G0.out Try.underlying36 rfl HN.out ?_))
  go_loopw [5, 9] (fun o i wr => ∃ k : Nat, k ≤ 26 ∧ i = .int .i64 k ∧ RowB w.heap.size wr o (ltB (fun c => decide (f c = n)) k) ∧ Ext w wr) (fun _ i _ => 26 - (intOf i).toNat)
  case atStart => exact ⟨0, Nat.zero_le _, rfl, RowB.nil _ _, X0⟩
  case round =>
    obtain ⟨k, hk, rfl, hr, hx⟩ := hrel
    have HR := Lib.hid hr
    clear hr
    by_cases hlt : k < 26
    · have hki : (k : Int) < 26 := by omega
      have HY := Lib.hid (fun h => ltB_yes (g := fun c => decide (f c = n)) (k := k) h)
      have HN := Lib.hid (fun h => ltB_no (g := fun c => decide (f c = n)) (k := k) h)
      have hll := ltB_len (fun c => decide (f c = n)) k
      obtain ⟨c, hc⟩ : ∃ c, c = (97 + k).toUInt8 := ⟨_, rfl⟩
      have hcn := byte97 k hlt
      have hix0 := fun w => ixR RR k hlt (.int .i64 (f c : Int)) (by rw [HRR.out, row26_arr _ _ hlt]; unfold rwF; rw [hc]) w
      rw [← hc] at HY HN hcn
      have Wc : IntKind.u8.wrap (97 + (k : Int)) = (c.toNat : Int) := by rw [IntWalk.u8_in _ (by omega)]; omega
      obtain ⟨L, hL⟩ : ∃ L, L = ltB (fun c => decide (f c = n)) k := ⟨_, rfl⟩
      rw [← hL] at HY HN hll HR
      clear hc hL hcn
      by_cases he : f c = n
      · have HS := Lib.hid (HY.out (decide_eq_true he))
        have t1 : ((f c : Int) == (n : Int)) = true := beq_iff_eq.2 (by omega)
        clear he
        obtain ⟨m, hm⟩ : ∃ m, m = f c := ⟨_, rfl⟩
        rw [← hm] at hix0 t1
        clear hm HN
        go_wp2_with (at_builtin; refine app_byteK rfl _ _ rfl w w.heap.size _ _ _ c _ rfl (by exact HR.out) (by exact hx) (Nat.le_refl _) hx.size (by omega) rfl rfl ?_; intro v5 w5 r5 x5 k5; have R5 := Lib.hid r5; clear r5 k5)
        go_roundw
        case rel => exact ⟨k + 1, by omega, by go_num, by rw [HS.out]; exact R5.out, x5⟩
        case measure => simp [intOf] <;> omega
      · have HS := Lib.hid (HN.out (decide_eq_false he))
        have t1 : ((f c : Int) == (n : Int)) = false := beq_eq_false_iff_ne.2 (by omega)
        have t2 : ¬ (f c : Int) = (n : Int) := by omega
        clear he
        obtain ⟨m, hm⟩ : ∃ m, m = f c := ⟨_, rfl⟩
        rw [← hm] at hix0 t1 t2
        clear hm HY
        go_wp2
        go_roundw
        case rel => exact ⟨k + 1, by omega, by go_num, by rw [HS.out]; exact HR.out, hx⟩
        case measure => simp [intOf] <;> omega
    · obtain rfl : k = 26 := by omega
      have hcv := convB HR.out
      go_wp2
      go_ret
      exact ⟨rfl, hx⟩
end Go.Proofs.Ytcfoicogaggkbaa
