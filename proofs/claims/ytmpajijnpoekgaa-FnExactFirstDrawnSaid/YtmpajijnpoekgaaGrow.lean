/- Lists of places that grow, and the places near one. No conditions. -/
import Derived.Test.YtmpajijnpoekgaaKeysAt
namespace Go.Proofs.Ytmpajijnpoekgaa
open Go.RowKit

theorem oneIP (x : Int) : ∀ u ∈ [Value.int .i64 x], u.oneCell' = true := by intro u hu; simp at hu; subst hu; rfl
theorem RowP.grown {B : Nat} {w : World} {v : Value} {ps : List Nat} {p : Nat} (h : w.ownsRow B 3 1 v (ps.length + 1) (pcs ps ++ [.int .i64 (p : Int)])) : RowP B w v (ps ++ [p]) := by
  unfold RowP
  rw [List.length_append, pcs_snoc]
  exact h
theorem RowP.own_le {B : Nat} {w : World} {v : Value} {ps : List Nat} (h : RowP B w v ps) (j : Nat) (hj : v.ownBlock = some j) : B ≤ j := (World.ownsRow.lt h j hj).1

/-- The places near one, of the first so many. -/
def nr (c : Bool) (x : Nat) (f : Int) (k : Nat) : List Nat := (List.range k).filter fun p => decide ((far c x p : Int) ≤ f)
theorem nr_len (c : Bool) (x : Nat) (f : Int) (k : Nat) : (nr c x f k).length ≤ k := by
  unfold nr
  have := List.length_filter_le (fun p => decide ((far c x p : Int) ≤ f)) (List.range k)
  rw [List.length_range] at this
  exact this
theorem nr_lt (c : Bool) (x : Nat) (f : Int) (k : Nat) (hk : k ≤ 12) : ∀ q ∈ nr c x f k, q < 12 := by
  intro q hq
  unfold nr at hq
  have := List.mem_range.1 (List.mem_filter.1 hq).1
  omega
theorem nr_yes (c : Bool) (x : Nat) (f : Int) (k : Nat) (h : (far c x k : Int) ≤ f) : nr c x f (k + 1) = nr c x f k ++ [k] := by
  unfold nr
  rw [List.range_succ, List.filter_append]
  simp [h]
theorem nr_no (c : Bool) (x : Nat) (f : Int) (k : Nat) (h : ¬ (far c x k : Int) ≤ f) : nr c x f (k + 1) = nr c x f k := by
  unfold nr
  rw [List.range_succ, List.filter_append]
  simp [h]
end Go.Proofs.Ytmpajijnpoekgaa
