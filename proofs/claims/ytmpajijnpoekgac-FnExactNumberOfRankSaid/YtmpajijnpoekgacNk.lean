/- The digits to which a piece goes from one: both sides. No conditions. -/
import Derived.Test.YtmpajijnpoekgacMv
import Derived.Test.YtmpajijnpoekgacDgTx
import Derived.Test.YtmpajijnpoekgacIsWk
namespace Go.Proofs.Ytmpajijnpoekgac
open Go.RowKit

theorem ixMvA (A : Array Value) (k : Nat) (hk : k < 10) (v : Value) (hv : A[k]? = some v) (w : World) : (Instr.index 49 (.agg A) (.int .i64 (k : Int))).run Try.prog w = .ok v w := by
  have h2 : (0 : Int) ≤ (k : Int) := by omega
  simp [go_sem, Instr.index, part, hv]
  intro h
  omega
theorem ixMv (vs : List Value) (d : Nat) (hd : d < 10) (hl : vs.length = 10) (w : World) : (Instr.index 49 (.agg vs.toArray) (.int .i64 (d : Int))).run Try.prog w = .ok (vs.getD d nil1) w :=
  ixMvA _ d hd _ (by rw [List.getElem?_toArray, List.getD_eq_getElem?_getD, List.getElem?_eq_getElem (by rw [hl]; exact hd)]; rfl) w

/-! ### NextKeys -/
def nkV (s t : ByteArray) : ByteArray := if isAsk s t then dT (nx (pcI s) (dg1 t)) else ⟨#[]⟩
theorem nkV_no {s t : ByteArray} (h : isAsk s t = false) : nkV s t = ⟨#[]⟩ := by unfold nkV; rw [h]; rfl
theorem nkV_yes {p : Nat} {t : ByteArray} (h : isAsk (pcT p) t = true) (hp : p < 4) : nkV (pcT p) t = dT (nx p (dg1 t)) := by unfold nkV; rw [h, pcI_T hp]; rfl
theorem ret_sBn {a a' : ByteArray} {b b' : Bool} (h : a = a') (h2 : b = b') : Ending.returned (.tuple #[.string a, .bool b]) = .returned (.tuple #[.string a', .bool b']) := by rw [h, h2]