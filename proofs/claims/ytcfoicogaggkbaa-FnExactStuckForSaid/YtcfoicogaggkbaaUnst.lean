/- The text from what is shown with letters that stick: the program's way. No conditions. -/
import Derived.Test.YtcfoicogaggkbaaShownT
namespace Go.Proofs.Ytcfoicogaggkbaa
open Go.RowKit

def stB (s : ByteArray) : UInt8 → Bool := hasB s.data.toList
theorem by2_twice (s : ByteArray) : by2 (hasB (⟨#[]⟩ : ByteArray).data.toList) (hasB s.data.toList) = twice (stB s) := by
  funext c
  rfl
theorem disj_empty (s : ByteArray) : disj (⟨#[]⟩ : ByteArray).data.toList s.data.toList = true := by
  unfold disj
  rw [List.all_eq_true]
  intro c _
  rfl
theorem twice_le (st : UInt8 → Bool) (c : UInt8) : twice st c ≤ 2 := by unfold twice; split <;> omega
theorem twice_ge (st : UInt8 → Bool) (c : UInt8) : 1 ≤ twice st c := by unfold twice; split <;> omega
theorem un_step {st : UInt8 → Bool} {h : ByteArray} {p : Nat} (hp : p < h.size) : un st (h.data.toList.drop p) = sg h p :: un st (h.data.toList.drop (p + twice st (sg h p))) := by
  rw [List.drop_eq_getElem_cons (by simpa using hp), un]
  have e : h.data.toList[p]'(by simpa using hp) = sg h p := by rw [← sg_at h p hp]; rfl
  rw [e, List.drop_drop]
  congr 2
  unfold twice
  congr 1
  split <;> omega
theorem un_end {st : UInt8 → Bool} {h : ByteArray} {p : Nat} (hp : h.size ≤ p) : un st (h.data.toList.drop p) = [] := by
  rw [List.drop_of_length_le (by simpa using hp), un]
def unT (h s : ByteArray) : ByteArray := tB (un (stB s) h.data.toList)
def unR (h s : ByteArray) : ByteArray := tB (shw (twice (stB s)) (un (stB s) h.data.toList))
def unOk (h s : ByteArray) : Bool := isT 40 h && (isLs s && (isT 20 (unT h s) && decide (unR h s = h)))
def unV (h s : ByteArray) : ByteArray := if unOk h s then unT h s else ⟨#[]⟩
theorem unV_no {h s : ByteArray} (k : unOk h s = false) : unV h s = ⟨#[]⟩ := by unfold unV; rw [k]; rfl
theorem unV_yes {h s : ByteArray} (k : unOk h s = true) : unV h s = unT h s := by unfold unV; rw [k]; rfl
theorem unOk_h {h s : ByteArray} (k : isT 40 h = false) : unOk h s = false := by unfold unOk; rw [k]; rfl
theorem unOk_s {h s : ByteArray} (k : isLs s = false) : unOk h s = false := by unfold unOk; rw [k]; simp
theorem unOk_t {h s : ByteArray} (k : isT 20 (unT h s) = false) : unOk h s = false := by unfold unOk; rw [k]; simp
theorem unOk_r {h s : ByteArray} (k : ¬ unR h s = h) : unOk h s = false := by unfold unOk; rw [decide_eq_false k]; simp
theorem unOk_y {h s : ByteArray} (k : isT 40 h = true) (k2 : isLs s = true) (k3 : isT 20 (unT h s) = true) (k4 : unR h s = h) : unOk h s = true := by unfold unOk; rw [k, k2, k3, decide_eq_true k4]; rfl
theorem beqU (a b : ByteArray) : (a.toList == b.toList) = decide (a = b) := by
  rw [Lib.toList_data, Lib.toList_data]
  by_cases e : a = b
  · rw [e, decide_eq_true rfl]; exact beq_self_eq_true _
  · rw [decide_eq_false e]
    refine beq_eq_false_iff_ne.2 fun h => e ?_
    apply ByteArray.ext
    exact Array.toList_inj.1 h

theorem wpList_load_rowG {P : Program} {ops : Array Oper} {rest : List Oper} {o : Oper} {a : Act} {w : World} {Q : Exit → Act → World → Prop} (hwn : Region.wanted o (yielded ops a.tmps) = true) (ty : TypeId) (x : Operand) (ho : o.op = .load ty x)
    (g : Nat) (hx : a.eval x = .pointer (some ⟨g, 0, none⟩)) (t : TypeId) (cs : Array Value) (fr : Nat × Nat) (d : TypeDesc) (hg : w.heap[g]? = some (.cells cs t fr))
    (hu : P.underlying ty = some d) (hd : (match d with | .struct _ | .array _ _ => true | _ => false) = true) (hi : (P.info? ty).map (·.size) = some cs.size)
    (h : wpList P ops Q rest (a.put o.dst (.agg cs)) w) : wpList P ops Q (o :: rest) a w :=
  wpList_step fun K hK => by rw [if_pos hwn]; exact wp_load_row ty x ho g hx t cs fr d hg hu hd hi (hK _ _ h)