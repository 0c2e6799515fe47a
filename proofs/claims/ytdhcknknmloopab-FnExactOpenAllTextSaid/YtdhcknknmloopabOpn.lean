/- Behind how many digits a lock opens: both sides. No conditions. -/
import Derived.Test.YtdhcknknmloopabPin
import Derived.Test.YtdhcknknmloopabShelf
import Derived.Lib.IndexLaws
import Derived.Lib.IndexMore
namespace Go.Proofs.Ytdhcknknmloopab
open Go.RowKit

/-- The library's variable holds a number. -/
def MaxL (m : Int) (w : World) : Prop := w.cell? ⟨0, 0, none⟩ = some (.int .i64 m)
theorem MaxL.lt {m : Int} {w : World} (h : MaxL m w) : 0 < w.heap.size := by
  unfold MaxL World.cell? at h
  rcases Nat.lt_or_ge 0 w.heap.size with k | k
  · exact k
  · simp [Array.getElem?_eq_none k] at h
theorem MaxL.ext {m : Int} {w w' : World} (h : MaxL m w) (hx : Ext w w') : MaxL m w' := (hx.cell (p := ⟨0, 0, none⟩) h.lt).trans h

def idx (t p : ByteArray) : Int := Lib.index t.data.toList p.data.toList
def occ (t p : ByteArray) (j : Nat) : Bool := Lib.occAt t.data.toList p.data.toList j
def noc (t p : ByteArray) (j : Nat) : Prop := Lib.NoOcc t.data.toList p.data.toList j
theorem ext_take (t : ByteArray) (j n : Nat) (_h : j + n ≤ t.size) : (t.extract j (j + n)).data.toList = (t.data.toList.drop j).take n := by
  rw [ByteArray.data_extract]
  simp
theorem occ_ext {t p : ByteArray} {j : Nat} (h : j + p.size ≤ t.size) : occ t p j = decide (t.extract j (j + p.size) = p) := by
  unfold occ Lib.occAt
  have hl : p.data.toList.length = p.size := by simp
  cases e : p.data.toList.isPrefixOf (t.data.toList.drop j)
  · rw [eq_comm, decide_eq_false_iff_not]
    intro h2
    have h3 : p.data.toList <+: t.data.toList.drop j := by
      rw [List.prefix_iff_eq_take, hl, ← ext_take t j p.size h, h2]
    rw [← List.isPrefixOf_iff_prefix, e] at h3
    cases h3
  · rw [eq_comm, decide_eq_true_iff]
    rw [List.isPrefixOf_iff_prefix, List.prefix_iff_eq_take, hl, ← ext_take t j p.size h] at e
    apply ByteArray.ext
    exact Array.toList_inj.1 e.symm
theorem idx_hit {t p : ByteArray} {j : Nat} (hn : noc t p j) (hj : j ≤ t.size) (ho : occ t p j = true) : idx t p = j := Lib.index_hit hn (by simpa using hj) ho
theorem idx_past {t p : ByteArray} {j : Nat} (hp : 0 < p.size) (hn : noc t p j) (hj : t.size < j + p.size) : idx t p = -1 := by
  refine Lib.index_past (fun e => ?_) hn (by simpa using hj)
  have : p.data.toList.length = p.size := by simp
  rw [e] at this
  simp at this
  omega
theorem idx_room {t p : ByteArray} (h : 0 ≤ idx t p) : idx t p + (p.size : Int) ≤ (t.size : Int) := by
  have := Lib.index_room t.data.toList p.data.toList h
  unfold idx
  simpa using this
theorem idx_ge (t p : ByteArray) : -1 ≤ idx t p := Lib.index_ge _ _

def oaG (t p : ByteArray) : Bool := isDg 0 1300 t && (pinB p && decide (0 ≤ idx t p))
theorem oaG_t {t p : ByteArray} (h : isDg 0 1300 t = false) : oaG t p = false := by unfold oaG; rw [h]; rfl
theorem oaG_p {t p : ByteArray} (h : pinB p = false) : oaG t p = false := by unfold oaG; rw [h]; simp
theorem oaG_i {t p : ByteArray} (h : idx t p < 0) : oaG t p = false := by unfold oaG; rw [decide_eq_false (show ¬ 0 ≤ idx t p by omega)]; simp
theorem oaG_y {t p : ByteArray} (h : isDg 0 1300 t = true) (h2 : pinB p = true) (h3 : 0 ≤ idx t p) : oaG t p = true := by unfold oaG; rw [h, h2, decide_eq_true h3]; rfl
def oaV (t p : ByteArray) : Int := if oaG t p then idx t p + (p.size : Int) else 0
theorem oaV_no {t p : ByteArray} (h : oaG t p = false) : oaV t p = 0 := by unfold oaV; rw [h]; rfl
theorem oaV_yes {t p : ByteArray} (h : oaG t p = true) : oaV t p = idx t p + (p.size : Int) := by unfold oaV; rw [h]; rfl
theorem ret_iBo {a a' : Int} {b b' : Bool} (h : a = a') (h2 : b = b') : Ending.returned (.tuple #[.int .i64 a, .bool b]) = .returned (.tuple #[.int .i64 a', .bool b']) := by rw [h, h2]
/-- Where it opens, or -1. -/
def opV (t p : ByteArray) : Int := if 0 ≤ idx t p then idx t p + (p.size : Int) else -1
theorem opV_yes {t p : ByteArray} (h : 0 ≤ idx t p) : opV t p = idx t p + (p.size : Int) := if_pos h
theorem opV_no {t p : ByteArray} (h : idx t p < 0) : opV t p = -1 := if_neg (by omega)