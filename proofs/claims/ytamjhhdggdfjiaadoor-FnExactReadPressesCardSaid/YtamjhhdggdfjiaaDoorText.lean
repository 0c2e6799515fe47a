/- Texts built sign by sign in memory of the call's own, and the presses of a word. No conditions but the table's content. -/
import Derived.Test.YtamjhhdggdfjiaaDoorWaits
namespace Go.Proofs.YtamjhhdggdfjiaaDoor
open Go.RowKit

/-- v is a text of the call's own with these signs. -/
def Txt (B : Nat) (w : World) (v : Value) (l : List UInt8) : Prop := w.ownsRow B 5 1 v l.length (l.map fun b => Value.int .u8 b.toNat)
theorem Txt.ext {B : Nat} {w w' : World} {v : Value} {l : List UInt8} (h : Txt B w v l) (hx : Ext w w') : Txt B w' v l := own_ext h hx
theorem Txt.nil (B : Nat) (w : World) : Txt B w (.slice none 0 0) [] := World.ownsRow_nil _ _ _ _
theorem Txt.base {B : Nat} {w : World} {v : Value} {l : List UInt8} (h : Txt B w v l) : ∀ k, v.ownBlock = some k → B ≤ k := by
  intro k hk
  rcases h.2 with ⟨rfl, _⟩ | ⟨g, cap, cur, rfl, hb, _⟩
  · simp [Value.ownBlock] at hk
  · simp [Value.ownBlock] at hk; omega
theorem Txt.own {B : Nat} {w : World} {v : Value} {l : List UInt8} (h : Txt B w v l) {k : Nat} {cs : Array Value} {t : TypeId} {fr : Nat × Nat} (hk : w.heap[k]? = some (.cells cs t fr)) (ht : t ≠ 5) : v.ownBlock ≠ some k := by
  intro e
  rcases h.2 with ⟨rfl, _⟩ | ⟨g, cap, cur, rfl, hb, hg, _⟩
  · simp [Value.ownBlock] at e
  · simp [Value.ownBlock] at e
    subst e
    rw [hk] at hg
    cases hg
    exact ht rfl
theorem Txt.snoc {B : Nat} {w : World} {v : Value} {l : List UInt8} {b : UInt8} (h : w.ownsRow B 5 1 v (l.length + 1) ((l.map fun b => Value.int .u8 b.toNat) ++ [.int .u8 b.toNat])) : Txt B w v (l ++ [b]) := by
  unfold Txt
  rw [List.length_append, List.map_append]
  exact h
theorem kept_block {w w' : World} {row : Option Nat} (hg : w.grownBy w' row) {k : Nat} {o : Obj} (h : w.heap[k]? = some o) (hne : row ≠ some k) : w'.heap[k]? = some o := by
  have hlt : k < w.heap.size := by
    rcases Nat.lt_or_ge k w.heap.size with h2 | h2
    · exact h2
    · rw [Array.getElem?_eq_none h2] at h; cases h
  exact (hg.block k hlt (fun e => hne e.symm)).trans h

/-! ### The presses of a word -/
def preL (s : ByteArray) (k : Nat) : List UInt8 := if wb s k then [32] else []
theorem preL_yes {s : ByteArray} {k : Nat} (h : wb s k = true) : preL s k = [32] := by unfold preL; simp [h]
theorem preL_no {s : ByteArray} {k : Nat} (h : wb s k = false) : preL s k = [] := by unfold preL; simp [h]
def dgB8 (c : UInt8) : UInt8 := (dg c.toNat).toNat.toUInt8
def prL (c : UInt8) : List UInt8 := List.replicate (pl c.toNat + 1).toNat (dgB8 c)
def txTo (s : ByteArray) : Nat → List UInt8
  | 0 => []
  | k + 1 => txTo s k ++ preL s k ++ prL (s.data.toList.getD k 0)
theorem getD_at (s : ByteArray) (k : Nat) (h : k < s.size) : s.data.toList.getD k 0 = s[k] := by
  rw [List.getD_eq_getElem?_getD, List.getElem?_eq_getElem (by simpa using h)]
  rfl
theorem txTo_succ (s : ByteArray) (k : Nat) (h : k < s.size) : txTo s (k + 1) = txTo s k ++ preL s k ++ prL s[k] := by
  rw [txTo, getD_at s k h]
theorem preL_len (s : ByteArray) (k : Nat) : (preL s k).length ≤ 1 := by unfold preL; split <;> simp
theorem prL_len (c : UInt8) (h : isL c.toNat = true) : (prL c).length ≤ 4 := by
  have := pl_bd c.toNat h
  unfold prL
  rw [List.length_replicate]
  omega
theorem txTo_len (s : ByteArray) (hw : isW s = true) : ∀ k, k ≤ s.size → (txTo s k).length ≤ 5 * k
  | 0, _ => by simp [txTo]
  | k + 1, h => by
    have ih := txTo_len s hw k (by omega)
    have h1 := preL_len s k
    have h2 := prL_len s[k] (isW_get hw k h)
    rw [txTo_succ s k h]
    simp only [List.length_append]
    omega
def Bs (l : List UInt8) : ByteArray := ⟨l.toArray⟩
theorem Bs_snoc (l : List UInt8) (b : UInt8) : Bs l ++ ⟨#[b]⟩ = Bs (l ++ [b]) := by
  apply ByteArray.ext
  rw [ByteArray.data_append]
  simp [Bs]
theorem Bs_size (l : List UInt8) : (Bs l).size = l.length := by show l.toArray.size = _; simp
theorem rep_snoc (b : UInt8) (j : Nat) : List.replicate j b ++ [b] = List.replicate (j + 1) b := by rw [List.replicate_succ']

/-- The key of the letter ahead, none at first. -/
def lastD (s : ByteArray) : Nat → Int
  | 0 => 0
  | k + 1 => dg (s.data.toList.getD k 0).toNat
theorem lastD_wb (s : ByteArray) (k : Nat) (h : k < s.size) : (dg s[k].toNat == lastD s k) = wb s k := by
  match k, h with
  | 0, h =>
    have := dg_bd (s[0].toNat : Int)
    show (dg s[0].toNat == 0) = false
    rw [beq_eq_false_iff_ne]; omega
  | k + 1, h =>
    show (dg s[k+1].toNat == dg (s.data.toList.getD k 0).toNat) = waitB s k
    rw [waitB_at h, getD_at s k (by omega)]
    exact Bool.beq_comm ..

end Go.Proofs.YtamjhhdggdfjiaaDoor
