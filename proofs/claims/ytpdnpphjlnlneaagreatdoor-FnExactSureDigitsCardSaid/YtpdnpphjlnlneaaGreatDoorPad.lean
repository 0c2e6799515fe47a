/- The pad's table and what its functions answer at a letter. No conditions but the table's content. -/
import Derived.Test.YtpdnpphjlnlneaaGreatDoorWord
import Derived.WalkKit
import Derived.WalkSpells
import Derived.WalkLawsBesides
import Derived.Lib.Hide
import Derived.Lib.Bytealg
import Derived.Laws.Externs
import Derived.Laws.Rows
import Derived.Handy
namespace Go.Proofs.YtpdnpphjlnlneaaGreatDoor
open Go.RowKit

/-- Nothing that was there has changed. -/
def Ext (w w' : World) : Prop := Below w.heap.size w w'
theorem Ext.refl (w : World) : Ext w w := Below.refl _ _
theorem Ext.trans {a b c : World} (h : Ext a b) (k : Ext b c) : Ext a c := Below.trans h (Below.mono k h.size)
theorem Ext.drew {a b : World} (h : Ext a b) : Ext a b.drew := Below.drew h
theorem Ext.alloc {a b : World} (h : Ext a b) (o : Obj) : Ext a (b.alloc o) := Below.alloc h h.size o
theorem Ext.setCell {a b : World} (h : Ext a b) {p : Addr} (hp : a.heap.size ≤ p.block) (v : Value) : Ext a (b.setCell p v) := Below.setCell h hp v
theorem Ext.of_below {a b : World} {B : Nat} (h : Below B a b) (hB : a.heap.size ≤ B) : Ext a b := Below.mono h hB

theorem idx_any (s : ByteArray) (c : Int) (w : World) : Calls Tryz.prog 95 #[.string s, .int .u8 c] w fun e w' => e = .returned (.int .i64 (Lib.indexByte s.data.toList c.toNat.toUInt8)) ∧ w = w' := by
  have h : ∀ w, (callFunc 137 #[.string s, .int .u8 c]).run Tryz.prog w = .ok (.value (.int .i64 (Lib.indexByte s.data.toList c.toNat.toUInt8))) w := fun w => by
    rw [run_callFunc_extern Tryz.func137 (by kernel_rfl) (by kernel_rfl) (by kernel_rfl) (e := Extern.BytealgIndexByte.indexByte) (by kernel_rfl), Lib.run_indexByteString]
    rfl
  go_enter Tryz.func95, Tryz.ntmps95
  go_wp2
  go_ret
  exact ⟨rfl, rfl⟩

theorem bcell1 {W wr : World} {o : Obj} (hb : Below (W.heap.size + 1) (W.alloc o) wr) : (∀ off, wr.cell? ⟨W.heap.size, off, none⟩ = (W.alloc o).cell? ⟨W.heap.size, off, none⟩) ∧ (∀ off, wr.frozen? ⟨W.heap.size, off, none⟩ = (W.alloc o).frozen? ⟨W.heap.size, off, none⟩) :=
  ⟨fun off => hb.cell (p := ⟨W.heap.size, off, none⟩) (Nat.lt_succ_self _), fun off => hb.frozen (p := ⟨W.heap.size, off, none⟩) (Nat.lt_succ_self _)⟩

/-- The key's digit, its letters and the letter's place on it. -/
def grp (c : Int) : Nat := if c < 100 then 0 else if c < 103 then 1 else if c < 106 then 2 else if c < 109 then 3 else if c < 112 then 4 else if c < 116 then 5 else if c < 119 then 6 else 7
def lo (k : Nat) : Int := [97, 100, 103, 106, 109, 112, 116, 119, 123].getD k 0
def dg (c : Int) : Int := 50 + grp c
def lt (k : Nat) : ByteArray := [⟨#[97, 98, 99]⟩, ⟨#[100, 101, 102]⟩, ⟨#[103, 104, 105]⟩, ⟨#[106, 107, 108]⟩, ⟨#[109, 110, 111]⟩, ⟨#[112, 113, 114, 115]⟩, ⟨#[116, 117, 118]⟩, ⟨#[119, 120, 121, 122]⟩].getD k ByteArray.empty
def pl (c : Int) : Int := c - lo (grp c)
def padV (c : Int) : Value := .agg #[.int .u8 (dg c), .string (lt (grp c)), .int .i64 (pl c)]

theorem byteOf (c : Int) (n : Nat) (h : c = n) : c.toNat.toUInt8 = n.toUInt8 := by rw [h]; rfl

theorem no_idx (c : Int) (h2 : c < 256) : ∀ (l : List UInt8), (∀ x ∈ l, (x.toNat : Int) ≠ c) → 0 ≤ c → Lib.indexByte l c.toNat.toUInt8 = -1
  | [], _, _ => rfl
  | b :: l, h, h1 => by
    have hx : (b == c.toNat.toUInt8) = false := by
      have := h b (by simp)
      rw [beq_eq_false_iff_ne]
      rintro rfl
      apply this
      simp
      omega
    have ih := no_idx c h2 l (fun x hx => h x (by simp [hx])) h1
    simp only [Lib.indexByte, hx, ih]
    rfl

end Go.Proofs.YtpdnpphjlnlneaaGreatDoor
