/- Lists of bytes of the call's own: how they grow, and the text that they make. No conditions. -/
import Derived.Test.YtpdnpphjlnlneaaGreatDoorBrk
import Derived.Test.YtpdnpphjlnlneaaGreatDoorStrs
import Derived.Maps.AppendAt
import Derived.Laws.AppendOwn
import Derived.Laws.IdiomStrings
import Derived.Lib.BufferRead
import Derived.IntWalk
namespace Go.Proofs.YtpdnpphjlnlneaaGreatDoor
open Go.RowKit

def bcs (l : List UInt8) : List Value := l.map fun c => .int .u8 (c.toNat : Int)
theorem bcs_len (l : List UInt8) : (bcs l).length = l.length := by unfold bcs; rw [List.length_map]
theorem bcs_snoc (l : List UInt8) (c : UInt8) : bcs (l ++ [c]) = bcs l ++ [.int .u8 (c.toNat : Int)] := by unfold bcs; simp
/-- v is a list of the call's own with these bytes. -/
def RowB (B : Nat) (w : World) (v : Value) (l : List UInt8) : Prop := w.ownsRow B 5 1 v l.length (bcs l)
theorem RowB.ext {B : Nat} {w w' : World} {v : Value} {l : List UInt8} (h : RowB B w v l) (hx : Ext w w') : RowB B w' v l := row_ext h hx
theorem RowB.nil (B : Nat) (w : World) : RowB B w (.slice none 0 0) [] := World.ownsRow_nil _ _ _ _
theorem RowB.shape {B : Nat} {w : World} {v : Value} {l : List UInt8} (h : RowB B w v l) : ∃ a cap, v = .slice a l.length cap := by
  rcases h.2 with ⟨rfl, hn⟩ | ⟨g, cap, cur, rfl, _⟩
  · exact ⟨none, 0, by rw [hn]⟩
  · exact ⟨_, _, rfl⟩
theorem RowB.own_le {B : Nat} {w : World} {v : Value} {l : List UInt8} (h : RowB B w v l) (j : Nat) (hj : v.ownBlock = some j) : B ≤ j := (World.ownsRow.lt h j hj).1
theorem info_byB : (Tryz.prog.info? 5).map (fun i => (i.zero, i.size, i.bytes)) = some (some (.int .u8 0), 1, 1) := by kernel_rfl
theorem infoB {P : Program} {t : TypeId} {z : Value} {n b : Nat} (h : (P.info? t).map (fun i => (i.zero, i.size, i.bytes)) = some (some z, n, b)) : ∃ i, P.info? t = some i ∧ i.zero = some z ∧ i.size = n ∧ i.bytes = b := by
  cases hi : P.info? t with
  | none => rw [hi] at h; cases h
  | some i =>
    rw [hi] at h
    simp only [Option.map_some, Option.some.injEq, Prod.mk.injEq] at h
    exact ⟨i, rfl, h.1, h.2.1, h.2.2⟩
theorem oneBy (x : Int) : ∀ u ∈ [Value.int .u8 x], u.oneCell' = true := by intro u hu; simp at hu; subst hu; rfl

theorem row_not_iter {B : Nat} {w : World} {e : TypeId} {v : Value} {n : Nat} {xs : List Value} (h : w.ownsRow B e 1 v n xs) {k : Nat} {q : ByteArray} {p : Nat} (hk : w.heap[k]? = some (.stringIter q p)) : some k ≠ v.ownBlock := by
  intro e
  rcases h.2 with ⟨rfl, _⟩ | ⟨g, cap, cur, rfl, _, hg, _⟩
  · cases e
  · have e : k = g := by injection e
    subst e
    rw [hk] at hg
    cases hg
theorem RowB.iterAt {B : Nat} {w : World} {v : Value} {l : List UInt8} {k : Nat} {q : ByteArray} {p : Nat} (h : RowB B w v l) (hk : w.heap[k]? = some (.stringIter q p)) (p' : Nat) : RowB B (w.iterAt k q p') v l := by
  refine ⟨h.1, h.2.imp id fun ⟨a, c, cur, h1, h2, h3, h4⟩ => ⟨a, c, cur, h1, h2, ?_, h4⟩⟩
  have hne : a ≠ k := by
    intro e
    subst e
    rw [hk] at h3
    cases h3
  exact (Lib.iterAt_other w k a q p' hne).trans h3
/-- One byte more; a string's iterator stays as it is. -/
theorem app_byteI {ops : Array Oper} {rest : List Oper} {o : Oper} {a : Act} {Q : Exit → Act → World → Prop} (hgd : o.guard = none) (s x : Operand)
    (ho : o.op = .call { callee := .builtin .append, args := #[s, x], argTypes := #[77, 77] })
    (u : World) (B : Nat) (wr : World) (v : Value) (l : List UInt8) (c : UInt8) (x0 : Int) (hs : a.eval s = v) (hrow : RowB B wr v l) (hx : Ext u wr) (hB : u.heap.size ≤ B) (hBw : B ≤ wr.heap.size) (hl : l.length ≤ 1000000)
    (hxe : a.eval x = .slice (some ⟨wr.heap.size, 0, none⟩) 1 1) (hc0 : x0 = (c.toNat : Int))
    (h : ∀ v' w', RowB B w' v' (l ++ [c]) → Ext u w' → (∀ (k : Nat) (q : ByteArray) (p : Nat), wr.heap[k]? = some (Obj.stringIter q p) → w'.heap[k]? = some (Obj.stringIter q p)) → wpList Tryz.prog ops Q rest (a.put o.dst v') w') : wpList Tryz.prog ops Q (o :: rest) a (wr.alloc (.cells #[.int .u8 x0] 5)) := by
  subst hc0
  obtain ⟨i0, hi, hz0, hzs, hzb⟩ := infoB info_byB
  refine wpList_append_own _ hgd s x 77 ho B 5 i0 (.int .u8 0) 1 1 Tryz.underlying77 hi hz0 hzs hzb rfl (by decide) v l.length (bcs l) hs (World.ownsRow.alloc hrow _) ⟨wr.heap.size, 0, none⟩ 1 1 [.int .u8 (c.toNat : Int)] hxe rfl (cell_one_new _ _ _) (oneBy _) (by unfold maxLen; omega) (by omega) (by simp; omega) ?_
  intro v' w' hown hg _
  refine h v' w' ?_ (ext_grown (hx.alloc _) hg (fun j hj => Nat.le_trans hB (hrow.own_le j hj))) (fun k q p hk => ?_)
  · unfold RowB
    rw [List.length_append, bcs_snoc]
    exact hown
  · have hlt := (Array.getElem?_eq_some_iff.1 hk).1
    rw [hg.block k (by simp; omega) (row_not_iter hrow hk)]
    exact iter_ext hk ((Ext.refl _).alloc _)
/-- One byte more. -/
theorem app_byte {ops : Array Oper} {rest : List Oper} {o : Oper} {a : Act} {Q : Exit → Act → World → Prop} (hgd : o.guard = none) (s x : Operand)
    (ho : o.op = .call { callee := .builtin .append, args := #[s, x], argTypes := #[77, 77] })
    (u : World) (B : Nat) (wr : World) (v : Value) (l : List UInt8) (c : UInt8) (x0 : Int) (hs : a.eval s = v) (hrow : RowB B wr v l) (hx : Ext u wr) (hB : u.heap.size ≤ B) (hBw : B ≤ wr.heap.size) (hl : l.length ≤ 1000000)
    (hxe : a.eval x = .slice (some ⟨wr.heap.size, 0, none⟩) 1 1) (hc0 : x0 = (c.toNat : Int))
    (h : ∀ v' w', RowB B w' v' (l ++ [c]) → Ext u w' → wpList Tryz.prog ops Q rest (a.put o.dst v') w') : wpList Tryz.prog ops Q (o :: rest) a (wr.alloc (.cells #[.int .u8 x0] 5)) :=
  app_byteI hgd s x ho u B wr v l c x0 hs hrow hx hB hBw hl hxe hc0 fun v' w' h1 h2 _ => h v' w' h1 h2

/-- The text of such a list. -/
theorem convB {B : Nat} {w : World} {v : Value} {l : List UInt8} (h : RowB B w v l) : (convert 77 9 v).run Tryz.prog w = .ok (.string ⟨l.toArray⟩) w := by
  have hh := h
  rcases h.2 with ⟨rfl, hn⟩ | ⟨g, cap, cur, rfl, _⟩
  · obtain rfl : l = [] := List.length_eq_zero_iff.1 hn
    exact Lib.run_convert_nil_bytes (P := Tryz.prog) w 77 9 5 0 Tryz.underlying77 Tryz.underlying5 Tryz.underlying9
  · refine run_convert_bytes_back (P := Tryz.prog) w 77 9 5 ⟨g, 0, none⟩ cap l Tryz.underlying77 Tryz.underlying5 Tryz.underlying9 (fun j hj => ?_)
    have := World.ownsRow.cellAt hh j (by omega)
    rw [show (Addr.add ⟨g, 0, none⟩ j) = ⟨g, j, none⟩ from by cases j <;> simp [Addr.add], this]
    unfold bcs
    simp [hj]
/-- A text of bytes. -/
def tB (l : List UInt8) : ByteArray := ⟨l.toArray⟩
theorem tB_size (l : List UInt8) : (tB l).size = l.length := by show l.toArray.size = l.length; simp
theorem tB_snoc (l : List UInt8) (c : UInt8) : tB (l ++ [c]) = tB l ++ ⟨#[c]⟩ := by
  apply ByteArray.ext
  rw [ByteArray.data_append]
  simp [tB]
theorem tB_all (s : ByteArray) : tB s.data.toList = s := by
  apply ByteArray.ext
  show s.data.toList.toArray = s.data
  simp
theorem ext1B (s : ByteArray) (k : Nat) (h : k < s.size) : s.extract k (k + 1) = ⟨#[sg s k]⟩ := by
  apply ByteArray.ext
  rw [ByteArray.data_extract]
  have hk : k < s.data.size := h
  apply Array.ext
  · simp; omega
  · intro i h1 h2
    have : i = 0 := by simp at h2; omega
    subst this
    simp only [Array.getElem_extract, Nat.add_zero]
    rw [← sg_at s k h]
    rfl
/-- Parts of a text, as a region asks for them. -/
theorem slB (s : ByteArray) (i j : Nat) (h1 : i ≤ j) (h2 : j ≤ s.size) (w : World) : (Instr.slice 9 (.string s) (some (.int .i64 (i : Int))) (some (.int .i64 (j : Int))) none).run Tryz.prog w = .ok (.string (s.extract i j)) w := by
  have a1 : (0 : Int) ≤ (i : Int) := by omega
  have a2 : (i : Int) ≤ (j : Int) := by omega
  have a3 : (j : Int) ≤ (s.size : Int) := by omega
  have a4 : (0 : Int) ≤ (j : Int) := by omega
  simp [go_sem, h1, h2]
theorem slB_to (s : ByteArray) (j : Nat) (h2 : j ≤ s.size) (w : World) : (Instr.slice 9 (.string s) none (some (.int .i64 (j : Int))) none).run Tryz.prog w = .ok (.string (s.extract 0 j)) w := by
  have a3 : (j : Int) ≤ (s.size : Int) := by omega
  have a4 : (0 : Int) ≤ (j : Int) := by omega
  simp [go_sem, h2]
theorem slB_from (s : ByteArray) (i : Nat) (h1 : i ≤ s.size) (w : World) : (Instr.slice 9 (.string s) (some (.int .i64 (i : Int))) none none).run Tryz.prog w = .ok (.string (s.extract i s.size)) w := by
  have a1 : (0 : Int) ≤ (i : Int) := by omega
  have a2 : (i : Int) ≤ (s.size : Int) := by omega
  simp [go_sem, h1]
end Go.Proofs.YtpdnpphjlnlneaaGreatDoor
