/- One more text in a list of the call's own. No conditions. -/
import Derived.Test.YtpdnpphjlnlneaaGreatDoorOwnS
import Derived.Test.YtpdnpphjlnlneaaGreatDoorByR
namespace Go.Proofs.YtpdnpphjlnlneaaGreatDoor
open Go.RowKit

/-- One more text in a list of the call's own. -/
theorem app_str {ops : Array Oper} {rest : List Oper} {o : Oper} {a : Act} {Q : Exit → Act → World → Prop} (hgd : o.guard = none) (s x : Operand)
    (ho : o.op = .call { callee := .builtin .append, args := #[s, x], argTypes := #[48, 48] })
    (u : World) (B : Nat) (wr : World) (v : Value) (l : List ByteArray) (c : ByteArray) (hs : a.eval s = v) (hrow : RowS B wr v l) (hx : Ext u wr) (hB : u.heap.size ≤ B) (hBw : B ≤ wr.heap.size) (hl : l.length ≤ 1000000)
    (hxe : a.eval x = .slice (some ⟨wr.heap.size, 0, none⟩) 1 1)
    (h : ∀ v' w', RowS B w' v' (l ++ [c]) → Ext u w' → (∀ (k : Nat) (q : ByteArray) (p : Nat), wr.heap[k]? = some (Obj.stringIter q p) → w'.heap[k]? = some (Obj.stringIter q p)) → wpList Tryz.prog ops Q rest (a.put o.dst v') w') : wpList Tryz.prog ops Q (o :: rest) a (wr.alloc (.cells #[.string c] 9)) := by
  obtain ⟨i0, hi, hz0, hzs, hzb⟩ := info_parts (show (Tryz.prog.info? 9).map (fun i => (i.zero, i.size, i.bytes)) = some (some (.string ⟨#[]⟩), 1, 16) by kernel_rfl)
  refine wpList_append_own _ hgd s x 48 ho B 9 i0 (.string ⟨#[]⟩) 1 16 Tryz.underlying48 hi hz0 hzs hzb rfl (by decide) v l.length (l.map Value.string) hs (World.ownsRow.alloc hrow _) ⟨wr.heap.size, 0, none⟩ 1 1 [.string c] hxe rfl (cell_one_new _ _ _) (by intro u hu; simp at hu; subst hu; rfl) (by unfold maxLen; omega) (by omega) (by simp; omega) ?_
  intro v' w' hown hg _
  refine h v' w' ?_ (ext_grown (hx.alloc _) hg (fun j hj => Nat.le_trans hB (hrow.own_le j hj))) (fun k q p hk => ?_)
  · unfold RowS
    rw [List.length_append, List.map_append]
    exact hown
  · have hlt := (Array.getElem?_eq_some_iff.1 hk).1
    rw [hg.block k (by simp; omega) (row_not_iter hrow hk)]
    exact iter_ext hk ((Ext.refl _).alloc _)
end Go.Proofs.YtpdnpphjlnlneaaGreatDoor
