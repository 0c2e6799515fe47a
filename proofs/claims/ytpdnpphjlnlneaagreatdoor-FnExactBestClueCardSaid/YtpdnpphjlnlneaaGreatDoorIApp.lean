/- One number more in a list of the call's own. No conditions. -/
import Derived.Test.YtpdnpphjlnlneaaGreatDoorByR
import Derived.Test.YtpdnpphjlnlneaaGreatDoorInts
namespace Go.Proofs.YtpdnpphjlnlneaaGreatDoor
open Go.RowKit

theorem info_inA : (Tryz.prog.info? 3).map (fun i => (i.zero, i.size, i.bytes)) = some (some (.int .i64 0), 1, 8) := by kernel_rfl
theorem oneIn (x : Int) : ∀ u ∈ [Value.int .i64 x], u.oneCell' = true := by intro u hu; simp at hu; subst hu; rfl
theorem RowI.empty (B : Nat) (w : World) : RowI B w (.slice none 0 0) [] := World.ownsRow_nil _ _ _ _
theorem RowI.own_le {B : Nat} {w : World} {v : Value} {zs : List Int} (h : RowI B w v zs) (j : Nat) (hj : v.ownBlock = some j) : B ≤ j := (World.ownsRow.lt h j hj).1
theorem app_int {ops : Array Oper} {rest : List Oper} {o : Oper} {a : Act} {Q : Exit → Act → World → Prop} (hgd : o.guard = none) (s x : Operand)
    (ho : o.op = .call { callee := .builtin .append, args := #[s, x], argTypes := #[42, 42] })
    (u : World) (B : Nat) (wr : World) (v : Value) (l : List Int) (c : Int) (hs : a.eval s = v) (hrow : RowI B wr v l) (hx : Ext u wr) (hB : u.heap.size ≤ B) (hBw : B ≤ wr.heap.size) (hl : l.length ≤ 1000000)
    (hxe : a.eval x = .slice (some ⟨wr.heap.size, 0, none⟩) 1 1)
    (h : ∀ v' w', RowI B w' v' (l ++ [c]) → Ext u w' → wpList Tryz.prog ops Q rest (a.put o.dst v') w') : wpList Tryz.prog ops Q (o :: rest) a (wr.alloc (.cells #[.int .i64 c] 3)) := by
  obtain ⟨i0, hi, hz0, hzs, hzb⟩ := infoB info_inA
  refine wpList_append_own _ hgd s x 42 ho B 3 i0 (.int .i64 0) 1 8 Tryz.underlying42 hi hz0 hzs hzb rfl (by decide) v l.length (l.map (Value.int .i64)) hs (World.ownsRow.alloc hrow _) ⟨wr.heap.size, 0, none⟩ 1 1 [.int .i64 c] hxe rfl (cell_one_new _ _ _) (oneIn _) (by unfold maxLen; omega) (by omega) (by simp; omega) ?_
  intro v' w' hown hg _
  refine h v' w' ?_ (ext_grown (hx.alloc _) hg (fun j hj => Nat.le_trans hB (hrow.own_le j hj)))
  unfold RowI
  rw [List.length_append, List.map_append]
  exact hown
/-- The last number of such a list, and another one in its place. -/
theorem RowI.last {B : Nat} {w : World} {v : Value} {l : List Int} {x : Int} (h : RowI B w v (l ++ [x])) : ∃ g cap, v = .slice (some ⟨g, 0, none⟩) (l.length + 1) cap ∧ B ≤ g ∧ w.cell? ⟨g, l.length, none⟩ = some (.int .i64 x) ∧ w.frozen? ⟨g, l.length, none⟩ = false ∧ ∀ w', Ext w w' → ∀ y, RowI B (w'.setCell ⟨g, l.length, none⟩ (.int .i64 y)) (.slice (some ⟨g, 0, none⟩) (l.length + 1) cap) (l ++ [y]) := by
  obtain ⟨a, cap, rfl⟩ := h.shape
  have hl : l.length < (l ++ [x]).length := by simp
  obtain ⟨g, rfl, hB, _, hc, hf⟩ := h.at l.length hl
  have e : (l ++ [x]).length = l.length + 1 := by simp
  rw [List.getElem_append_right (Nat.le_refl _)] at hc
  simp only [Nat.sub_self, List.getElem_cons_zero] at hc
  refine ⟨g, cap, by rw [e], hB, hc, hf, fun w' hx y => ?_⟩
  have hs := (World.ownsRow.stored (row_ext h hx) l.length (.int .i64 y)).1
  have e2 : (l ++ [y]).length = l.length + 1 := by simp
  unfold RowI
  rw [e] at hs
  rw [e2]
  have e3 : ((l ++ [x]).map (Value.int .i64)).set l.length (.int .i64 y) = (l ++ [y]).map (Value.int .i64) := by
    rw [List.map_append, List.set_append_right _ _ (by simp), List.length_map, Nat.sub_self, List.map_append]
    rfl
  rw [e3] at hs
  exact hs
end Go.Proofs.YtpdnpphjlnlneaaGreatDoor
