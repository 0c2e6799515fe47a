/- Lists of rows of numbers, all of the call's own. No conditions. -/
import Derived.Test.YtmpajijnpoekgabIApp
namespace Go.Proofs.Ytmpajijnpoekgab
open Go.RowKit

def rowN (n : Nat) (t : Nat → Int) : List Value := (List.range n).map fun j => .int .i64 (t j)
theorem rowN_len (n : Nat) (t : Nat → Int) : (rowN n t).length = n := by simp [rowN]
theorem rowN_at (n : Nat) (t : Nat → Int) (j : Nat) (h : j < n) : (rowN n t)[j]? = some (.int .i64 (t j)) := by
  unfold rowN
  rw [List.getElem?_map, List.getElem?_range h]
  rfl
theorem rowN_set (n : Nat) (t : Nat → Int) (i : Nat) (x : Int) : (rowN n t).set i (.int .i64 x) = rowN n (fun j => if j = i then x else t j) := by
  apply List.ext_getElem?
  intro j
  by_cases hj : j < n
  · by_cases e : j = i
    · subst e
      rw [List.getElem?_set_self (by rw [rowN_len]; exact hj), rowN_at _ _ _ hj]
      simp
    · rw [List.getElem?_set_ne (fun h => e h.symm), rowN_at _ _ _ hj, rowN_at _ _ _ hj, if_neg e]
  · rw [List.getElem?_eq_none (by rw [List.length_set, rowN_len]; omega), List.getElem?_eq_none (by rw [rowN_len]; omega)]
/-- So many numbers in a block of the call's own. -/
def RowN (n B : Nat) (w : World) (g : Nat) (t : Nat → Int) : Prop := w.ownsRow B 3 1 (.slice (some ⟨g, 0, none⟩) n n) n (rowN n t)
theorem RowN.ext {n B : Nat} {w w' : World} {g : Nat} {t : Nat → Int} (h : RowN n B w g t) (hx : Ext w w') : RowN n B w' g t := row_ext h hx
theorem RowN.at {n B : Nat} {w : World} {g : Nat} {t : Nat → Int} (h : RowN n B w g t) (j : Nat) (hj : j < n) : w.cell? ⟨g, j, none⟩ = some (.int .i64 (t j)) := (World.ownsRow.cellAt h j (by omega)).trans (rowN_at n t j hj)
theorem RowN.fr {n B : Nat} {w : World} {g : Nat} {t : Nat → Int} (h : RowN n B w g t) (j : Nat) : w.frozen? ⟨g, j, none⟩ = false := World.ownsRow.frozenAt h j
theorem RowN.set {n B : Nat} {w : World} {g : Nat} {t : Nat → Int} (h : RowN n B w g t) (i : Nat) (x : Int) : RowN n B (w.setCell ⟨g, i, none⟩ (.int .i64 x)) g (fun j => if j = i then x else t j) := by
  have := (World.ownsRow.stored h i (.int .i64 x)).1
  rw [rowN_set] at this
  exact this
theorem RowN.congr {n B : Nat} {w : World} {g : Nat} {t t' : Nat → Int} (h : RowN n B w g t) (he : ∀ j, j < n → t j = t' j) : RowN n B w g t' := by
  have : rowN n t = rowN n t' := by
    unfold rowN
    exact List.map_congr_left fun j hj => by rw [he j (List.mem_range.1 hj)]
  unfold RowN
  rw [← this]
  exact h
theorem RowN.lt {n B : Nat} {w : World} {g : Nat} {t : Nat → Int} (h : RowN n B w g t) : B ≤ g ∧ g < w.heap.size := World.ownsRow.lt h g rfl
theorem RowN.made {n B : Nat} {w : World} {g : Nat} {xs : List Value} (h : w.ownsRow B 3 1 (.slice (some ⟨g, 0, none⟩) n n) n xs) (hz : xs = (madeCells (Value.int .i64 0).cells (n * 1)).toList) : RowN n B w g (fun _ => 0) := by
  have e : xs = rowN n (fun _ => 0) := by
    rw [hz, Nat.mul_one]
    apply List.ext_getElem?
    intro j
    by_cases hj : j < n
    · rw [rowN_at _ _ _ hj]
      simp [madeCells, Value.cells, hj, Nat.mod_one]
    · rw [List.getElem?_eq_none (by simp [madeCells]; omega), List.getElem?_eq_none (by rw [rowN_len]; omega)]
  unfold RowN
  rw [← e]
  exact h
theorem RowN.int {n B : Nat} {w : World} {g : Nat} {t : Nat → Int} (h : RowN n B w g t) : ∃ cur fr, w.heap[g]? = some (.cells cur 3 fr) := by
  rcases h.2 with ⟨h0, _⟩ | ⟨g2, cap2, cur2, h0, _, hg2, _⟩
  · cases h0
  · injection h0 with h0
    injection h0 with h0
    injection h0 with h0
    subst h0
    exact ⟨_, _, hg2⟩
theorem row_other {w : World} {B : Nat} {e : TypeId} {size : Nat} {v : Value} {n : Nat} {xs : List Value} (h : w.ownsRow B e size v n xs) (p : Addr) (x : Value) (hne : v.ownBlock ≠ some p.block) : (w.setCell p x).ownsRow B e size v n xs := by
  refine ⟨h.1, h.2.imp id fun ⟨g, cap, cur, h1, h2, h3, h4⟩ => ⟨g, cap, cur, h1, h2, ?_, h4⟩⟩
  rw [heap_setCell_other w _ _ _ (fun e => hne (by rw [h1, e]; rfl))]
  exact h3

def gridL (n R : Nat) (U : Nat → Nat) : List Value := (List.range R).map fun k => .slice (some ⟨U k, 0, none⟩) n n
/-- A list of rows, each in a block of its own, all of the call's. -/
structure Grid (n B : Nat) (w : World) (v : Value) (R : Nat) (U : Nat → Nat) (T : Nat → Nat → Int) : Prop where
  outer : w.ownsRow B 58 1 v R (gridL n R U)
  inner : ∀ k, k < R → RowN n B w (U k) (T k)
  apart : ∀ i j, i < R → j < R → U i = U j → i = j
theorem Grid.ext {n B : Nat} {w w' : World} {v : Value} {R : Nat} {U : Nat → Nat} {T : Nat → Nat → Int} (h : Grid n B w v R U T) (hx : Ext w w') : Grid n B w' v R U T :=
  ⟨row_ext h.outer hx, fun k hk => (h.inner k hk).ext hx, h.apart⟩
theorem Grid.nil (n B : Nat) (w : World) (U : Nat → Nat) (T : Nat → Nat → Int) : Grid n B w (.slice none 0 0) 0 U T :=
  ⟨World.ownsRow_nil _ _ _ _, fun k hk => absurd hk (by omega), fun i j hi => absurd hi (by omega)⟩
theorem Grid.shape {n B : Nat} {w : World} {v : Value} {R : Nat} {U : Nat → Nat} {T : Nat → Nat → Int} (h : Grid n B w v R U T) : ∃ a cap, v = .slice a R cap := by
  rcases h.outer.2 with ⟨rfl, hn⟩ | ⟨g, cap, cur, rfl, _⟩
  · exact ⟨none, 0, by rw [hn]⟩
  · exact ⟨_, _, rfl⟩
theorem Grid.at {n B : Nat} {w : World} {a : Option Addr} {cap R : Nat} {U : Nat → Nat} {T : Nat → Nat → Int} (h : Grid n B w (.slice a R cap) R U T) (j : Nat) (hj : j < R) : ∃ g, a = some ⟨g, 0, none⟩ ∧ B ≤ g ∧ g < w.heap.size ∧ ∀ w', Ext w w' → ∀ k, k < R → w'.cell? ⟨g, k, none⟩ = some (.slice (some ⟨U k, 0, none⟩) n n) := by
  have hh := h.outer
  rcases h.outer.2 with ⟨_, hn⟩ | ⟨g, cap', cur, e, hb, hg, _⟩
  · omega
  · injection e with e1 e2 e3
    subst e1; subst e3
    refine ⟨g, rfl, hb, (Array.getElem?_eq_some_iff.1 hg).1, fun w' hx k hk => (World.ownsRow.cellAt (row_ext hh hx) k (by omega)).trans ?_⟩
    unfold gridL
    rw [List.getElem?_map, List.getElem?_range hk]; rfl
theorem Grid.congr {n B : Nat} {w : World} {v : Value} {R : Nat} {U : Nat → Nat} {T T' : Nat → Nat → Int} (h : Grid n B w v R U T) (he : ∀ r c, r < R → c < n → T r c = T' r c) : Grid n B w v R U T' :=
  ⟨h.outer, fun k hk => (h.inner k hk).congr (fun j hj => he k j hk hj), h.apart⟩
set_option maxRecDepth 100000 in
theorem outer_ne {n B B' : Nat} {w : World} {v : Value} {R : Nat} {xs : List Value} {g : Nat} {t : Nat → Int} (h : w.ownsRow B 58 1 v R xs) (hg : RowN n B' w g t) : v.ownBlock ≠ some g := by
  intro e
  rcases h.2 with ⟨rfl, _⟩ | ⟨b, cap, cur, rfl, _, hgb, _⟩
  · cases e
  · have e : b = g := by injection e
    subst e
    obtain ⟨cur2, fr2, h2⟩ := hg.int
    rw [hgb] at h2
    injection h2 with h2
    injection h2 with _ h2
    exact absurd h2 (by decide)
/-- One number another one. -/
theorem Grid.set {n B : Nat} {w : World} {v : Value} {R : Nat} {U : Nat → Nat} {T : Nat → Nat → Int} (h : Grid n B w v R U T) (r c : Nat) (hr : r < R) (x : Int) : Grid n B (w.setCell ⟨U r, c, none⟩ (.int .i64 x)) v R U (fun a b => if a = r ∧ b = c then x else T a b) := by
  refine ⟨row_other h.outer _ _ (outer_ne h.outer (h.inner r hr)), fun k hk => ?_, h.apart⟩
  by_cases e : k = r
  · subst e
    refine ((h.inner k hk).set c x).congr fun j _ => ?_
    by_cases e2 : j = c
    · rw [if_pos e2, if_pos ⟨rfl, e2⟩]
    · rw [if_neg e2, if_neg (fun h => e2 h.2)]
  · have hk2 : RowN n B (w.setCell ⟨U r, c, none⟩ (.int .i64 x)) (U k) (T k) := row_other (h.inner k hk) _ _ (by
      intro h2
      have : U k = U r := by injection h2
      exact e (h.apart k r hk hr this))
    exact hk2.congr fun j _ => by rw [if_neg (fun h => e h.1)]
theorem info_lsG : (Try.prog.info? 58).map (fun i => (i.zero, i.size, i.bytes)) = some (some (.slice none 0 0), 1, 24) := by kernel_rfl
theorem oneSl (x : Value) (h : x.oneCell' = true) : ∀ u ∈ [x], u.oneCell' = true := by intro u hu; simp at hu; subst hu; exact h
set_option maxRecDepth 100000 in
/-- One row more. -/
theorem app_row {ops : Array Oper} {rest : List Oper} {o : Oper} {a : Act} {Q : Exit → Act → World → Prop} (hgd : o.guard = none) (s x : Operand)
    (ho : o.op = .call { callee := .builtin .append, args := #[s, x], argTypes := #[73, 73] })
    (u : World) (n B : Nat) (wr : World) (v : Value) (R : Nat) (U : Nat → Nat) (T : Nat → Nat → Int) (g : Nat) (t : Nat → Int) (hs : a.eval s = v) (hrow : Grid n B wr v R U T) (hg : RowN n B wr g t) (hfr : ∀ k, k < R → U k ≠ g) (hx : Ext u wr) (hB : u.heap.size ≤ B) (hBw : B ≤ wr.heap.size) (hl : R ≤ 1000000)
    (hxe : a.eval x = .slice (some ⟨wr.heap.size, 0, none⟩) 1 1)
    (h : ∀ v' w', Grid n B w' v' (R + 1) (fun k => if k = R then g else U k) (fun k => if k = R then t else T k) → Ext u w' → wpList Try.prog ops Q rest (a.put o.dst v') w') : wpList Try.prog ops Q (o :: rest) a (wr.alloc (.cells #[.slice (some ⟨g, 0, none⟩) n n] 58)) := by
  obtain ⟨i0, hi, hz0, hzs, hzb⟩ := infoB info_lsG
  refine wpList_append_own _ hgd s x 73 ho B 58 i0 (.slice none 0 0) 1 24 Try.underlying73 hi hz0 hzs hzb rfl (by decide) v R (gridL n R U) hs (World.ownsRow.alloc hrow.outer _) ⟨wr.heap.size, 0, none⟩ 1 1 [.slice (some ⟨g, 0, none⟩) n n] hxe rfl (cell_one_new _ _ _) (oneSl _ rfl) (by unfold maxLen; omega) (by omega) (by simp; omega) ?_
  intro v' w' hown hgr _
  have hz : Ext wr (wr.alloc (.cells #[.slice (some ⟨g, 0, none⟩) n n] 58)) := (Ext.refl _).alloc _
  have keep : ∀ (p : Nat) (q : Nat → Int), RowN n B wr p q → RowN n B w' p q := fun p q hp => World.ownsRow.kept (row_ext hp hz) hgr (.inr (fun e => outer_ne hrow.outer hp e.symm))
  refine h v' w' ⟨?_, fun k hk => ?_, fun i j hi hj e => ?_⟩ (ext_grown (hx.alloc _) hgr (fun j hj => Nat.le_trans hB (World.ownsRow.lt hrow.outer j hj).1))
  · have e : gridL n (R + 1) (fun k => if k = R then g else U k) = gridL n R U ++ [.slice (some ⟨g, 0, none⟩) n n] := by
      unfold gridL
      rw [List.range_succ, List.map_append]
      congr 1
      · refine List.map_congr_left fun i hi => ?_
        show Value.slice (some ⟨(if i = R then g else U i), 0, none⟩) n n = _
        rw [if_neg (by have := List.mem_range.1 hi; omega)]
      · simp
    rw [e]
    exact hown
  · by_cases e : k = R
    · subst e
      simp only [if_true]
      exact keep _ _ hg
    · simp only [if_neg e]
      exact keep _ _ (hrow.inner k (by omega))
  · replace e : (if i = R then g else U i) = (if j = R then g else U j) := e
    by_cases e1 : i = R
    · by_cases e2 : j = R
      · omega
      · rw [if_pos e1, if_neg e2] at e
        exact absurd e.symm (hfr j (by omega))
    · by_cases e2 : j = R
      · rw [if_neg e1, if_pos e2] at e
        exact absurd e (hfr i (by omega))
      · rw [if_neg e1, if_neg e2] at e
        exact hrow.apart i j (by omega) (by omega) e
end Go.Proofs.Ytmpajijnpoekgab
