/- Keys as a row of twenty signs, by which a map is asked. No conditions. -/
import Derived.Test.YtioinihlahnbfaaDoorBegs
import Derived.Maps.OwnOps
import Derived.Maps.AppendAt
import Derived.Maps.Views
import Derived.DeepKeys4
import Derived.Lib.BufferWrite
import Derived.Deep.RegionLaw
namespace Go.Proofs.YtioinihlahnbfaaDoor
open Go.RowKit Go.Maps

/-- The signs of keys with zeros behind them. -/
def rowCells (q : ByteArray) : List Value := (List.range 20).map fun i => .int .u8 ((q.data.toList.getD i 0).toNat : Int)
def rowV (q : ByteArray) : Value := .agg (rowCells q).toArray
theorem rowCells_len (q : ByteArray) : (rowCells q).length = 20 := by simp [rowCells]
theorem rowCells_at (q : ByteArray) (i : Nat) (h : i < (rowCells q).length) : (rowCells q)[i] = .int .u8 ((q.data.toList.getD i 0).toNat : Int) := by simp [rowCells]
theorem mapM_eq {α β : Type} (f : α → Option β) (g : α → β) : ∀ l : List α, (∀ x ∈ l, f x = some (g x)) → l.mapM f = some (l.map g)
  | [], _ => rfl
  | x :: l, h => by
    rw [List.mapM_cons, h x (by simp), mapM_eq f g l (fun z hz => h z (by simp [hz]))]
    rfl
/-- What a row of keys reads as, where it is a map's key. -/
def kl (q : ByteArray) : Lit := .string (keyBytes ((List.range 20).map fun i => [Lit.int .u8 ((q.data.toList.getD i 0).toNat : Int)]).flatten)
theorem wf_u8 (b : UInt8) : (Lit.int .u8 (b.toNat : Int)).wf = true := by
  have := b.toNat_lt
  simp [Lit.wf, IntKind.min, IntKind.max, IntKind.signed, IntKind.bits]
  omega
theorem row_type : Tryd.prog.keyType 81 = true := by kernel_rfl
theorem row_cells : Tryd.prog.cellsOf 81 = 20 := by kernel_rfl
theorem u8_cells : Tryd.prog.cellsOf 5 = 1 := by kernel_rfl
theorem types_pos : ∃ d, Tryd.prog.types.size = d + 1 := ⟨Tryd.prog.types.size - 1, by
  have : decide (0 < Tryd.prog.types.size) = true := by kernel_rfl
  have := of_decide_eq_true this
  omega⟩
set_option maxRecDepth 100000 in
theorem row_key (q : ByteArray) : keyOf Tryd.prog 81 (rowV q) = some (kl q) := by
  obtain ⟨d, hd⟩ := types_pos
  have hf : (rowV q).formed Tryd.prog 81 = true := by
    unfold rowV Value.formed
    rw [Tryd.underlying81]
    simp only [row_cells]
    rw [List.size_toArray, rowCells_len]
    rfl
  have hc : (rowV q).cells.toList = rowCells q := by simp [rowV, Value.cells]
  have hm : (List.range 20).mapM (fun i => Tryd.prog.keyLits (d + 1) 5 (((rowCells q).drop (i * Tryd.prog.cellsOf 5)).take (Tryd.prog.cellsOf 5))) = some ((List.range 20).map fun i => [Lit.int .u8 ((q.data.toList.getD i 0).toNat : Int)]) := by
    refine mapM_eq _ _ _ fun i hi => ?_
    have hi2 : i < (rowCells q).length := by rw [rowCells_len]; exact List.mem_range.1 hi
    rw [u8_cells, Nat.mul_one, List.drop_eq_getElem_cons hi2, List.take_succ_cons, List.take_zero, rowCells_at]
    unfold Program.keyLits
    rw [Tryd.underlying5]
    simp [wf_u8]
  unfold keyOf
  rw [Tryd.underlying81]
  simp only [row_type, hf, hc, Bool.and_self, if_true]
  rw [hd]
  unfold Program.keyLits
  rw [Tryd.underlying81]
  simp only [row_cells, rowCells_len, if_true]
  rw [hm]
  rfl

theorem laidOutK : laidOutB Tryd.prog = true := by kernel_rfl
set_option maxRecDepth 100000 in
theorem rowLaw : Keyed Tryd.prog 81 := Keyed.of_law (deep_law_laid laidOutK (m := 2) (by decide) (of_decide_eq_true (by kernel_rfl)) (by kernel_rfl) (by kernel_rfl))
/-- Keys that fill a row from its start. -/
def okQ (q : ByteArray) : Prop := q.size ≤ 20 ∧ ∀ i, i < q.size → ¬ q.data.toList.getD i 0 = 0
theorem row_inj {q q' : ByteArray} (h : okQ q) (h' : okQ q') (he : rowV q = rowV q') : q = q' := by
  have hat : ∀ i, i < 20 → q.data.toList.getD i 0 = q'.data.toList.getD i 0 := by
    intro i hi
    unfold rowV at he
    injection he with he
    have h1 := congrArg Array.toList he
    have h2 : (rowCells q)[i]? = (rowCells q')[i]? := by rw [show rowCells q = rowCells q' from h1]
    rw [List.getElem?_eq_getElem (by rw [rowCells_len]; exact hi), List.getElem?_eq_getElem (by rw [rowCells_len]; exact hi), rowCells_at, rowCells_at] at h2
    injection h2 with h2
    injection h2 with _ h2
    exact UInt8.toNat_inj.1 (by omega)
  have hl : q.data.toList.length = q.size := by simp
  have hl' : q'.data.toList.length = q'.size := by simp
  have hsz : q.size = q'.size := by
    rcases Nat.lt_trichotomy q.size q'.size with h1 | h1 | h1
    · exfalso
      have h2 := hat q.size (by have := h'.1; omega)
      rw [List.getD_eq_getElem?_getD, List.getElem?_eq_none (by omega)] at h2
      exact h'.2 _ h1 h2.symm
    · exact h1
    · exfalso
      have h2 := hat q'.size (by have := h.1; omega)
      have h3 : q'.data.toList.getD q'.size 0 = 0 := by rw [List.getD_eq_getElem?_getD, List.getElem?_eq_none (by omega)]; rfl
      rw [h3] at h2
      exact h.2 _ h1 h2
  apply bytes_inj
  apply List.ext_getElem (by omega)
  intro i h1 h2
  have h3 := hat i (by have := h.1; omega)
  rw [List.getD_eq_getElem?_getD, List.getD_eq_getElem?_getD, List.getElem?_eq_getElem h1, List.getElem?_eq_getElem h2] at h3
  exact h3
theorem kl_inj {q q' : ByteArray} (h : okQ q) (h' : okQ q') (he : kl q = kl q') : q = q' :=
  row_inj h h' (rowLaw.inj (row_key q) (he ▸ row_key q'))
theorem kl_ne {q q' : ByteArray} (h : okQ q) (h' : okQ q') (hne : ¬ q' = q) : kl q' ≠ kl q := fun e => hne (kl_inj h' h e)
theorem keysB_ok {s : ByteArray} (h : s.size ≤ 20) : okQ (keysB s) := by
  refine ⟨by rw [keysB_size]; exact h, fun i hi h0 => ?_⟩
  rw [keysB_size] at hi
  have h1 : i < (keysL s.data.toList).length := by rw [keysL_len]; simpa using hi
  have h2 := keysL_get s i hi h1
  have h3 : (keysB s).data.toList.getD i 0 = (keysL s.data.toList)[i] := by
    rw [List.getD_eq_getElem?_getD]
    show (keysL s.data.toList)[i]?.getD 0 = _
    rw [List.getElem?_eq_getElem h1]
    rfl
  rw [h3] at h0
  rw [h0] at h2
  have := dg_bd s[i].toNat
  simp at h2
  omega

end Go.Proofs.YtioinihlahnbfaaDoor
