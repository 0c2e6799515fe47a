/- Lists of numbers, and of places: how they read, their own making. No conditions. -/
import Derived.Test.YtbldbopmpflpcaaFar
import Derived.Test.YtbldbopmpflpcaaStrs
import Derived.Laws.IdiomStrings
import Derived.IntWalk
namespace Go.Proofs.Ytbldbopmpflpcaa
open Go.RowKit

theorem heapLt {w : World} {g : Nat} {o : Obj} (h : w.heap[g]? = some o) : g < w.heap.size := by
  rcases Nat.lt_or_ge g w.heap.size with k | k
  · exact k
  · rw [Array.getElem?_eq_none k] at h; cases h
/-- The cells of places. -/
def pcs (ps : List Nat) : List Value := ps.map fun (p : Nat) => Value.int .i64 (p : Int)
theorem pcs_len (ps : List Nat) : (pcs ps).length = ps.length := by unfold pcs; rw [List.length_map]
theorem pcs_at (ps : List Nat) (j : Nat) (h : j < ps.length) : (pcs ps)[j]? = some (.int .i64 (ps[j] : Int)) := by unfold pcs; simp [h]
theorem pcs_snoc (ps : List Nat) (p : Nat) : pcs (ps ++ [p]) = pcs ps ++ [.int .i64 (p : Int)] := by unfold pcs; simp
/-- v is a list that reads as these places. -/
def Ps (w : World) (v : Value) (ps : List Nat) : Prop :=
  ps.length ≤ maxLen ∧ ((ps = [] ∧ ∃ x cap, v = .slice x 0 cap) ∨ ∃ b off cap, v = .slice (some ⟨b, off, none⟩) ps.length cap ∧ b < w.heap.size ∧ ∀ j (h : j < ps.length), w.cell? ⟨b, off + j, none⟩ = some (.int .i64 (ps[j] : Int)))
theorem Ps.ext {w w' : World} {v : Value} {ps : List Nat} (h : Ps w v ps) (hx : Ext w w') : Ps w' v ps := by
  refine ⟨h.1, h.2.imp id fun ⟨b, off, cap, h1, h2, h3⟩ => ⟨b, off, cap, h1, Nat.lt_of_lt_of_le h2 hx.size, fun j hj => (hx.cell (p := ⟨b, off + j, none⟩) h2).trans (h3 j hj)⟩⟩
theorem Ps.at {w : World} {v : Value} {ps : List Nat} (h : Ps w v ps) : ∃ a cap, v = .slice a ps.length cap := by
  rcases h.2 with ⟨rfl, x, cap, rfl⟩ | ⟨b, off, cap, rfl, _⟩
  · exact ⟨x, cap, rfl⟩
  · exact ⟨_, _, rfl⟩
theorem Ps.get {w : World} {a : Option Addr} {cap : Nat} {ps : List Nat} (h : Ps w (.slice a ps.length cap) ps) (j : Nat) (hj : j < ps.length) : ∃ b off, a = some ⟨b, off, none⟩ ∧ b < w.heap.size ∧ w.cell? ⟨b, off + j, none⟩ = some (.int .i64 (ps[j] : Int)) := by
  rcases h.2 with ⟨rfl, _⟩ | ⟨b, off, cap', e, h2, h3⟩
  · exact absurd hj (Nat.not_lt_zero _)
  · injection e with e1 e2 e3
    exact ⟨b, off, e1, h2, h3 j hj⟩

/-- v is a list of the call's own with these places. -/
def RowP (B : Nat) (w : World) (v : Value) (ps : List Nat) : Prop := w.ownsRow B 3 1 v ps.length (pcs ps)
theorem RowP.ext {B : Nat} {w w' : World} {v : Value} {ps : List Nat} (h : RowP B w v ps) (hx : Ext w w') : RowP B w' v ps := row_ext h hx
theorem RowP.nil (B : Nat) (w : World) : RowP B w (.slice none 0 0) [] := World.ownsRow_nil _ _ _ _
theorem RowP.down {B B' : Nat} {w : World} {v : Value} {ps : List Nat} (h : RowP B w v ps) (hb : B' ≤ B) : RowP B' w v ps :=
  ⟨h.1, h.2.imp id fun ⟨g, c, cur, a1, a2, a3⟩ => ⟨g, c, cur, a1, Nat.le_trans hb a2, a3⟩⟩
theorem RowP.shape {B : Nat} {w : World} {v : Value} {ps : List Nat} (h : RowP B w v ps) : ∃ a cap, v = .slice a ps.length cap := by
  rcases h.2 with ⟨rfl, hn⟩ | ⟨g, cap, cur, rfl, _⟩
  · exact ⟨none, 0, by rw [hn]⟩
  · exact ⟨_, _, rfl⟩
theorem RowP.at {B : Nat} {w : World} {a : Option Addr} {cap : Nat} {ps : List Nat} (h : RowP B w (.slice a ps.length cap) ps) (j : Nat) (hj : j < ps.length) : ∃ g, a = some ⟨g, 0, none⟩ ∧ B ≤ g ∧ g < w.heap.size ∧ w.cell? ⟨g, j, none⟩ = some (.int .i64 (ps[j] : Int)) ∧ w.frozen? ⟨g, j, none⟩ = false := by
  have hh := h
  rcases h.2 with ⟨_, hn⟩ | ⟨g, cap', cur, e, hb, hg, _⟩
  · omega
  · injection e with e1 e2 e3
    subst e1; subst e3
    refine ⟨g, rfl, hb, heapLt hg, ?_, World.ownsRow.frozenAt hh j⟩
    have := World.ownsRow.cellAt hh j (by omega)
    rw [this]
    exact pcs_at ps j hj
theorem RowP.ps {B : Nat} {w : World} {v : Value} {ps : List Nat} (h : RowP B w v ps) (hl : ps.length ≤ maxLen) : Ps w v ps := by
  refine ⟨hl, ?_⟩
  obtain ⟨a, cap, rfl⟩ := h.shape
  by_cases h0 : ps = []
  · subst h0
    exact .inl ⟨rfl, a, cap, rfl⟩
  · have hp : 0 < ps.length := List.length_pos_iff.2 h0
    obtain ⟨g, rfl, _, hlt, _⟩ := h.at 0 hp
    refine .inr ⟨g, 0, cap, rfl, hlt, fun j hj => ?_⟩
    obtain ⟨g', e, _, _, hc, _⟩ := h.at j hj
    injection e with e
    injection e with e
    subst e
    rw [Nat.zero_add]
    exact hc

theorem info_intP : (Try.prog.info? 3).map (fun i => (i.zero, i.size, i.bytes)) = some (some (.int .i64 0), 1, 8) := by kernel_rfl

/-- A list of places that the call made. -/
def OwnP (w w' : World) (e : Ending) (ps : List Nat) : Prop := ∃ v, e = .returned v ∧ RowP w.heap.size w' v ps ∧ Ext w w'