/- Lists of numbers, and of places: how they read, their own making. No conditions. -/
import Derived.Test.YtpdnpphjlnlneaaGreatDoorFar
import Derived.Test.YtpdnpphjlnlneaaGreatDoorStrs
import Derived.Laws.IdiomStrings
import Derived.IntWalk
namespace Go.Proofs.YtpdnpphjlnlneaaGreatDoor
open Go.RowKit

theorem heapLt {w : World} {g : Nat} {o : Obj} (h : w.heap[g]? = some o) : g < w.heap.size := by
  rcases Nat.lt_or_ge g w.heap.size with k | k
  · exact k
  · rw [Array.getElem?_eq_none k] at h; cases h
/-- The cells of places. -/
def pcs (ps : List Nat) : List Value := ps.map fun (p : Nat) => Value.int .i64 (p : Int)
theorem pcs_len (ps : List Nat) : (pcs ps).length = ps.length := by unfold pcs; rw [List.length_map]
theorem pcs_at (ps : List Nat) (j : Nat) (h : j < ps.length) : (pcs ps)[j]? = some (.int .i64 (ps[j] : Int)) := by unfold pcs; simp [h]
theorem pcs_snoc (ps : List Nat) (p : Nat) : pcs (ps ++ [p]) = pcs ps ++ [.int .i64 (p : Int)] := by unfold pcs; simp
/-- v is a list that reads as these places. -/
def Ps (w : World) (v : Value) (ps : List Nat) : Prop :=
  ps.length ≤ maxLen ∧ ((ps = [] ∧ ∃ x cap, v = .slice x 0 cap) ∨ ∃ b off cap, v = .slice (some ⟨b, off, none⟩) ps.length cap ∧ b < w.heap.size ∧ ∀ j (h : j < ps.length), w.cell? ⟨b, off + j, none⟩ = some (.int .i64 (ps[j] : Int)))
theorem Ps.ext {w w' : World} {v : Value} {ps : List Nat} (h : Ps w v ps) (hx : Ext w w') : Ps w' v ps := by
  refine ⟨h.1, h.2.imp id fun ⟨b, off, cap, h1, h2, h3⟩ => ⟨b, off, cap, h1, Nat.lt_of_lt_of_le h2 hx.size, fun j hj => (hx.cell (p := ⟨b, off + j, none⟩) h2).trans (h3 j hj)⟩⟩
theorem Ps.at {w : World} {v : Value} {ps : List Nat} (h : Ps w v ps) : ∃ a cap, v = .slice a ps.length cap := by
  rcases h.2 with ⟨rfl, x, cap, rfl⟩ | ⟨b, off, cap, rfl, _⟩
  · exact ⟨x, cap, rfl⟩
  · exact ⟨_, _, rfl⟩
theorem Ps.get {w : World} {a : Option Addr} {cap : Nat} {ps : List Nat} (h : Ps w (.slice a ps.length cap) ps) (j : Nat) (hj : j < ps.length) : ∃ b off, a = some ⟨b, off, none⟩ ∧ b < w.heap.size ∧ w.cell? ⟨b, off + j, none⟩ = some (.int .i64 (ps[j] : Int)) := by
  rcases h.2 with ⟨rfl, _⟩ | ⟨b, off, cap', e, h2, h3⟩
  · exact absurd hj (Nat.not_lt_zero _)
  · injection e with e1 e2 e3
    exact ⟨b, off, e1, h2, h3 j hj⟩

/-- v is a list of the call's own with these places. -/
def RowP (B : Nat) (w : World) (v : Value) (ps : List Nat) : Prop := w.ownsRow B 3 1 v ps.length (pcs ps)
theorem RowP.ext {B : Nat} {w w' : World} {v : Value} {ps : List Nat} (h : RowP B w v ps) (hx : Ext w w') : RowP B w' v ps := row_ext h hx
theorem RowP.nil (B : Nat) (w : World) : RowP B w (.slice none 0 0) [] := World.ownsRow_nil _ _ _ _
theorem RowP.down {B B' : Nat} {w : World} {v : Value} {ps : List Nat} (h : RowP B w v ps) (hb : B' ≤ B) : RowP B' w v ps :=
  ⟨h.1, h.2.imp id fun ⟨g, c, cur, a1, a2, a3⟩ => ⟨g, c, cur, a1, Nat.le_trans hb a2, a3⟩⟩
theorem RowP.shape {B : Nat} {w : World} {v : Value} {ps : List Nat} (h : RowP B w v ps) : ∃ a cap, v = .slice a ps.length cap := by
  rcases h.2 with ⟨rfl, hn⟩ | ⟨g, cap, cur, rfl, _⟩
  · exact ⟨none, 0, by rw [hn]⟩
  · exact ⟨_, _, rfl⟩
theorem RowP.at {B : Nat} {w : World} {a : Option Addr} {cap : Nat} {ps : List Nat} (h : RowP B w (.slice a ps.length cap) ps) (j : Nat) (hj : j < ps.length) : ∃ g, a = some ⟨g, 0, none⟩ ∧ B ≤ g ∧ g < w.heap.size ∧ w.cell? ⟨g, j, none⟩ = some (.int .i64 (ps[j] : Int)) ∧ w.frozen? ⟨g, j, none⟩ = false := by
  have hh := h
  rcases h.2 with ⟨_, hn⟩ | ⟨g, cap', cur, e, hb, hg, _⟩
  · omega
  · injection e with e1 e2 e3
    subst e1; subst e3
    refine ⟨g, rfl, hb, heapLt hg, ?_, World.ownsRow.frozenAt hh j⟩
    have := World.ownsRow.cellAt hh j (by omega)
    rw [this]
    exact pcs_at ps j hj
theorem RowP.ps {B : Nat} {w : World} {v : Value} {ps : List Nat} (h : RowP B w v ps) (hl : ps.length ≤ maxLen) : Ps w v ps := by
  refine ⟨hl, ?_⟩
  obtain ⟨a, cap, rfl⟩ := h.shape
  by_cases h0 : ps = []
  · subst h0
    exact .inl ⟨rfl, a, cap, rfl⟩
  · have hp : 0 < ps.length := List.length_pos_iff.2 h0
    obtain ⟨g, rfl, _, hlt, _⟩ := h.at 0 hp
    refine .inr ⟨g, 0, cap, rfl, hlt, fun j hj => ?_⟩
    obtain ⟨g', e, _, _, hc, _⟩ := h.at j hj
    injection e with e
    injection e with e
    subst e
    rw [Nat.zero_add]
    exact hc

theorem info_intP : (Tryz.prog.info? 3).map (fun i => (i.zero, i.size, i.bytes)) = some (some (.int .i64 0), 1, 8) := by kernel_rfl

/-- A list of places that the call made. -/
def OwnP (w w' : World) (e : Ending) (ps : List Nat) : Prop := ∃ v, e = .returned v ∧ RowP w.heap.size w' v ps ∧ Ext w w'

/-- All signs of a text are keys. -/
def allK (s : ByteArray) : Prop := ∀ i (hi : i < s.size), isK s[i].toNat = true
theorem allK_of {s : ByteArray} (h : isD s = true) : allK s := fun i hi => isD_get h i hi
theorem placeA_any (s : ByteArray) (k : Nat) (w : World) (h : allK s) (hk : k < s.size) : Calls Tryz.prog 102 #[.string (s.extract k (k + 1))] w fun e w' => e = .returned (.int .i64 (pn s[k] : Nat)) ∧ w = w' := by
  rw [ext1 s k hk]
  exact placeB_any _ w (h k hk)

set_option maxHeartbeats 1000000 in
theorem placesOf_all (s : ByteArray) (w : World) (hK : allK s) (h30 : s.size ≤ 100) : Calls Tryz.prog 103 #[.string s] w fun e w' => OwnP w w' e (plcs s) := by
  have HD := Lib.hid hK
  have HL := Lib.hid (plcs_len s)
  clear hK
  obtain ⟨i0, hi, hz0, hzs, hzb⟩ := info_parts info_intP
  have HI := Lib.hid (show Tryz.prog.info? 3 = some i0 ∧ i0.zero = some (.int .i64 0) ∧ i0.size = 1 ∧ i0.bytes = 8 from ⟨hi, hz0, hzs, hzb⟩)
  clear hi hz0 hzs hzb
  go_enter Tryz.func103, Tryz.ntmps103
  go_wp2_with (at_make; refine wpList_make_full _ rfl _ _ 42 rfl w.heap.size 3 i0 (.int .i64 0) 1 Tryz.underlying42 HI.out.1 HI.out.2.1 HI.out.2.2.1 .i64 .i64 _ _ s.size rfl rfl rfl rfl (by rw [HI.out.2.2.2]; omega) (by unfold maxLen; omega) (Nat.le_refl _) ?_; intro w1 hown hgr)
  have X1 : Ext w w1 := ext_grown (Ext.refl w) hgr (by intro k hk; cases hk)
  obtain ⟨xs1, hxs1⟩ : ∃ xs, xs = (madeCells (Value.int .i64 0).cells (s.size * 1)).toList := ⟨_, rfl⟩
  rw [← hxs1] at hown
  clear hxs1 hgr
  go_loopw [10] (fun i wr => ∃ k : Nat, k ≤ s.size ∧ i = .int .i64 k ∧ ∃ xs : List Value, wr.ownsRow w.heap.size 3 1 (.slice (some ⟨w.heap.size, 0, none⟩) s.size s.size) s.size xs ∧ (∀ j (hj : j < s.size), j < k → xs[j]? = some (.int .i64 (pn s[j] : Int))) ∧ Ext w wr) (fun i _ => s.size - (intOf i).toNat)
  case atStart => exact ⟨0, Nat.zero_le _, rfl, xs1, hown, fun j _ h => absurd h (by omega), X1⟩
  case round =>
    obtain ⟨k, hk, rfl, xs, hown, hxs, hx⟩ := hrel
    have HO := Lib.hid hown
    have HX := Lib.hid hxs
    clear hown hxs
    by_cases hlt : k < s.size
    · have hlen : xs.length = s.size := by have := HO.out.1; omega
      obtain ⟨u, hu⟩ : ∃ u, xs[k]? = some u := ⟨xs[k]'(by omega), List.getElem?_eq_getElem _⟩
      have hc3 := (HO.out.cellAt k (by omega)).trans hu
      have hf3 := HO.out.frozenAt k
      clear hu hlen
      have hk1 : k + 1 ≤ s.size := by omega
      go_wp2_with (go_at_call 102; refine (placeA_any s k _ HD.out hlt).mono ?_; rintro e w' ⟨rfl, rfl⟩)
      go_roundw
      case rel =>
        refine ⟨k + 1, by omega, by go_num, xs.set k (.int .i64 (pn s[k] : Int)), (HO.out.stored k _).1, ?_, hx.setCell (Nat.le_refl _) _⟩
        intro j hj hjk
        by_cases e : j = k
        · subst e
          rw [List.getElem?_set_self (by have := HO.out.1; omega)]
        · rw [List.getElem?_set_ne (by omega)]
          exact HX.out j hj (by omega)
      case measure => simp [intOf]; omega
    · go_wp2
      go_ret
      have hk' : k = s.size := by omega
      have e : xs = pcs (plcs s) := by
        apply List.ext_getElem?
        intro j
        by_cases hj : j < s.size
        · rw [HX.out j hj (by omega), pcs_at _ j (by rw [HL.out]; exact hj), plcs_at]
        · rw [List.getElem?_eq_none (by have := HO.out.1; omega), List.getElem?_eq_none (by rw [pcs_len, HL.out]; omega)]
      refine ⟨_, rfl, ?_, hx⟩
      unfold RowP
      rw [HL.out, ← e]
      exact HO.out

theorem placesOf_any (s : ByteArray) (w : World) (h : isD s = true) : Calls Tryz.prog 103 #[.string s] w fun e w' => OwnP w w' e (plcs s) := placesOf_all s w (allK_of h) (by have := isD_size h; omega)
end Go.Proofs.YtpdnpphjlnlneaaGreatDoor
