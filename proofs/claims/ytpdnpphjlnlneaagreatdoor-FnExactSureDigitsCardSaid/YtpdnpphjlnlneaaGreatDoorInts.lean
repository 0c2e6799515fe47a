/- The laws' own helpers on lists of numbers, and the marks. No conditions. -/
import Derived.Test.YtpdnpphjlnlneaaGreatDoorStrs
import Derived.Laws.IdiomStrings
import Derived.IntWalk
namespace Go.Proofs.YtpdnpphjlnlneaaGreatDoor
open Go.RowKit

/-- v is a list of the call's own with these numbers. -/
def RowI (B : Nat) (w : World) (v : Value) (zs : List Int) : Prop := w.ownsRow B 3 1 v zs.length (zs.map (Value.int .i64))
theorem RowI.ext {B : Nat} {w w' : World} {v : Value} {zs : List Int} (h : RowI B w v zs) (hx : Ext w w') : RowI B w' v zs := row_ext h hx
theorem RowI.shape {B : Nat} {w : World} {v : Value} {zs : List Int} (h : RowI B w v zs) : ∃ a cap, v = .slice a zs.length cap := by
  rcases h.2 with ⟨rfl, hn⟩ | ⟨g, cap, cur, rfl, _⟩
  · exact ⟨none, 0, by rw [hn]⟩
  · exact ⟨_, _, rfl⟩
theorem RowI.at {B : Nat} {w : World} {a : Option Addr} {cap : Nat} {zs : List Int} (h : RowI B w (.slice a zs.length cap) zs) (j : Nat) (hj : j < zs.length) : ∃ g, a = some ⟨g, 0, none⟩ ∧ B ≤ g ∧ g < w.heap.size ∧ w.cell? ⟨g, j, none⟩ = some (.int .i64 zs[j]) ∧ w.frozen? ⟨g, j, none⟩ = false := by
  have hh := h
  rcases h.2 with ⟨_, hn⟩ | ⟨g, cap', cur, e, hb, hg, _⟩
  · omega
  · injection e with e1 e2 e3
    subst e1; subst e3
    have hlt : g < w.heap.size := by
      rcases Nat.lt_or_ge g w.heap.size with k | k
      · exact k
      · rw [Array.getElem?_eq_none k] at hg; cases hg
    refine ⟨g, rfl, hb, hlt, ?_, World.ownsRow.frozenAt hh j⟩
    have := World.ownsRow.cellAt hh j (by omega)
    rw [this]
    simp [hj]

set_option maxHeartbeats 1000000 in
theorem eqI_any (v u : Value) (zs : List Int) (B B2 : Nat) (w : World) (h : RowI B w v zs) (h2 : RowI B2 w u zs) (hn : zs.length ≤ 1048576) : Calls Tryz.prog 26 #[v, u] w fun e w' => e = .returned (.bool true) ∧ Ext w w' := by
  have HV := Lib.hid h
  have HU := Lib.hid h2
  obtain ⟨a, cap, hv⟩ := h.shape
  obtain ⟨a2, cap2, hu⟩ := h2.shape
  rw [hv] at HV ⊢
  rw [hu] at HU ⊢
  clear hv hu h h2 u v
  go_enter Tryz.func26, Tryz.ntmps26
  go_wp2
  go_loopw [5] (fun i wr => ∃ k : Nat, k ≤ zs.length ∧ i = .int .i64 k ∧ Ext w wr) (fun i _ => zs.length - (intOf i).toNat)
  case atStart => exact ⟨0, Nat.zero_le _, rfl, Ext.refl _⟩
  case round =>
    obtain ⟨k, hk, rfl, hx⟩ := hrel
    by_cases hlt : k < zs.length
    · obtain ⟨g, ha, _, _, e1, _⟩ := (HV.out.ext hx).at k hlt
      obtain ⟨g2, ha2, _, _, e2, _⟩ := (HU.out.ext hx).at k hlt
      rw [ha, ha2]
      have b1 : (k : Int) < (zs.length : Int) := by omega
      clear ha ha2
      go_wp2
      go_quiet (fail)
      go_wp2
      go_roundw
      case rel => exact ⟨k + 1, by omega, by go_num, ext_drewN hx _⟩
      case measure => simp [intOf]; omega
    · go_wp2
      go_ret
      exact ⟨rfl, hx⟩

/-- The numbers from m on. -/
def marks (m : Int) (n : Nat) : List Int := (List.range n).map fun (j : Nat) => m + (j : Int)
theorem marks_len (m : Int) (n : Nat) : (marks m n).length = n := by simp [marks]
theorem marks_at (m : Int) (n j : Nat) (h : j < (marks m n).length) : (marks m n)[j] = m + (j : Int) := by simp [marks]

theorem RowI.own {B : Nat} {w : World} {v : Value} {zs : List Int} (h : RowI B w v zs) : v.ownBlock = none ∨ ∃ g, v.ownBlock = some g ∧ B ≤ g ∧ g < w.heap.size := by
  rcases h.2 with ⟨rfl, hn⟩ | ⟨g, cap, cur, rfl, hb, hg, _⟩
  · exact .inl rfl
  · refine .inr ⟨g, rfl, hb, ?_⟩
    rcases Nat.lt_or_ge g w.heap.size with k | k
    · exact k
    · rw [Array.getElem?_eq_none k] at hg; cases hg

set_option maxHeartbeats 1000000 in
theorem heldI_any (v : Value) (n : Nat) (B : Nat) (w : World) (h : RowI B w v (marks 1 n)) (hn : n ≤ 1048576) : Calls Tryz.prog 29 #[v, .int .i64 1] w fun e w' => e = .returned (.int .i64 (1 + (n : Int))) ∧ w = w' := by
  have HV := Lib.hid h
  have HL := Lib.hid (marks_len 1 n)
  obtain ⟨a, cap, hv⟩ := h.shape
  rw [hv] at HV ⊢
  clear hv h v
  have hlen : (marks 1 n).length ≤ 1048576 := by rw [HL.out]; exact hn
  obtain ⟨L, hL⟩ : ∃ L, L = (marks 1 n).length := ⟨_, rfl⟩
  have HLL := Lib.hid hL
  rw [← hL] at hlen ⊢
  clear hL
  go_enter Tryz.func29, Tryz.ntmps29
  go_wp2
  go_loop [1, 5] (fun q i => ∃ k : Nat, k ≤ L ∧ i = .int .i64 k ∧ q = .int .i64 (1 + (k : Int))) (fun _ i => L - (intOf i).toNat)
  case atStart => exact ⟨0, Nat.zero_le _, rfl, rfl⟩
  case round =>
    obtain ⟨k, hk, rfl, rfl⟩ := hrel
    by_cases hlt : k < L
    · obtain ⟨g, ha, _, _, e1, _⟩ := HV.out.at k (by rw [← HLL.out]; exact hlt)
      rw [marks_at] at e1
      rw [ha]
      clear ha
      go_wp2
      go_round
      case rel => exact ⟨k + 1, by omega, by go_num, by go_num⟩
      case measure => simp [intOf]; omega
    · have hkn : k = n := by have := HLL.out; have := HL.out; omega
      have HK := Lib.hid hkn
      clear hkn
      go_wp2
      go_ret
      exact ⟨by rw [HK.out]; rfl, rfl⟩

/-- What marking a list of numbers leaves: the marks in its own block, all else as it was. -/
def Marked (B : Nat) (v : Value) (n : Nat) (w : World) (e : Ending) (w' : World) : Prop := e = .returned (.int .i64 (1 + (n : Int))) ∧ RowI B w' v (marks 1 n) ∧ w.grownBy w' v.ownBlock

set_option maxHeartbeats 1000000 in
theorem markI_any (v : Value) (zs : List Int) (B : Nat) (w : World) (h : RowI B w v zs) (hn : zs.length ≤ 1048576) : Calls Tryz.prog 28 #[v, .int .i64 1] w (Marked B v zs.length w) := by
  have HV := Lib.hid h
  obtain ⟨a, cap, hv⟩ := h.shape
  rw [hv] at HV ⊢
  clear hv h v
  obtain ⟨L, hL⟩ : ∃ L, L = zs.length := ⟨_, rfl⟩
  have HLL := Lib.hid hL
  rw [← hL] at hn ⊢
  clear hL
  have HG0 := Lib.hid (show w.grownBy w (Value.ownBlock (.slice a L cap)) from ⟨rfl, rfl, rfl, Nat.le_refl _, fun _ _ _ => rfl⟩)
  go_enter Tryz.func28, Tryz.ntmps28
  go_wp2
  go_loopw [1, 5] (fun q i wr => ∃ k : Nat, k ≤ L ∧ i = .int .i64 k ∧ q = .int .i64 (1 + (k : Int)) ∧ ∃ ys : List Int, ys.length = L ∧ wr.ownsRow B 3 1 (.slice a L cap) L (ys.map (Value.int .i64)) ∧ (∀ j (hj : j < ys.length), j < k → ys[j] = 1 + (j : Int)) ∧ w.grownBy wr (Value.ownBlock (.slice a L cap))) (fun _ i _ => L - (intOf i).toNat)
  case atStart => exact ⟨0, Nat.zero_le _, rfl, rfl, zs, HLL.out.symm, HLL.out ▸ HV.out, fun j _ h => absurd h (by omega), HG0.out⟩
  case round =>
    obtain ⟨k, hk, rfl, rfl, ys, hys, hown, hxs, hgr⟩ := hrel
    have HO := Lib.hid hown
    have HX := Lib.hid hxs
    have HG := Lib.hid hgr
    have HY := Lib.hid hys
    clear hown hxs hgr hys
    by_cases hlt : k < L
    · rcases HO.out.2 with ⟨_, hn0⟩ | ⟨g, cap', cur, e, hb, hg, _⟩
      · omega
      injection e with e1 e2 e3
      have hO2 : wr.ownsRow B 3 1 (.slice (some ⟨g, 0, none⟩) L cap) L (ys.map (Value.int .i64)) := e1 ▸ HO.out
      have HO2 := Lib.hid hO2
      have hc := (hO2.cellAt k (by omega)).trans (show (ys.map (Value.int .i64))[k]? = some (.int .i64 (ys[k]'(by rw [HY.out]; exact hlt))) by simp [HY.out, hlt])
      have hf := hO2.frozenAt k
      rw [e1]
      clear hO2 hb hg
      go_wp2
      go_roundw
      case rel =>
        refine ⟨k + 1, by omega, by go_num, by go_num, ys.set k (1 + (k : Int)), by rw [List.length_set]; exact HY.out, ?_, ?_, ?_⟩
        · have := (HO2.out.stored k (.int .i64 (1 + (k : Int)))).1
          rw [List.map_set]
          exact this
        · intro j hj hjk
          by_cases e : j = k
          · subst e; simp
          · rw [List.getElem_set_ne (by omega)]
            exact HX.out j (by simpa using hj) (by omega)
        · have h1 := HG.out
          rw [e1] at h1
          refine ⟨h1.os, h1.tape, h1.output, by simpa using h1.size, fun i hi hne => ?_⟩
          rw [Below.heap_setCell _ _ _ _ (by intro h; exact hne (by rw [h]; rfl))]
          exact h1.block i hi hne
      case measure => simp [intOf]; omega
    · obtain rfl : k = L := by omega
      have hys : ys = marks 1 k := by
        apply List.ext_getElem
        · rw [marks_len]; exact HY.out
        · intro j h1 h2
          rw [marks_at]; exact HX.out j h1 (by have := HY.out; omega)
      have HR := Lib.hid (show RowI B wr (.slice a k cap) (marks 1 k) from by unfold RowI; rw [marks_len, ← hys]; exact HO.out)
      clear hys
      go_wp2
      go_ret
      exact ⟨rfl, HR.out, HG.out⟩

end Go.Proofs.YtpdnpphjlnlneaaGreatDoor
