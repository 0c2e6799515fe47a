/- Lists of lists of numbers of a call's own: how they compare, the laws' marks on them and the look whether they hold. No conditions. -/
import Derived.Test.YtinojlbnmnlmhaaToI
import Derived.Deep.RegionWith
namespace Go.Proofs.Ytinojlbnmnlmhaa
open Go.RowKit

theorem RowI.down {B B' : Nat} {w : World} {v : Value} {ts : List Int} (h : RowI B w v ts) (hb : B' ≤ B) : RowI B' w v ts :=
  ⟨h.1, h.2.imp id fun ⟨g, c, cur, a1, a2, a3⟩ => ⟨g, c, cur, a1, Nat.le_trans hb a2, a3⟩⟩
def MarkedRI (s0 B : Nat) (v : Value) (n : Nat) (w : World) (e : Ending) (w' : World) : Prop := e = .returned (.int .i64 ((s0 : Int) + (n : Int))) ∧ RowI B w' v (marks (s0 : Int) n) ∧ w.grownBy w' v.ownBlock

set_option maxHeartbeats 1000000 in
theorem heldRI_any (s0 : Nat) (v : Value) (n : Nat) (B : Nat) (w : World) (h : RowI B w v (marks (s0 : Int) n)) (hn : n ≤ 1048576) (hs1 : 1 ≤ s0) (hs2 : s0 ≤ 1048576) : Calls Try.prog 39 #[v, .int .i64 (s0 : Int)] w fun e w' => e = .returned (.int .i64 ((s0 : Int) + (n : Int))) ∧ w = w' := by
  have HV := Lib.hid h
  have HL := Lib.hid (marks_len (s0 : Int) n)
  obtain ⟨a, cap, hv⟩ := h.shape
  rw [hv] at HV ⊢
  clear hv h v
  have hlen : (marks (s0 : Int) n).length ≤ 1048576 := by rw [HL.out]; exact hn
  obtain ⟨L, hL⟩ : ∃ L, L = (marks (s0 : Int) n).length := ⟨_, rfl⟩
  have HLL := Lib.hid hL
  rw [← hL] at hlen ⊢
  clear hL
  go_enter Try.func39, Try.ntmps39
  go_wp2
  go_loop [1, 5] (fun q i => ∃ k : Nat, k ≤ L ∧ i = .int .i64 k ∧ q = .int .i64 ((s0 : Int) + (k : Int))) (fun _ i => L - (intOf i).toNat)
  case atStart => exact ⟨0, Nat.zero_le _, rfl, rfl⟩
  case round =>
    obtain ⟨k, hk, rfl, rfl⟩ := hrel
    by_cases hlt : k < L
    · obtain ⟨g, ha, _, _, e1, _⟩ := HV.out.at k (by rw [← HLL.out]; exact hlt)
      rw [marks_at] at e1
      rw [ha]
      clear ha
      go_wp2
      go_round
      case rel => exact ⟨k + 1, by omega, by go_num, by go_num⟩
      case measure => simp [intOf]; omega
    · have hkn : k = n := by have := HLL.out; have := HL.out; omega
      have HK := Lib.hid hkn
      clear hkn
      go_wp2
      go_ret
      exact ⟨by rw [HK.out]; rfl, rfl⟩

set_option maxHeartbeats 1000000 in
theorem markRI_any (s0 : Nat) (v : Value) (zs : List Int) (B : Nat) (w : World) (h : RowI B w v zs) (hn : zs.length ≤ 1048576) (hs1 : 1 ≤ s0) (hs2 : s0 ≤ 1048576) : Calls Try.prog 38 #[v, .int .i64 (s0 : Int)] w (MarkedRI s0 B v zs.length w) := by
  have HV := Lib.hid h
  obtain ⟨a, cap, hv⟩ := h.shape
  rw [hv] at HV ⊢
  clear hv h v
  obtain ⟨L, hL⟩ : ∃ L, L = zs.length := ⟨_, rfl⟩
  have HLL := Lib.hid hL
  rw [← hL] at hn ⊢
  clear hL
  have HG0 := Lib.hid (show w.grownBy w (Value.ownBlock (.slice a L cap)) from ⟨rfl, rfl, rfl, Nat.le_refl _, fun _ _ _ => rfl⟩)
  go_enter Try.func38, Try.ntmps38
  go_wp2
  go_loopw [1, 5] (fun q i wr => ∃ k : Nat, k ≤ L ∧ i = .int .i64 k ∧ q = .int .i64 ((s0 : Int) + (k : Int)) ∧ ∃ ys : List Int, ys.length = L ∧ wr.ownsRow B 3 1 (.slice a L cap) L (ys.map (Value.int .i64)) ∧ (∀ j (hj : j < ys.length), j < k → ys[j] = (s0 : Int) + (j : Int)) ∧ w.grownBy wr (Value.ownBlock (.slice a L cap))) (fun _ i _ => L - (intOf i).toNat)
  case atStart => exact ⟨0, Nat.zero_le _, rfl, rfl, zs, HLL.out.symm, HLL.out ▸ HV.out, fun j _ h => absurd h (by omega), HG0.out⟩
  case round =>
    obtain ⟨k, hk, rfl, rfl, ys, hys, hown, hxs, hgr⟩ := hrel
    have HO := Lib.hid hown
    have HX := Lib.hid hxs
    have HG := Lib.hid hgr
    have HY := Lib.hid hys
    clear hown hxs hgr hys
    by_cases hlt : k < L
    · rcases HO.out.2 with ⟨_, hn0⟩ | ⟨g, cap', cur, e, hb, hg, _⟩
      · omega
      injection e with e1 e2 e3
      have hO2 : wr.ownsRow B 3 1 (.slice (some ⟨g, 0, none⟩) L cap) L (ys.map (Value.int .i64)) := e1 ▸ HO.out
      have HO2 := Lib.hid hO2
      have hc := (hO2.cellAt k (by omega)).trans (show (ys.map (Value.int .i64))[k]? = some (.int .i64 (ys[k]'(by rw [HY.out]; exact hlt))) by simp [HY.out, hlt])
      have hf := hO2.frozenAt k
      rw [e1]
      clear hO2 hb hg
      go_wp2
      go_roundw
      case rel =>
        refine ⟨k + 1, by omega, by go_num, by go_num, ys.set k ((s0 : Int) + (k : Int)), by rw [List.length_set]; exact HY.out, ?_, ?_, ?_⟩
        · have := (HO2.out.stored k (.int .i64 ((s0 : Int) + (k : Int)))).1
          rw [List.map_set]
          exact this
        · intro j hj hjk
          by_cases e : j = k
          · subst e; simp
          · rw [List.getElem_set_ne (by omega)]
            exact HX.out j (by simpa using hj) (by omega)
        · have h1 := HG.out
          rw [e1] at h1
          refine ⟨h1.os, h1.tape, h1.output, by simpa using h1.size, fun i hi hne => ?_⟩
          rw [Below.heap_setCell _ _ _ _ (by intro h; exact hne (by rw [h]; rfl))]
          exact h1.block i hi hne
      case measure => simp [intOf]; omega
    · obtain rfl : k = L := by omega
      have hys : ys = marks (s0 : Int) k := by
        apply List.ext_getElem
        · rw [marks_len]; exact HY.out
        · intro j h1 h2
          rw [marks_at]; exact HX.out j h1 (by have := HY.out; omega)
      have HR := Lib.hid (show RowI B wr (.slice a k cap) (marks (s0 : Int) k) from by unfold RowI; rw [marks_len, ← hys]; exact HO.out)
      clear hys
      go_wp2
      go_ret
      exact ⟨rfl, HR.out, HG.out⟩

/-! ### Lists of lists -/
/-- v is a list of the call's own of n lists U i with texts T i, no two in one block. -/
def RowF (B : Nat) (w : World) (v : Value) (n : Nat) (U : Nat → Value) (T : Nat → List Int) : Prop :=
  w.ownsRow B 42 1 v n ((List.range n).map U) ∧ (∀ i, i < n → RowI B w (U i) (T i)) ∧ ∀ i j, i < n → j < n → ¬ i = j → (U i).ownBlock = none ∨ (U i).ownBlock ≠ (U j).ownBlock
theorem RowF.ext {B : Nat} {w w' : World} {v : Value} {n : Nat} {U : Nat → Value} {T : Nat → List Int} (h : RowF B w v n U T) (hx : Ext w w') : RowF B w' v n U T :=
  ⟨row_ext h.1 hx, fun i hi => (h.2.1 i hi).ext hx, h.2.2⟩
theorem RowF.nil (B : Nat) (w : World) (U : Nat → Value) (T : Nat → List Int) : RowF B w (.slice none 0 0) 0 U T :=
  ⟨World.ownsRow_nil _ _ _ _, fun i hi => absurd hi (by omega), fun i j hi => absurd hi (by omega)⟩
theorem RowF.down {B B' : Nat} {w : World} {v : Value} {n : Nat} {U : Nat → Value} {T : Nat → List Int} (h : RowF B w v n U T) (hb : B' ≤ B) : RowF B' w v n U T :=
  ⟨⟨h.1.1, h.1.2.imp id fun ⟨g, c, cur, a1, a2, a3⟩ => ⟨g, c, cur, a1, Nat.le_trans hb a2, a3⟩⟩, fun i hi => (h.2.1 i hi).down hb, h.2.2⟩
theorem RowF.congr {B : Nat} {w : World} {v : Value} {n : Nat} {U : Nat → Value} {T T' : Nat → List Int} (h : RowF B w v n U T) (he : ∀ i, i < n → T i = T' i) : RowF B w v n U T' :=
  ⟨h.1, fun i hi => he i hi ▸ h.2.1 i hi, h.2.2⟩
theorem RowF.shape {B : Nat} {w : World} {v : Value} {n : Nat} {U : Nat → Value} {T : Nat → List Int} (h : RowF B w v n U T) : ∃ a cap, v = .slice a n cap := by
  rcases h.1.2 with ⟨rfl, hn⟩ | ⟨g, cap, cur, rfl, _⟩
  · exact ⟨none, 0, by rw [hn]⟩
  · exact ⟨_, _, rfl⟩
theorem range_at (U : Nat → Value) (n j : Nat) (h : j < n) : ((List.range n).map U)[j]? = some (U j) := by
  rw [List.getElem?_map, List.getElem?_range h]; rfl
theorem RowF.at {B : Nat} {w : World} {a : Option Addr} {cap : Nat} {n : Nat} {U : Nat → Value} {T : Nat → List Int} (h : RowF B w (.slice a n cap) n U T) (j : Nat) (hj : j < n) : ∃ g, a = some ⟨g, 0, none⟩ ∧ B ≤ g ∧ g < w.heap.size ∧ w.cell? ⟨g, j, none⟩ = some (U j) := by
  have hh := h.1
  rcases h.1.2 with ⟨_, hn⟩ | ⟨g, cap', cur, e, hb, hg, _⟩
  · omega
  · injection e with e1 e2 e3
    subst e1; subst e3
    exact ⟨g, rfl, hb, heapLt hg, (World.ownsRow.cellAt hh j (by omega)).trans (range_at U n j hj)⟩
/-- The outer list's block is none of the inner ones. -/
theorem RowF.outer {B : Nat} {w : World} {v : Value} {n : Nat} {U : Nat → Value} {T : Nat → List Int} (h : RowF B w v n U T) (j : Nat) (hj : j < n) : v.ownBlock = none ∨ v.ownBlock ≠ (U j).ownBlock := by
  rcases h.1.2 with ⟨rfl, _⟩ | ⟨g, cap, cur, rfl, _, hg, _⟩
  · exact .inl rfl
  · refine .inr fun e => ?_
    rcases (h.2.1 j hj).2 with ⟨h0, _⟩ | ⟨g2, cap2, cur2, h0, _, hg2, _⟩
    · rw [h0] at e; cases e
    · rw [h0] at e
      have e : g = g2 := by injection e
      subst e
      rw [hg] at hg2
      injection hg2 with hg2
      injection hg2 with _ h2
      exact absurd h2 (by decide)
theorem RowF.own_le {B : Nat} {w : World} {v : Value} {n : Nat} {U : Nat → Value} {T : Nat → List Int} (h : RowF B w v n U T) (j : Nat) (hj : v.ownBlock = some j) : B ≤ j := (World.ownsRow.lt h.1 j hj).1
/-- All is as it was but what n lists hold. -/
def GrownF (w w' : World) (n : Nat) (U : Nat → Value) : Prop := w'.os = w.os ∧ w'.tape = w.tape ∧ w'.output = w.output ∧ w.heap.size ≤ w'.heap.size ∧ ∀ j, j < w.heap.size → (∀ i, i < n → ¬ (U i).ownBlock = some j) → w'.heap[j]? = w.heap[j]?
theorem GrownF.refl (w : World) (n : Nat) (U : Nat → Value) : GrownF w w n U := ⟨rfl, rfl, rfl, Nat.le_refl _, fun _ _ _ => rfl⟩
theorem GrownF.next {w w1 w2 : World} {n k : Nat} {U : Nat → Value} (h : GrownF w w1 n U) (hg : w1.grownBy w2 (U k).ownBlock) (hk : k < n) : GrownF w w2 n U :=
  ⟨hg.os.trans h.1, hg.tape.trans h.2.1, hg.output.trans h.2.2.1, Nat.le_trans h.2.2.2.1 hg.size, fun j hj hne => (hg.block j (Nat.lt_of_lt_of_le hj h.2.2.2.1) (fun e => hne k hk e.symm)).trans (h.2.2.2.2 j hj hne)⟩
theorem GrownF.ext {w0 w w' : World} {n : Nat} {U : Nat → Value} (h : GrownF w w' n U) (hx : Ext w0 w) (hb : ∀ i, i < n → ∀ j, (U i).ownBlock = some j → w0.heap.size ≤ j) : Ext w0 w' :=
  ⟨h.1.trans hx.os, h.2.1.trans hx.tape, h.2.2.1.trans hx.output, Nat.le_trans hx.size h.2.2.2.1, fun j hj => (h.2.2.2.2 j (Nat.lt_of_lt_of_le hj hx.size) (fun i hi e => absurd (hb i hi j e) (by omega))).trans (hx.block j hj)⟩
/-- A row that owns none of these lists is as it was. -/
theorem row_keptF {w w' : World} {n m : Nat} {U : Nat → Value} {B : Nat} {e : TypeId} {v : Value} {xs : List Value} (h : w.ownsRow B e 1 v m xs) (hg : GrownF w w' n U) (hne : ∀ i, i < n → v.ownBlock = none ∨ v.ownBlock ≠ (U i).ownBlock) : w'.ownsRow B e 1 v m xs := by
  refine ⟨h.1, h.2.imp id fun ⟨g, c, cur, a1, a2, a3, a4⟩ => ⟨g, c, cur, a1, a2, ?_, a4⟩⟩
  subst a1
  refine (hg.2.2.2.2 g (heapLt a3) fun i hi e => ?_).trans a3
  rcases hne i hi with h0 | h0
  · cases h0
  · exact h0 e.symm
theorem RowF.keptF {wa w w' : World} {n m : Nat} {U U' : Nat → Value} {B : Nat} {v : Value} {T : Nat → List Int} (h0 : RowF B wa v n U T) (h : RowF B w v n U T) (hg : GrownF w w' m U') (hb : ∀ i, i < m → ∀ j, (U' i).ownBlock = some j → wa.heap.size ≤ j) : RowF B w' v n U T := by
  have key : ∀ (u : Value) (b : Nat), u.ownBlock = some b → b < wa.heap.size → ∀ i, i < m → u.ownBlock = none ∨ u.ownBlock ≠ (U' i).ownBlock := fun u b hu hlt i hi => .inr fun e => by
    have := hb i hi b (by rw [← e, hu])
    omega
  refine ⟨row_keptF h.1 hg fun i hi => ?_, fun k hk => ?_, h.2.2⟩
  · cases ho : v.ownBlock with
    | none => exact .inl rfl
    | some b => rw [← ho]; exact key v b ho (World.ownsRow.lt h0.1 b ho).2 i hi
  · refine row_keptF (h.2.1 k hk) hg fun i hi => ?_
    cases ho : (U k).ownBlock with
    | none => exact .inl rfl
    | some b => rw [← ho]; exact key (U k) b ho (World.ownsRow.lt (h0.2.1 k hk) b ho).2 i hi
theorem RowF.kept {w w' : World} {n : Nat} {U : Nat → Value} {B g : Nat} {v : Value} {T : Nat → List Int} {wa : World} (h0 : RowF B wa v n U T) (h : RowF B w v n U T) (hg : w.grownBy w' (some g)) (hb : g < B ∨ wa.heap.size ≤ g) : RowF B w' v n U T := by
  have key : ∀ (u : Value), (∀ b, u.ownBlock = some b → B ≤ b ∧ b < wa.heap.size) → u.ownBlock = none ∨ u.ownBlock ≠ some g := fun u hu => by
    cases ho : u.ownBlock with
    | none => exact .inl rfl
    | some b => exact .inr fun e => by injection e with e; have := hu b ho; omega
  exact ⟨World.ownsRow.kept h.1 hg (key v fun b hb => World.ownsRow.lt h0.1 b hb), fun k hk => (h.2.1 k hk).kept hg (key _ fun b hb => World.ownsRow.lt (h0.2.1 k hk) b hb), h.2.2⟩

theorem RowF.snoc {B : Nat} {w : World} {v u : Value} {n : Nat} {U : Nat → Value} {T : Nat → List Int} {l : List Int} (ho : w.ownsRow B 42 1 v (n + 1) ((List.range n).map U ++ [u])) (hi : ∀ i, i < n → RowI B w (U i) (T i)) (hu : RowI B w u l) (hd : ∀ i j, i < n → j < n → ¬ i = j → (U i).ownBlock = none ∨ (U i).ownBlock ≠ (U j).ownBlock) (hn : ∀ i, i < n → (U i).ownBlock = none ∨ (U i).ownBlock ≠ u.ownBlock) :
    RowF B w v (n + 1) (fun i => if i = n then u else U i) (fun i => if i = n then l else T i) := by
  refine ⟨?_, fun i hi2 => ?_, fun i j hi2 hj2 hne => ?_⟩
  · have e : (List.range (n + 1)).map (fun i => if i = n then u else U i) = (List.range n).map U ++ [u] := by
      rw [List.range_succ, List.map_append]
      congr 1
      · refine List.map_congr_left fun i hi => ?_
        rw [if_neg (by have := List.mem_range.1 hi; omega)]
      · simp
    rw [e]
    exact ho
  · by_cases e : i = n
    · simp only [if_pos e]; exact hu
    · simp only [if_neg e]; exact hi i (by omega)
  · by_cases e : i = n
    · have e2 : ¬ j = n := by omega
      simp only [if_pos e, if_neg e2]
      rcases hn j (by omega) with h0 | h0
      · rw [h0]
        cases hu' : u.ownBlock with
        | none => exact .inl rfl
        | some b => exact .inr (by intro e; cases e)
      · exact .inr fun e => h0 e.symm
    · simp only [if_neg e]
      by_cases e2 : j = n
      · simp only [if_pos e2]; exact hn i (by omega)
      · simp only [if_neg e2]; exact hd i j (by omega) (by omega) hne

/-- How many texts the first so many lists have. -/
def tot (T : Nat → List Int) : Nat → Nat
  | 0 => 0
  | k + 1 => tot T k + (T k).length
theorem tot_le (T : Nat → List Int) {a b : Nat} (h : a ≤ b) : tot T a ≤ tot T b := by
  induction b with
  | zero => rw [show a = 0 by omega]; exact Nat.le_refl _
  | succ b ih =>
    by_cases e : a = b + 1
    · rw [e]; exact Nat.le_refl _
    · exact Nat.le_trans (ih (by omega)) (by rw [tot]; exact Nat.le_add_right _ _)
/-- The marks on the i-th list. -/
def mkF (T : Nat → List Int) (i : Nat) : List Int := marks ((1 + tot T i : Nat) : Int) (T i).length
theorem tot_mk (T : Nat → List Int) : ∀ k, tot (mkF T) k = tot T k
  | 0 => rfl
  | k + 1 => by rw [tot, tot, tot_mk T k]; unfold mkF; rw [marks_len]

set_option maxHeartbeats 2000000 in
theorem eqF_any (v u : Value) (n : Nat) (U U' : Nat → Value) (T : Nat → List Int) (B B' : Nat) (w : World) (h : RowF B w v n U T) (h2 : RowF B' w u n U' T) (hn : n ≤ 1048576) (hl : ∀ i, i < n → (T i).length ≤ 1048576) : Calls Try.prog 26 #[v, u] w fun e w' => e = .returned (.bool true) ∧ Ext w w' := by
  have HV := Lib.hid h
  have HU := Lib.hid h2
  have HL := Lib.hid hl
  obtain ⟨a, cap, hv⟩ := h.shape
  obtain ⟨a2, cap2, hu⟩ := h2.shape
  rw [hv] at HV ⊢
  rw [hu] at HU ⊢
  clear hv hu h h2 u v hl
  go_enter Try.func26, Try.ntmps26
  go_wp2
  go_loopw [5] (fun i wr => ∃ k : Nat, k ≤ n ∧ i = .int .i64 k ∧ Ext w wr) (fun i _ => n - (intOf i).toNat)
  case atStart => exact ⟨0, Nat.zero_le _, rfl, Ext.refl _⟩
  case round =>
    obtain ⟨k, hk, rfl, hx⟩ := hrel
    by_cases hlt : k < n
    · have hA := HV.out.ext hx
      have hB := HU.out.ext hx
      obtain ⟨g1, rfl, _, _, e1⟩ := hA.at k hlt
      obtain ⟨g2, rfl, _, _, e2⟩ := hB.at k hlt
      have S1 := Lib.hid (hA.2.1 k hlt)
      have S2 := Lib.hid (hB.2.1 k hlt)
      have b1 : (k : Int) < (n : Int) := by omega
      clear hA hB
      go_wp2
      go_region_with (go_at_call 37; refine (eqI_any _ _ _ _ _ _ (S1.out.ext (ext_drewN (Ext.refl _) 1)) (S2.out.ext (ext_drewN (Ext.refl _) 1)) (HL.out k hlt)).mono ?_; rintro e w9 ⟨rfl, x9⟩)
      all_goals go_wp2
      all_goals exact ⟨⟨k + 1, by omega, by go_num, (ext_drewN hx 1).trans x9⟩, by simp [intOf]; omega⟩
    · go_wp2
      go_ret
      exact ⟨rfl, hx⟩

def midF (T : Nat → List Int) (k i : Nat) : List Int := if i < k then mkF T i else T i
theorem midF_lt {T : Nat → List Int} {k i : Nat} (h : i < k) : midF T k i = mkF T i := if_pos h
theorem midF_ge {T : Nat → List Int} {k i : Nat} (h : ¬ i < k) : midF T k i = T i := if_neg h
/-- What marking a list of lists leaves. -/
def MarkedSS (B : Nat) (v : Value) (n : Nat) (U : Nat → Value) (T : Nat → List Int) (w : World) (e : Ending) (w' : World) : Prop := e = .returned (.int .i64 (1 + (tot T n : Int))) ∧ RowF B w' v n U (mkF T) ∧ GrownF w w' n U

set_option maxHeartbeats 2000000 in
theorem markF_any (v : Value) (n : Nat) (U : Nat → Value) (T : Nat → List Int) (B : Nat) (w : World) (h : RowF B w v n U T) (hn : n ≤ 1048576) (ht : tot T n ≤ 1000000) : Calls Try.prog 27 #[v, .int .i64 1] w (MarkedSS B v n U T w) := by
  have HV := Lib.hid h
  have HD := Lib.hid h.2.2
  obtain ⟨a, cap, hv⟩ := h.shape
  rw [hv] at HV ⊢
  clear hv h v
  have HTL := Lib.hid (fun k (hk : k < n) => (tot_le T (show k + 1 ≤ n from hk) : tot T (k + 1) ≤ tot T n))
  go_enter Try.func27, Try.ntmps27
  go_wp2
  go_loopw [1, 5] (fun q i wr => ∃ k : Nat, k ≤ n ∧ i = .int .i64 k ∧ q = .int .i64 (1 + (tot T k : Int)) ∧ RowF B wr (.slice a n cap) n U (midF T k) ∧ GrownF w wr n U) (fun _ i _ => n - (intOf i).toNat)
  case atStart => exact ⟨0, Nat.zero_le _, rfl, rfl, HV.out.congr (fun i _ => (midF_ge (by omega)).symm), GrownF.refl _ _ _⟩
  case round =>
    obtain ⟨k, hk, rfl, rfl, hR, hG⟩ := hrel
    have HR := Lib.hid hR
    have HG := Lib.hid hG
    clear hR hG
    by_cases hlt : k < n
    · obtain ⟨g1, rfl, _, _, e1⟩ := HR.out.at k hlt
      have RK := Lib.hid (show RowI B wr (U k) (T k) from by have := HR.out.2.1 k hlt; rwa [midF_ge (Nat.lt_irrefl k)] at this)
      have b1 : (k : Int) < (n : Int) := by omega
      have HT1 := Lib.hid (show (1 + (tot T k : Int)) = ((1 + tot T k : Nat) : Int) by omega)
      have HT2 := Lib.hid (show ((1 + tot T k : Nat) : Int) + ((T k).length : Int) = 1 + (tot T (k + 1) : Int) by rw [tot]; omega)
      have hb1 := HTL.out k hlt
      have hb2 : tot T k + (T k).length = tot T (k + 1) := rfl
      go_wp2_with (go_at_call 38; rw [HT1.out]; refine (markRI_any (1 + tot T k) _ (T k) B _ RK.out (by omega) (by omega) (by omega)).mono ?_; rintro e w9 ⟨rfl, r9, g9⟩; rw [HT2.out]; have R9 := Lib.hid r9; have G9 := Lib.hid g9; clear r9 g9)
      go_roundw
      case rel =>
        have hG2 := HG.out.next G9.out hlt
        refine ⟨k + 1, by omega, by go_num, rfl, ⟨?_, fun i hi => ?_, HD.out⟩, hG2⟩
        · exact World.ownsRow.kept HR.out.1 G9.out (HR.out.outer k hlt)
        · by_cases e : i = k
          · subst e
            rw [midF_lt (by omega)]
            exact R9.out
          · have := (HR.out.2.1 i hi).kept G9.out (HD.out i k hi hlt e)
            by_cases e2 : i < k
            · rw [midF_lt e2] at this; rw [midF_lt (by omega)]; exact this
            · rw [midF_ge e2] at this; rw [midF_ge (by omega)]; exact this
      case measure => simp [intOf]; omega
    · obtain rfl : k = n := by omega
      go_wp2
      go_ret
      exact ⟨rfl, HR.out.congr (fun i hi => midF_lt hi), HG.out⟩

set_option maxHeartbeats 2000000 in
theorem heldF_any (v : Value) (n : Nat) (U : Nat → Value) (T : Nat → List Int) (B : Nat) (w : World) (h : RowF B w v n U (mkF T)) (hn : n ≤ 1048576) (ht : tot T n ≤ 1000000) : Calls Try.prog 28 #[v, .int .i64 1] w fun e w' => e = .returned (.int .i64 (1 + (tot T n : Int))) ∧ Ext w w' := by
  have HV := Lib.hid h
  obtain ⟨a, cap, hv⟩ := h.shape
  rw [hv] at HV ⊢
  clear hv h v
  have HTL := Lib.hid (fun k (hk : k < n) => (tot_le T (show k + 1 ≤ n from hk) : tot T (k + 1) ≤ tot T n))
  go_enter Try.func28, Try.ntmps28
  go_wp2
  go_loopw [1, 5] (fun q i wr => ∃ k : Nat, k ≤ n ∧ i = .int .i64 k ∧ q = .int .i64 (1 + (tot T k : Int)) ∧ Ext w wr) (fun _ i _ => n - (intOf i).toNat)
  case atStart => exact ⟨0, Nat.zero_le _, rfl, rfl, Ext.refl _⟩
  case round =>
    obtain ⟨k, hk, rfl, rfl, hx⟩ := hrel
    by_cases hlt : k < n
    · have hA := HV.out.ext hx
      obtain ⟨g1, rfl, _, _, e1⟩ := hA.at k hlt
      have RK := Lib.hid (show RowI B wr (U k) (marks ((1 + tot T k : Nat) : Int) (T k).length) from hA.2.1 k hlt)
      clear hA
      have b1 : (k : Int) < (n : Int) := by omega
      have HT1 := Lib.hid (show (1 + (tot T k : Int)) = ((1 + tot T k : Nat) : Int) by omega)
      have hb1 := HTL.out k hlt
      have hb2 : tot T k + (T k).length = tot T (k + 1) := rfl
      obtain ⟨S, hS⟩ : ∃ S, S = 1 + tot T (k + 1) := ⟨_, rfl⟩
      have HT2 := Lib.hid (show ((1 + tot T k : Nat) : Int) + ((T k).length : Int) = (S : Int) by omega)
      have hS0 : ¬ (S : Int) < 0 := by omega
      have HS := Lib.hid hS
      clear hS
      go_wp2_with (go_at_call 39; rw [HT1.out]; refine (heldRI_any (1 + tot T k) _ _ B _ RK.out (by omega) (by omega) (by omega)).mono ?_; rintro e w9 ⟨rfl, rfl⟩; rw [HT2.out])
      go_roundw
      case rel => exact ⟨k + 1, by omega, by go_num, by rw [HS.out]; go_num, hx⟩
      case measure => simp [intOf]; omega
    · obtain rfl : k = n := by omega
      go_wp2
      go_ret
      exact ⟨rfl, hx⟩

def lz (L : List (List Int)) (i : Nat) : List Int := L.getD i []
theorem lz_eq {L : List (List Int)} {i : Nat} (h : i < L.length) : lz L i = L[i] := by unfold lz; rw [List.getD_eq_getElem?_getD, List.getElem?_eq_getElem h]; rfl
theorem lz_snoc (L : List (List Int)) (l : List Int) (i : Nat) (h : i < L.length + 1) : (if i = L.length then l else lz L i) = lz (L ++ [l]) i := by
  unfold lz
  by_cases e : i = L.length
  · rw [if_pos e, e]; simp
  · rw [if_neg e, List.getD_eq_getElem?_getD, List.getD_eq_getElem?_getD, List.getElem?_append_left (by omega)]
theorem tot_bound (T : Nat → List Int) (c : Nat) : ∀ n, (∀ i, i < n → (T i).length ≤ c) → tot T n ≤ c * n
  | 0, _ => Nat.le_refl _
  | n + 1, h => by
    have h1 := tot_bound T c n (fun i hi => h i (by omega))
    have h2 := h n (by omega)
    rw [tot, Nat.mul_add, Nat.mul_one]
    omega

theorem info_li : (Try.prog.info? 42).map (fun i => (i.zero, i.size, i.bytes)) = some (some (.slice none 0 0), 1, 24) := by kernel_rfl
theorem info_parts3 {P : Program} {t : TypeId} {z : Value} {n b : Nat} (h : (P.info? t).map (fun i => (i.zero, i.size, i.bytes)) = some (some z, n, b)) : ∃ i, P.info? t = some i ∧ i.zero = some z ∧ i.size = n ∧ i.bytes = b := by
  cases hi : P.info? t with
  | none => rw [hi] at h; cases h
  | some i =>
    rw [hi] at h
    simp only [Option.map_some, Option.some.injEq, Prod.mk.injEq] at h
    exact ⟨i, rfl, h.1, h.2.1, h.2.2⟩

theorem oneVI {B : Nat} {w : World} {v : Value} {ts : List Int} (h : RowI B w v ts) : v.oneCell' = true := by
  obtain ⟨a, c, rfl⟩ := h.shape
  rfl
/-- A list of lists as a result, in memory of the call's own. -/
def ResII (L : List (List Int)) (ok : Bool) (w : World) (e : Ending) (w' : World) : Prop := ∃ v U, e = .returned (.tuple #[v, .bool ok]) ∧ RowF w.heap.size w' v L.length U (lz L) ∧ Ext w w'
def OneII (L : List (List Int)) (w : World) (e : Ending) (w' : World) : Prop := ∃ v U, e = .returned v ∧ RowF w.heap.size w' v L.length U (lz L) ∧ Ext w w'
/-! ### A list behind the others -/
theorem grow_rowI {B : Nat} {wr w9 w5 : World} {o v5 u : Value} {L : List (List Int)} {L' : List (List Int)} {U : Nat → Value} {l : List Int} {z : Obj} (h : RowF B wr o L.length U (lz L)) (x9 : Ext wr w9) (ha : RowI wr.heap.size w9 u l) (hu : RowI B w9 u l)
    (own5 : w5.ownsRow B 42 1 v5 (L.length + 1) ((List.range L.length).map U ++ [u])) (gr5 : (w9.alloc z).grownBy w5 o.ownBlock) (hL : L' = L ++ [l]) : RowF B w5 v5 L'.length (fun i => if i = L.length then u else U i) (lz L') := by
  subst hL
  have hz : Ext w9 (w9.alloc z) := (Ext.refl _).alloc _
  have hap : ∀ i, i < L.length → (U i).ownBlock = none ∨ (U i).ownBlock ≠ u.ownBlock := fun i hi => (h.2.1 i hi).apart2 ha (Nat.le_refl _)
  have huo : u.ownBlock = none ∨ u.ownBlock ≠ o.ownBlock := by
    rcases h.1.2 with ⟨rfl, _⟩ | ⟨g, cap, cur, rfl, _, hg, _⟩
    · cases hx : u.ownBlock with
      | none => exact .inl rfl
      | some b => exact .inr (by intro e; cases e)
    · exact ha.apart g (.inl (heapLt hg))
  have hs : ∀ i, i < L.length → (U i).ownBlock = none ∨ (U i).ownBlock ≠ o.ownBlock := fun i hi => by
    rcases h.outer i hi with h0 | h0
    · rw [h0]
      cases hx : (U i).ownBlock with
      | none => exact .inl rfl
      | some b => exact .inr (by intro e; cases e)
    · exact .inr fun e => h0 e.symm
  have h5 := RowF.snoc (T := lz L) (l := l) own5 (fun i hi => (((h.2.1 i hi).ext x9).ext hz).kept gr5 (hs i hi)) ((hu.ext hz).kept gr5 huo) h.2.2 hap
  rw [List.length_append]
  exact h5.congr fun i hi => lz_snoc L l i hi
theorem pair_row (w : World) (a b : Int) (n : Nat) (hn : n ≤ w.heap.size) : RowI n (w.alloc (.cells #[.int .i64 a, .int .i64 b] 3)) (.slice (some ⟨w.heap.size, 0, none⟩) 2 2) [a, b] := by
  refine ⟨rfl, .inr ⟨w.heap.size, 2, _, rfl, hn, heap_alloc_new w _, ?_⟩⟩
  exact ⟨by simp, by unfold maxLen; decide, rfl, rfl⟩

theorem cell_two_new (w : World) (A : Obj) (v : Value) (T : TypeId) : ∀ j u, [v][j]? = some u → ((w.alloc A).alloc (.cells #[v] T)).cell? ((⟨w.heap.size + 1, 0, none⟩ : Addr).add j) = some u := by
  intro j u h
  have := cell_one_new (w.alloc A) v T j u h
  rw [show (w.alloc A).heap.size = w.heap.size + 1 by simp] at this
  exact this
theorem oneV2 {v : Value} (h : v.oneCell' = true) : ∀ u ∈ [v], u.oneCell' = true := by intro u hu; rw [List.mem_singleton] at hu; rw [hu]; exact h

end Go.Proofs.Ytinojlbnmnlmhaa
