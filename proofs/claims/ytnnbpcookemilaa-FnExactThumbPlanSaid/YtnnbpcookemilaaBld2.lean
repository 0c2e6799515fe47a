/- strings.Builder, its bytes laid behind other blocks of the call: what its writes leave alone. No conditions. -/
import Derived.Test.YtnnbpcookemilaaBld
namespace Go.Proofs.Ytnnbpcookemilaa
open Go.RowKit

/-- Below R all stands but block b. -/
def But (R b : Nat) (w w' : World) : Prop := w'.os = w.os ∧ w'.tape = w.tape ∧ w'.output = w.output ∧ w.heap.size ≤ w'.heap.size ∧ ∀ k, k < R → k ≠ b → w'.heap[k]? = w.heap[k]?
theorem But.refl (R b : Nat) (w : World) : But R b w w := ⟨rfl, rfl, rfl, Nat.le_refl _, fun _ _ _ => rfl⟩
theorem But.trans {R b : Nat} {u v w : World} (h : But R b u v) (k : But R b v w) : But R b u w :=
  ⟨k.1.trans h.1, k.2.1.trans h.2.1, k.2.2.1.trans h.2.2.1, Nat.le_trans h.2.2.2.1 k.2.2.2.1, fun i h1 h2 => (k.2.2.2.2 i h1 h2).trans (h.2.2.2.2 i h1 h2)⟩
theorem But.size {R b : Nat} {w w' : World} (h : But R b w w') : w.heap.size ≤ w'.heap.size := h.2.2.2.1
theorem But.of {R b : Nat} {w w' : World} (h : Below R w w') : But R b w w' := ⟨h.os, h.tape, h.output, h.size, fun k hk _ => h.block k hk⟩
theorem But.below {R b B : Nat} {w w' : World} (h : But R b w w') (h1 : B ≤ R) (h2 : B ≤ b) : Below B w w' := ⟨h.1, h.2.1, h.2.2.1, h.2.2.2.1, fun k hk => h.2.2.2.2 k (by omega) (by omega)⟩
theorem But.put {R b : Nat} {w w' : World} (h : But R b w w') (j : Nat) (u : Value) : But R b w (w'.setCell ⟨b, j, none⟩ u) :=
  h.trans ⟨rfl, rfl, rfl, by simp [World.setCell], fun k _ hk => Below.heap_setCell _ _ _ _ (by simpa using hk)⟩
theorem But.grown {R b : Nat} {u w w' : World} {row : Option Nat} (h : But R b u w) (hg : w.grownBy w' row) (hR : R ≤ w.heap.size) (hr : ∀ k, row = some k → R ≤ k) : But R b u w' :=
  h.trans ⟨hg.os, hg.tape, hg.output, hg.size, fun k hk _ => hg.block k (by omega) (fun e => by have := hr k e.symm; omega)⟩
theorem But.ps {R b : Nat} {w w' : World} {v : Value} {ps : List Nat} (h : But R b w w') (hv : Ps w v ps) (hR : R = w.heap.size) (hb : v.ownBlock ≠ some b) : Ps w' v ps := by
  refine ⟨hv.1, hv.2.imp id fun ⟨g, off, cap, h1, h2, h3⟩ => ⟨g, off, cap, h1, Nat.lt_of_lt_of_le h2 h.size, fun j hj => ?_⟩⟩
  have hne : g ≠ b := fun e => hb (by rw [h1, e]; rfl)
  exact (World.cell?_of_block (w := w) (a := ⟨g, off + j, none⟩) (h.2.2.2.2 g (by omega) hne)).trans (h3 j hj)

/-- A builder in block b, its bytes from R on. -/
def Bl2 (R b : Nat) (l : List UInt8) (w : World) : Prop := b < R ∧ ∃ p v, (p = .pointer none ∨ p = .pointer (some ⟨b, 0, none⟩)) ∧ w.heap[b]? = some (.cells #[p, v] 81 (0, 0)) ∧ w.ownsRow R 5 1 v l.length (Lib.byteCells l)
theorem Bl2.fresh {w w' : World} (hx : Ext (w.alloc (.cells #[.pointer none, .slice none 0 0] 81)) w') : Bl2 w'.heap.size w.heap.size [] w' := by
  have h0 : w.heap.size < (w.alloc (.cells #[.pointer none, .slice none 0 0] 81)).heap.size := by simp [go_sem]
  refine ⟨Nat.lt_of_lt_of_le h0 hx.size, .pointer none, .slice none 0 0, .inl rfl, ?_, World.ownsRow_nil _ _ _ _⟩
  rw [hx.block _ h0]
  exact heap_alloc_new w _
theorem Bl2.ext {R b : Nat} {l : List UInt8} {w w' : World} (h : Bl2 R b l w) (hx : Ext w w') : Bl2 R b l w' := by
  obtain ⟨h1, p, v, h2, h3, h4⟩ := h
  exact ⟨h1, p, v, h2, (hx.block b (heapLt h3)).trans h3, row_ext h4 hx⟩
theorem But.ext {R b : Nat} {w w' : World} (hx : Ext w w') (hR : R ≤ w.heap.size) : But R b w w' := But.of (hx.mono hR)

set_option maxRecDepth 100000 in
set_option maxHeartbeats 2000000 in
theorem write2_any (R b : Nat) (l : List UInt8) (s : ByteArray) (w : World) (h : Bl2 R b l w) (hlen : l.length + s.size ≤ 1000000) (hR : R ≤ w.heap.size) : Calls Try.prog 66 #[.pointer (some ⟨b, 0, none⟩), .string s] w fun e w' => e = .returned (.tuple #[.int .i64 s.size, .nilIface]) ∧ Bl2 R b (l ++ s.data.toList) w' ∧ But R b w w' := by
  obtain ⟨i0, hi, hz0, hz1, hz2⟩ := info_parts info_byteP
  have HI := Lib.hid (show Try.prog.info? 5 = some i0 ∧ i0.zero = some (.int .u8 0) ∧ i0.size = 1 ∧ i0.bytes = 1 from ⟨hi, hz0, hz1, hz2⟩)
  clear hi hz0 hz1 hz2
  have HL := Lib.hid (Lib.byteCells_length l)
  obtain ⟨hbR, p, v, hp, hbk, hown⟩ := h
  have hcc : Calls Try.prog 84 #[.pointer (some ⟨b, 0, none⟩)] w fun e w' => e = .returned (.tuple #[]) ∧ w'.heap[b]? = some (.cells #[.pointer (some ⟨b, 0, none⟩), v] 81 (0, 0)) ∧ w'.ownsRow R 5 1 v l.length (Lib.byteCells l) ∧ But R b w w' := by
    have hs : w.shape? b = some (81, 2) := by simp [World.shape?, hbk]
    have hne : v.ownBlock ≠ some b := by
      intro e
      have := (hown.lt b e).1
      omega
    rcases hp with rfl | rfl
    · refine (ccNew_any b w (by rw [Lib.cell_of_heap hbk]; rfl) hs (Lib.frozen_of_heap hbk 0)).mono ?_
      rintro e w' ⟨rfl, rfl⟩
      refine ⟨rfl, ?_, ?_, (But.refl R b w).put 0 _⟩
      · simp [World.setCell, Array.getElem?_modify, hbk]
      · exact hown.kept (row := some b) ⟨rfl, rfl, rfl, by simp [World.setCell], fun k _ hk => Below.heap_setCell _ _ _ _ (by intro e; exact hk (by rw [e]))⟩ (.inr hne)
    · refine (ccUsed_any b w (by rw [Lib.cell_of_heap hbk]; rfl)).mono ?_
      rintro e w' ⟨rfl, rfl⟩
      exact ⟨rfl, hbk, hown, But.refl R b w⟩
  go_enter Try.func66, Try.ntmps66
  go_wp2_with fail
  refine hcc.mono ?_
  clear hbk hown hcc hp
  rintro e w1 ⟨rfl, hbk, hown, hb1⟩
  have hne : v.ownBlock ≠ some b := by
    intro e
    have := (hown.lt b e).1
    omega
  have c1 : w1.cell? ⟨b, 1, none⟩ = some v := by rw [Lib.cell_of_heap hbk]; rfl
  go_wp2_with (at_builtin; refine Lib.wpList_append_own_string _ rfl _ _ 73 9 rfl R 5 i0 Try.underlying73 Try.underlying9 HI.out.1 HI.out.2.1 HI.out.2.2.1 HI.out.2.2.2 _ _ _ rfl hown s rfl ?c3 ?c4 ?c5 ?_)
  case c3 => unfold maxLen; omega
  case c4 => omega
  case c5 => have := hb1.size; omega
  intro v' w2 hown' hgrow _
  have hlt : b < w1.heap.size := heapLt hbk
  have hb2 : w2.heap[b]? = some (.cells #[.pointer (some ⟨b, 0, none⟩), v] 81 (0, 0)) := by
    rw [hgrow.block b hlt (fun e => hne e.symm)]
    exact hbk
  have d0 : w2.cell? ⟨b, 0, none⟩ = some (.pointer (some ⟨b, 0, none⟩)) := by rw [Lib.cell_of_heap hb2]; rfl
  have d1 : w2.cell? ⟨b, 1, none⟩ = some v := by rw [Lib.cell_of_heap hb2]; rfl
  have f1 : w2.frozen? ⟨b, 1, none⟩ = false := Lib.frozen_of_heap hb2 1
  have HB := Lib.hid (show But R b w (w2.setCell ⟨b, 1, none⟩ v') from (hb1.grown hgrow (by have := hb1.size; omega) (fun k hk => (hown.lt k hk).1)).put 1 _)
  have HB2 := Lib.hid (show Bl2 R b (l ++ s.data.toList) (w2.setCell ⟨b, 1, none⟩ v') by
    have hlen2 : (l ++ s.data.toList).length = l.length + s.size := by rw [List.length_append]; simp
    refine ⟨hbR, _, v', .inr rfl, by simp [World.setCell, Array.getElem?_modify, hb2], ?_⟩
    rw [hlen2, Lib.byteCells_append, ← Lib.strCells_eq]
    refine hown'.kept (row := some b) ⟨rfl, rfl, rfl, by simp [World.setCell], fun k _ hk => Below.heap_setCell _ _ _ _ (by intro e; exact hk (by rw [e]))⟩ (.inr ?_)
    intro e
    have := (hown'.lt b e).1
    omega)
  have hsh : ∃ ao n' cap, v' = .slice ao n' cap := by
    rcases hown'.2 with ⟨hv, _⟩ | ⟨g, cap, cur, hv, _⟩
    · exact ⟨_, _, _, hv⟩
    · exact ⟨_, _, _, hv⟩
  obtain ⟨ao, n', cap, rfl⟩ := hsh
  clear hown' hgrow hown hbk hb2
  go_wp2
  go_ret2
  exact ⟨rfl, HB2.out, HB.out⟩

theorem string2_any (R b : Nat) (l : List UInt8) (w : World) (h : Bl2 R b l w) (hR : R ≤ w.heap.size) : Calls Try.prog 70 #[.pointer (some ⟨b, 0, none⟩)] w fun e w' => e = .returned (.string ⟨l.toArray⟩) ∧ Below b w w' := by
  obtain ⟨hbR, p, v, hp, hbk, hown⟩ := h
  have hne : v.ownBlock ≠ some b := by
    intro e
    have := (hown.lt b e).1
    omega
  have hd : w.ownsRow b 5 1 v (Lib.byteCells l).length (Lib.byteCells l) := by
    rw [Lib.byteCells_length]
    exact ⟨hown.1, hown.2.imp id fun ⟨g, c, cur, a1, a2, a3⟩ => ⟨g, c, cur, a1, by omega, a3⟩⟩
  refine string_any b b l w ?_ (by omega)
  rcases hp with rfl | rfl
  · exact .inl ⟨Nat.le_refl _, v, hbk, hd, hne⟩
  · exact .inr ⟨Nat.le_refl _, v, hbk, hd, hne⟩
end Go.Proofs.Ytnnbpcookemilaa
