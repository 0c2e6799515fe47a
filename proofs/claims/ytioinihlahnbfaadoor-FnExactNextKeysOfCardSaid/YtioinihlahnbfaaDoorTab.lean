/- What the row's list says of the pad's table: its sixteen cells. And a world that holds it, for the witness. -/
import Derived.Test.YtioinihlahnbfaaDoorRows
import Derived.Test.YtioinihlahnbfaaDoorLaw
import Derived.Lib.LaidTab
namespace Go.Proofs.YtioinihlahnbfaaDoor
open Go.ChangeShapes Go.WideShapes Go.ChangeAt Go.RowKit

theorem gPad : Tryd.prog.globalNamed "loop.example/g01350/impl.padKeys" = some 0 := by kernel_rfl
theorem gPadType : (Tryd.prog.globals[0]?).map (·.type) = some 101 := by kernel_rfl
theorem cellsPad : Tryd.prog.cellsOf 101 = 16 := by kernel_rfl
theorem cellsKey : Tryd.prog.cellsOf 70 = 2 := by kernel_rfl
theorem cellsU8 : Tryd.prog.cellsOf 5 = 1 := by kernel_rfl
theorem cellsStr : Tryd.prog.cellsOf 9 = 1 := by kernel_rfl

/-- One key of the table, read. -/
theorem pad1 {H : Type} {enc : TypeId × Value → H} {W : World} {sp : Nat → Bool} {hd : Bool} {m : Nat} {a b : Value} {x : DataW H × List MemPlace} {d : Int} {l : List UInt8}
    (h : DataW.trod enc Tryd.prog W 0 sp hd m 70 [a, b] = some x) (e : x.1 = .agg [.lit (.int .u8 d), .lit (.string l)]) : a = .int .u8 d ∧ b = .string ⟨l.toArray⟩ := by
  obtain ⟨y0, y1, n, rfl, _, h0, h1⟩ := trod_struct2 Tryd.underlying70 h
  simp only [cellsU8, cellsStr] at h0 h1
  obtain ⟨z, hz, rfl, _⟩ := DataW.trod_int Tryd.underlying5 h0
  obtain ⟨s, hs, rfl, _⟩ := DataW.trod_string Tryd.underlying9 h1
  simp at hz hs e
  subst hz; subst hs
  obtain ⟨rfl, rfl⟩ := e
  exact ⟨rfl, rfl⟩

theorem padCells_of {H : Type} {enc : TypeId × Value → H} {W : World} {sp : Nat → Bool} {hd : Bool} {fuel : Nat} {cs : List Value} {p : List MemPlace}
    (h : DataW.trod enc Tryd.prog W 0 sp hd fuel 101 cs = some (Rows.laid_loop_example_g01350_impl_padKeys, p)) : cs = padCells.toList := by
  obtain ⟨xs, m, _, hx, hlen, hn, hel⟩ := DataW.trod_array Tryd.underlying101 h
  rw [cellsPad] at hlen
  simp only [cellsKey] at hel
  match cs, hlen, xs, hn, hx, hel with
  | [c0, c1, c2, c3, c4, c5, c6, c7, c8, c9, c10, c11, c12, c13, c14, c15], _, [x0, x1, x2, x3, x4, x5, x6, x7], _, hx, hel =>
    simp only [Rows.laid_loop_example_g01350_impl_padKeys, Prod.mk.injEq, DataW.agg.injEq, List.map_cons, List.map_nil, List.cons.injEq] at hx
    obtain ⟨⟨e0, e1, e2, e3, e4, e5, e6, e7, _⟩, _⟩ := hx
    obtain ⟨rfl, rfl⟩ := pad1 (show DataW.trod enc Tryd.prog W 0 sp hd m 70 [c0, c1] = some x0 from hel 0 (by decide)) e0.symm
    obtain ⟨rfl, rfl⟩ := pad1 (show DataW.trod enc Tryd.prog W 0 sp hd m 70 [c2, c3] = some x1 from hel 1 (by decide)) e1.symm
    obtain ⟨rfl, rfl⟩ := pad1 (show DataW.trod enc Tryd.prog W 0 sp hd m 70 [c4, c5] = some x2 from hel 2 (by decide)) e2.symm
    obtain ⟨rfl, rfl⟩ := pad1 (show DataW.trod enc Tryd.prog W 0 sp hd m 70 [c6, c7] = some x3 from hel 3 (by decide)) e3.symm
    obtain ⟨rfl, rfl⟩ := pad1 (show DataW.trod enc Tryd.prog W 0 sp hd m 70 [c8, c9] = some x4 from hel 4 (by decide)) e4.symm
    obtain ⟨rfl, rfl⟩ := pad1 (show DataW.trod enc Tryd.prog W 0 sp hd m 70 [c10, c11] = some x5 from hel 5 (by decide)) e5.symm
    obtain ⟨rfl, rfl⟩ := pad1 (show DataW.trod enc Tryd.prog W 0 sp hd m 70 [c12, c13] = some x6 from hel 6 (by decide)) e6.symm
    obtain ⟨rfl, rfl⟩ := pad1 (show DataW.trod enc Tryd.prog W 0 sp hd m 70 [c14, c15] = some x7 from hel 7 (by decide)) e7.symm
    rfl

theorem heap_of_var {P : Program} {w : World} {n : String} {g : Nat} {cs : Array Value} (hg : P.globalNamed n = some g) (h : w.var? P n = some cs) : ∃ t fr, w.heap[g]? = some (.cells cs t fr) := by
  simp only [World.var?, hg, Option.bind_some] at h
  split at h
  · rename_i c t fr hb
    simp only [Option.some.injEq] at h
    subst h
    exact ⟨t, fr, hb⟩
  · cases h

/-- THE ROW's LIST GIVES THE TABLE. -/
theorem padIs_of_laid {W : World} (h : laidMetH Tryd.prog [("loop.example/g01350/impl.padKeys", Rows.laid_loop_example_g01350_impl_padKeys)] W) : PadIs W := by
  have h' : laidMet Tryd.prog [("loop.example/g01350/impl.padKeys", Rows.laid_loop_example_g01350_impl_padKeys)] W := h
  obtain ⟨ps, ⟨g', t', cs, fuel, p, q, hg', ht', hvar, hd, _, _⟩, _⟩ := h'
  obtain rfl := Option.some.inj (gPad.symm.trans hg')
  obtain rfl := Option.some.inj (gPadType.symm.trans ht')
  have e := padCells_of hd
  obtain ⟨t, fr, hh⟩ := heap_of_var gPad hvar
  refine ⟨t, fr, hh.trans ?_⟩
  rw [show cs = padCells from Array.toList_inj.1 e]

/-- A world for the witness: the settled one, the table holding what its initialiser lays. -/
noncomputable def laidWorld (os : Os) : World :=
  { World.holding Tryd.prog os ⟨#[], #[], []⟩ with heap := (World.holding Tryd.prog os ⟨#[], #[], []⟩).heap.modify 0 fun
      | .cells _ t frozen => .cells padCells t frozen
      | o => o }
theorem laid_met (os : Os) (args : Array Value) : laidMet Tryd.prog [("loop.example/g01350/impl.padKeys", Rows.laid_loop_example_g01350_impl_padKeys)] ((laidWorld os).forCall (fun _ _ => 0) ⟨#[], args, []⟩).memory :=
  laidMet_of_run' 8 (by kernel_rfl) (by kernel_rfl)

end Go.Proofs.YtioinihlahnbfaaDoor
