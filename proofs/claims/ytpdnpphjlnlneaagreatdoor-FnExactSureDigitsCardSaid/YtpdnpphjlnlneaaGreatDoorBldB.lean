/- strings.Builder in a block of the call's own: one byte more. No conditions. -/
import Derived.Test.YtpdnpphjlnlneaaGreatDoorBld
namespace Go.Proofs.YtpdnpphjlnlneaaGreatDoor
open Go.RowKit

theorem oneByB (x : Int) : ∀ u ∈ [Value.int .u8 x], u.oneCell' = true := by intro u hu; simp at hu; subst hu; rfl
set_option maxRecDepth 100000 in
set_option maxHeartbeats 2000000 in
theorem writeB_any (B b : Nat) (l : List UInt8) (c : UInt8) (x : Int) (w : World) (h : Bld B b l w) (hx : x = (c.toNat : Int)) (hlen : l.length ≤ 1000000) (hBw : B ≤ w.heap.size) : Calls Tryz.prog 131 #[.pointer (some ⟨b, 0, none⟩), .int .u8 x] w fun e w' => e = .returned .nilIface ∧ Bld B b (l ++ [c]) w' ∧ Below B w w' := by
  subst hx
  obtain ⟨i0, hi, hz0, hz1, hz2⟩ := info_parts info_byteP
  have HI := Lib.hid (show Tryz.prog.info? 5 = some i0 ∧ i0.zero = some (.int .u8 0) ∧ i0.size = 1 ∧ i0.bytes = 1 from ⟨hi, hz0, hz1, hz2⟩)
  clear hi hz0 hz1 hz2
  have HL := Lib.hid (Lib.byteCells_length l)
  go_enter Tryz.func131, Tryz.ntmps131
  go_wp2_with fail
  refine (copyCheck_any B b _ w h).mono ?_
  rintro e w1 ⟨rfl, h1, hb1⟩
  obtain ⟨hB, v, hbk, hown, hne⟩ := h1
  have hlt : b < w1.heap.size := heapLt hbk
  have c1 : w1.cell? ⟨b, 1, none⟩ = some v := by rw [Lib.cell_of_heap hbk]; rfl
  have HOW := Lib.hid hown
  have HBK := Lib.hid hbk
  have HNE := Lib.hid hne
  have HB1 := Lib.hid hb1
  have HSZ := Lib.hid hb1.size
  clear hown hbk hne hb1
  go_wp2_with (at_builtin; refine wpList_append_own _ rfl _ _ 77 rfl B 5 i0 (.int .u8 0) 1 1 Tryz.underlying77 HI.out.1 HI.out.2.1 HI.out.2.2.1 HI.out.2.2.2 rfl (by decide) v _ (Lib.byteCells l) rfl (World.ownsRow.alloc HOW.out _) ⟨w1.heap.size, 0, none⟩ 1 1 [.int .u8 (c.toNat : Int)] rfl rfl (cell_one_new _ _ _) (oneByB _) ?c3 ?c4 ?c5 ?_)
  case c3 => rw [HL.out]; unfold maxLen; omega
  case c4 => rw [HL.out]; omega
  case c5 => have := HSZ.out; simp; omega
  intro v' w2 hown' hgrow _
  have X2 : Below B w1 (w1.alloc (.cells #[.int .u8 (c.toNat : Int)] 5)) := Below.alloc (Below.refl B w1) (Nat.le_trans hBw HSZ.out) _
  have hb2 : w2.heap[b]? = some (.cells #[.pointer (some ⟨b, 0, none⟩), v] 123 (0, 0)) := by
    rw [hgrow.block b (by simp; omega) (fun e => HNE.out e.symm), heap_alloc_old w1 _ hlt]
    exact HBK.out
  have d0 : w2.cell? ⟨b, 0, none⟩ = some (.pointer (some ⟨b, 0, none⟩)) := by rw [Lib.cell_of_heap hb2]; rfl
  have d1 : w2.cell? ⟨b, 1, none⟩ = some v := by rw [Lib.cell_of_heap hb2]; rfl
  have f1 : w2.frozen? ⟨b, 1, none⟩ = false := Lib.frozen_of_heap hb2 1
  have HB := Lib.hid (show Below B w (w2.setCell ⟨b, 1, none⟩ v') from ((HB1.out.trans X2).grown hgrow (by have := (HB1.out.trans X2).size; omega) (fun k hk => (HOW.out.lt k hk).1)).setCell (p := ⟨b, 1, none⟩) hB _)
  have HB2 := Lib.hid (show Bld B b (l ++ [c]) (w2.setCell ⟨b, 1, none⟩ v') by
    refine .inr (Lib.BuilderAt.put hB hb2 ?_ (by decide))
    rw [Lib.byteCells_append, List.length_append]
    rw [Lib.byteCells_length] at hown' ⊢
    exact hown')
  have hsh : ∃ ao n' cap, v' = .slice ao n' cap := by
    rcases hown'.2 with ⟨hv, _⟩ | ⟨g, cap, cur, hv, _⟩
    · exact ⟨_, _, _, hv⟩
    · exact ⟨_, _, _, hv⟩
  obtain ⟨ao, n', cap, rfl⟩ := hsh
  clear hown' hgrow hb2
  go_wp2
  go_ret
  exact ⟨rfl, HB2.out, HB.out⟩
end Go.Proofs.YtpdnpphjlnlneaaGreatDoor
