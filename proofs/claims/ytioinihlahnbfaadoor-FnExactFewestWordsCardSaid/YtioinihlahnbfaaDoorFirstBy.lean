/- The program's split by first words, and FirstSplit's own test. -/
import Derived.Test.YtioinihlahnbfaaDoorFirst
import Derived.Test.YtioinihlahnbfaaDoorTab
import Derived.Deep.LoopGhost
import Derived.Deep.RegionWith
import Derived.WalkMore
namespace Go.Proofs.YtioinihlahnbfaaDoor
open Go.RowKit

theorem pre_fits (q : ByteArray) (p : Nat) (s : ByteArray) (hp : p ≤ q.size) : pre (q.extract p q.size) (keysB s) = decide (fits q p s) := by
  have hl : (q.extract p q.size).size = q.size - p := by rw [ByteArray.size_extract]; omega
  by_cases h : p + s.size ≤ q.size
  · have e : (q.extract p q.size).extract 0 (keysB s).size = q.extract p (p + s.size) := by
      rw [keysB_size]
      apply ByteArray.ext
      rw [ByteArray.data_extract, ByteArray.data_extract, ByteArray.data_extract, Array.extract_extract]
      congr 1
      omega
    rw [← pre_raw _ _ (by rw [hl, keysB_size]; omega), e, beqS]
    by_cases h2 : keysB s = q.extract p (p + s.size)
    · rw [decide_eq_true h2.symm, decide_eq_true (show fits q p s from ⟨h, h2⟩)]
    · rw [decide_eq_false (fun h3 => h2 h3.symm), decide_eq_false (fun h3 : fits q p s => h2 h3.2)]
  · rw [pre_short _ _ (by rw [hl, keysB_size]; omega), decide_eq_false (fun h3 : fits q p s => h h3.1)]
/-- The first split, or no list at all. -/
def Split1 (ss : List ByteArray) (q : ByteArray) (w : World) (e : Ending) (w' : World) : Prop := ∃ v, e = .returned v ∧ (tq ss q 0 = 0 → v = .slice none 0 0) ∧ (¬ tq ss q 0 = 0 → RowS w.heap.size w' v (firstV ss q)) ∧ Ext w w'

end Go.Proofs.YtioinihlahnbfaaDoor
