/- The library's sort and its striking of equal neighbours, on a list of texts of the call's own. No conditions. -/
import Derived.Test.YtinojlbnmnlmhaaKeySet
import Derived.Test.YtinojlbnmnlmhaaOwnS
import Derived.Test.YtinojlbnmnlmhaaShelf
import Derived.Sort.OwnSorted
namespace Go.Proofs.Ytinojlbnmnlmhaa
open Go.RowKit Go.Sort

theorem enc_texts (l : List ByteArray) : l.map Value.string = (l.map (·.data.toList)).map encStr := by
  rw [List.map_map]
  rfl
theorem enc_back (zs : List (List UInt8)) : zs.map encStr = (zs.map bytesOf).map Value.string := by
  rw [List.map_map]
  rfl

theorem sort_own (B g n cap : Nat) (l : List ByteArray) (w : World) (hl : l.length = n) (hn : n ≤ 1048576) (h : w.ownsRow B 9 1 (.slice (some ⟨g, 0, none⟩) n cap) n (l.map Value.string)) :
    Calls Try.prog 57 #[.slice (some ⟨g, 0, none⟩) n cap] w fun e w' => e = .returned (.tuple #[]) ∧ w'.ownsRow B 9 1 (.slice (some ⟨g, 0, none⟩) n cap) n ((sortB (l.map (·.data.toList))).map encStr) ∧ w.grownBy w' (some g) := by
  rcases h.2 with ⟨h0, _⟩ | ⟨g', cap', cur, hv, hB, hb, h1, h2, h3, h4⟩
  · cases h0
  injection hv with e1 e2 e3
  injection e1 with e1
  injection e1 with e1
  subst e1; subst e3
  subst hl
  have hll : (l.map (·.data.toList)).length = l.length := List.length_map ..
  have hc := Go.Proofs.Try.slices_Sort_string g 0 cap (l.map (·.data.toList)) w (holds_of_block hb (by rw [hll, ← enc_texts]; simpa using h4)) (heap_lt hb) (by rw [hll]; omega)
  rw [hll] at hc
  refine hc.mono ?_
  rintro e w' ⟨rfl, n', os, rfl⟩
  have ho := ownsRow_sorted (w := w) (n := n') (os := os) (ss := l.map (·.data.toList)) (ts := sortB (l.map (·.data.toList))) (sortB_len _) hB hb (by rw [hll]; exact h1) h2 h3
  rw [hll] at ho
  exact ⟨rfl, ho, grownBy_sorted _⟩

theorem compact_len (zs : List (List UInt8)) : (Lib.compact zs).length ≤ zs.length := by
  unfold Lib.compact Lib.compactUpTo
  rw [List.length_map]
  exact Nat.le_trans (List.length_filter_le _ _) (Nat.le_of_eq (List.length_range ..))

end Go.Proofs.Ytinojlbnmnlmhaa
