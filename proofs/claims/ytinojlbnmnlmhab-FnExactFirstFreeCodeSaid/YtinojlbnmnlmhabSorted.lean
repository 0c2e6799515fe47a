/- The library's sort and its striking of equal neighbours, on a list of texts of the call's own. No conditions. -/
import Derived.Test.YtinojlbnmnlmhabKeySet
import Derived.Test.YtinojlbnmnlmhabOwnS
import Derived.Test.YtinojlbnmnlmhabShelf
import Derived.Sort.OwnSorted
namespace Go.Proofs.Ytinojlbnmnlmhab
open Go.RowKit Go.Sort

theorem enc_texts (l : List ByteArray) : l.map Value.string = (l.map (·.data.toList)).map encStr := by
  rw [List.map_map]
  rfl
theorem enc_back (zs : List (List UInt8)) : zs.map encStr = (zs.map bytesOf).map Value.string := by
  rw [List.map_map]
  rfl

theorem sort_own (B g n cap : Nat) (l : List ByteArray) (w : World) (hl : l.length = n) (hn : n ≤ 1048576) (h : w.ownsRow B 9 1 (.slice (some ⟨g, 0, none⟩) n cap) n (l.map Value.string)) :
    Calls Try.prog 84 #[.slice (some ⟨g, 0, none⟩) n cap] w fun e w' => e = .returned (.tuple #[]) ∧ w'.ownsRow B 9 1 (.slice (some ⟨g, 0, none⟩) n cap) n ((sortB (l.map (·.data.toList))).map encStr) ∧ w.grownBy w' (some g) := by
  rcases h.2 with ⟨h0, _⟩ | ⟨g', cap', cur, hv, hB, hb, h1, h2, h3, h4⟩
  · cases h0
  injection hv with e1 e2 e3
  injection e1 with e1
  injection e1 with e1
  subst e1; subst e3
  subst hl
  have hll : (l.map (·.data.toList)).length = l.length := List.length_map ..
  have hc := Go.Proofs.Try.slices_Sort_string g 0 cap (l.map (·.data.toList)) w (holds_of_block hb (by rw [hll, ← enc_texts]; simpa using h4)) (heap_lt hb) (by rw [hll]; omega)
  rw [hll] at hc
  refine hc.mono ?_
  rintro e w' ⟨rfl, n', os, rfl⟩
  have ho := ownsRow_sorted (w := w) (n := n') (os := os) (ss := l.map (·.data.toList)) (ts := sortB (l.map (·.data.toList))) (sortB_len _) hB hb (by rw [hll]; exact h1) h2 h3
  rw [hll] at ho
  exact ⟨rfl, ho, grownBy_sorted _⟩

theorem compact_len (zs : List (List UInt8)) : (Lib.compact zs).length ≤ zs.length := by
  unfold Lib.compact Lib.compactUpTo
  rw [List.length_map]
  exact Nat.le_trans (List.length_filter_le _ _) (Nat.le_of_eq (List.length_range ..))

theorem compact_own (B g n cap : Nat) (zs : List (List UInt8)) (w : World) (hl : zs.length = n) (hn : n ≤ 1048576) (h : w.ownsRow B 9 1 (.slice (some ⟨g, 0, none⟩) n cap) n (zs.map encStr)) :
    Calls Try.prog 130 #[.slice (some ⟨g, 0, none⟩) n cap] w fun e w' => ∃ v, e = .returned v ∧ RowS B w' v ((Lib.compact zs).map bytesOf) ∧ w.grownBy w' (some g) := by
  rcases h.2 with ⟨h0, _⟩ | ⟨g', cap', cur, hv, hB, hb, h1, h2, h3, h4⟩
  · cases h0
  injection hv with e1 e2 e3
  injection e1 with e1
  injection e1 with e1
  subst e1; subst e3
  subst hl
  refine (Go.Proofs.Try.slices_Compact_string g 0 cap zs w (holds_of_block hb (by simpa using h4)) (by omega) h1).mono ?_
  rintro e w' ⟨rfl, n', rfl⟩
  have hcl := compact_len zs
  obtain ⟨ts, hts⟩ : ∃ ts, ts = Lib.compact zs ++ List.replicate (zs.length - (Lib.compact zs).length) ([] : List UInt8) := ⟨_, rfl⟩
  have htl : ts.length = zs.length := by rw [hts, List.length_append, List.length_replicate]; omega
  rw [← hts]
  have hh := heap_sorted (w := w) (n := n') (os := #[]) ts.toArray hb
  rw [grow_empty] at hh
  have hg := grownBy_sorted (w := w) (g := g) (n := n') (os := #[]) ts.toArray
  rw [grow_empty] at hg
  refine ⟨_, rfl, ?_, hg⟩
  have htk := take_putCells cur ts (by rw [htl, h3, Nat.mul_one]; exact h1)
  have hlen : ((Lib.compact zs).map bytesOf).length = (Lib.compact zs).length := List.length_map ..
  unfold RowS
  rw [hlen]
  refine ⟨by rw [List.length_map, hlen, Nat.mul_one], .inr ⟨g, cap, _, rfl, hB, hh, by omega, h2, by simp [putCells, h3], ?_⟩⟩
  rw [Nat.mul_one, ← enc_back]
  have e1 : (putCells encStr 0 ts.toArray cur).toList.take (Lib.compact zs).length = (((putCells encStr 0 ts.toArray cur).toList.take ts.length)).take (Lib.compact zs).length := by
    rw [List.take_take, Nat.min_eq_left (by omega)]
  rw [e1, htk, hts, List.map_append]
  have e2 : (Lib.compact zs).length = ((Lib.compact zs).map encStr).length := (List.length_map ..).symm
  rw [e2, List.take_left]

end Go.Proofs.Ytinojlbnmnlmhab
