/- Two lists put together by the library's Concat: a list of the call's own. No conditions. -/
import Derived.Test.YtinojlbnmnlmhaaOwnS
import Derived.Lib.AppendZeros
namespace Go.Proofs.Ytinojlbnmnlmhaa
open Go.RowKit

theorem info_strC : (Try.prog.info? 9).map (fun i => (i.zero, i.size, i.bytes)) = some (some (.string ⟨#[]⟩), 1, 16) := by kernel_rfl

set_option maxRecDepth 100000 in
set_option maxHeartbeats 2000000 in
theorem grow_any (n : Nat) (w : World) (hn : n ≤ 1048576) : Calls Try.prog 102 #[.slice none 0 0, .int .i64 n] w fun e w' => ∃ v, e = .returned v ∧ RowS w.heap.size w' v [] ∧ Ext w w' := by
  obtain ⟨i0, hi, hz0, hzs, hzb⟩ := info_parts info_strC
  have HI := Lib.hid (show Try.prog.info? 9 = some i0 ∧ i0.zero = some (.string ⟨#[]⟩) ∧ i0.size = 1 ∧ i0.bytes = 16 from ⟨hi, hz0, hzs, hzb⟩)
  clear hi hz0 hzs hzb
  by_cases h0 : n = 0
  · subst h0
    go_enter Try.func102, Try.ntmps102
    go_wp2
    go_ret
    exact ⟨_, rfl, RowS.nil _ _, Ext.refl _⟩
  go_enter Try.func102, Try.ntmps102
  obtain ⟨c, hc⟩ : ∃ c, c = grownCap w n 0 9 := ⟨_, rfl⟩
  obtain ⟨cs, hcs⟩ : ∃ cs, cs = Builtin.zeroCells (Value.string ⟨#[]⟩).cells n ++ Builtin.zeroCells (Value.string ⟨#[]⟩).cells (grownCap w n 0 9 - n) := ⟨_, rfl⟩
  have hrun := Lib.run_append_nil_zeros (P := Try.prog) w 22 3 22 9 i0 (.string ⟨#[]⟩) .i64 .i64 Try.underlying22 Try.underlying3 HI.out.1 HI.out.2.1 n (by omega) (by rw [HI.out.2.2.1]; decide) (by omega) (by rw [HI.out.2.2.2]; omega)
  rw [← hcs, ← hc] at hrun
  have HR := Lib.hid hrun
  have HO := Lib.hid (World.ownsRow_made w.drew (base := w.heap.size) (e := 9) (size := 1) cs c (Nat.le_refl _) (by rw [hc]; exact grownCap_le_maxLen _ _ _ _ (by unfold maxLen; omega)) (by
    have := grownCap_ge w n 0 9
    rw [hcs, hc]
    simp [Builtin.zeroCells, Value.cells]
    omega))
  clear hrun hcs hc
  go_wp2_with (at_builtin; refine Lib.wpList_append_run _ rfl _ _ 22 3 rfl (.slice none 0 0) (.int .i64 n) rfl rfl _ _ HR.out ?_)
  go_ret
  exact ⟨_, rfl, HO.out, ((Ext.refl _).drew).alloc _⟩

theorem add_block (a : Addr) (j : Nat) : (a.add j).block = a.block := by cases a; simp only [Addr.add]; split <;> rfl
/-- The cells behind an address hold these texts. -/
def HoldsS (w : World) (a : Addr) (ss : List ByteArray) : Prop := a.block < w.heap.size ∧ ∀ j u, (ss.map Value.string)[j]? = some u → w.cell? (a.add j) = some u
theorem HoldsS.ext {w w' : World} {a : Addr} {ss : List ByteArray} (h : HoldsS w a ss) (hx : Ext w w') : HoldsS w' a ss :=
  ⟨Nat.lt_of_lt_of_le h.1 hx.size, fun j u hu => (hx.cell (p := a.add j) (by rw [add_block]; exact h.1)).trans (h.2 j u hu)⟩
def ResP (ts : List ByteArray) (w : World) (e : Ending) (w' : World) : Prop := ∃ v, e = .returned v ∧ RowS w.heap.size w' v ts ∧ Ext w w'
theorem oneL (ss : List ByteArray) : ∀ u ∈ ss.map Value.string, u.oneCell' = true := by
  intro u hu
  obtain ⟨x, _, rfl⟩ := List.mem_map.1 hu
  rfl

set_option maxRecDepth 100000 in
set_option maxHeartbeats 4000000 in
theorem concat_any (g : Nat) (a1 a2 : Addr) (k1 k2 : Nat) (s1 s2 : List ByteArray) (w : World) (hg : g < w.heap.size) (hc1 : w.cell? ⟨g, 0, none⟩ = some (.slice (some a1) s1.length k1)) (hc2 : w.cell? ⟨g, 1, none⟩ = some (.slice (some a2) s2.length k2))
    (h1 : HoldsS w a1 s1) (h2 : HoldsS w a2 s2) (hn : s1.length + s2.length ≤ 1048576) : Calls Try.prog 82 #[.slice (some ⟨g, 0, none⟩) 2 2] w (ResP (s1 ++ s2) w) := by
  have HC1 := Lib.hid hc1
  have HC2 := Lib.hid hc2
  have H1 := Lib.hid h1
  have H2 := Lib.hid h2
  clear hc1 hc2 h1 h2
  have hl1 : s1.length ≤ 1048576 := by omega
  have hl2 : s2.length ≤ 1048576 := by omega
  obtain ⟨n1, e1⟩ : ∃ n, n = s1.length := ⟨_, rfl⟩
  obtain ⟨n2, e2⟩ : ∃ n, n = s2.length := ⟨_, rfl⟩
  have E1 := Lib.hid e1
  have E2 := Lib.hid e2
  rw [← e1] at HC1 hl1 hn
  rw [← e2] at HC2 hl2 hn
  clear e1 e2
  obtain ⟨i0, hi, hz0, hzs, hzb⟩ := info_parts info_strC
  have HI := Lib.hid (show Try.prog.info? 9 = some i0 ∧ i0.zero = some (.string ⟨#[]⟩) ∧ i0.size = 1 ∧ i0.bytes = 16 from ⟨hi, hz0, hzs, hzb⟩)
  clear hi hz0 hzs hzb
  go_enter Try.func82, Try.ntmps82
  go_wp2
  go_loop [3, 11] (fun z i => (i = .int .i64 0 ∧ z = .int .i64 0) ∨ (i = .int .i64 1 ∧ z = .int .i64 n1) ∨ (i = .int .i64 2 ∧ z = .int .i64 (n1 + n2 : Nat))) (fun _ i => 2 - (intOf i).toNat)
  case atStart => exact .inl ⟨rfl, rfl⟩
  case round =>
    rcases hrel with ⟨rfl, rfl⟩ | ⟨rfl, rfl⟩ | ⟨rfl, rfl⟩
    · have c1 := HC1.out
      go_wp2
      go_round
      case rel => exact .inr (.inl ⟨rfl, by go_num⟩)
      case measure => simp [intOf]
    · have c2 := HC2.out
      go_wp2
      go_round
      case rel => exact .inr (.inr ⟨rfl, by go_num⟩)
      case measure => simp [intOf]
    · go_wp2_with (go_at_call 102; refine (grow_any (n1 + n2) _ hn).mono ?_; rintro e w1 ⟨v1, rfl, r1, x1⟩)
      have X1 := x1
      have R1 := Lib.hid r1
      clear r1 x1
      go_loopw [6, 27] (fun z i wr => Ext w wr ∧ ((i = .int .i64 0 ∧ wr.ownsRow w.heap.size 9 1 z 0 []) ∨ (i = .int .i64 1 ∧ wr.ownsRow w.heap.size 9 1 z n1 (s1.map Value.string)) ∨ (i = .int .i64 2 ∧ wr.ownsRow w.heap.size 9 1 z (n1 + n2) (s1.map Value.string ++ s2.map Value.string)))) (fun _ i _ => 2 - (intOf i).toNat)
      case atStart => exact ⟨X1, .inl ⟨rfl, R1.out⟩⟩
      case round =>
        obtain ⟨hx, hrel⟩ := hrel
        rcases hrel with ⟨rfl, hown⟩ | ⟨rfl, hown⟩ | ⟨rfl, hown⟩
        · have c1 := (hx.cell hg).trans HC1.out
          have HO := Lib.hid hown
          clear hown
          go_wp2_with (at_builtin; refine wpList_append_own _ rfl _ _ 22 rfl w.heap.size 9 i0 (.string ⟨#[]⟩) 1 16 Try.underlying22 HI.out.1 HI.out.2.1 HI.out.2.2.1 HI.out.2.2.2 rfl (by decide) _ _ _ rfl HO.out a1 n1 k1 (s1.map Value.string) rfl (by rw [List.length_map, ← E1.out, Nat.mul_one]) (H1.out.ext hx).2 (oneL _) (by unfold maxLen; omega) (by omega) (by have := hx.size; omega) ?_; intro v' w5 hown' hgr' _)
          have X5 : Ext w w5 := ext_grown hx hgr' (fun j hj => RowS.own_le (B := w.heap.size) (w := wr) (ts := []) HO.out j hj)
          have R5 := Lib.hid (show w5.ownsRow w.heap.size 9 1 v' n1 (s1.map Value.string) by rw [Nat.zero_add] at hown'; exact hown')
          clear hown' hgr'
          go_wp2
          go_roundw
          case rel => exact ⟨X5, .inr (.inl ⟨rfl, R5.out⟩)⟩
          case measure => simp [intOf]
        · have c2 := (hx.cell hg).trans HC2.out
          have HO := Lib.hid hown
          clear hown
          go_wp2_with (at_builtin; refine wpList_append_own _ rfl _ _ 22 rfl w.heap.size 9 i0 (.string ⟨#[]⟩) 1 16 Try.underlying22 HI.out.1 HI.out.2.1 HI.out.2.2.1 HI.out.2.2.2 rfl (by decide) _ _ _ rfl HO.out a2 n2 k2 (s2.map Value.string) rfl (by rw [List.length_map, ← E2.out, Nat.mul_one]) (H2.out.ext hx).2 (oneL _) (by unfold maxLen; omega) (by omega) (by have := hx.size; omega) ?_; intro v' w5 hown' hgr' _)
          have X5 : Ext w w5 := ext_grown hx hgr' (fun j hj => RowS.own_le (B := w.heap.size) (w := wr) (ts := s1) (by unfold RowS; rw [← E1.out]; exact HO.out) j hj)
          have R5 := Lib.hid hown'
          clear hown' hgr'
          go_wp2
          go_roundw
          case rel => exact ⟨X5, .inr (.inr ⟨rfl, R5.out⟩)⟩
          case measure => simp [intOf]
        · have R := Lib.hid (show RowS w.heap.size wr _ (s1 ++ s2) by unfold RowS; rw [List.length_append, List.map_append, ← E1.out, ← E2.out]; exact hown)
          clear hown
          go_wp2
          go_ret
          exact ⟨_, rfl, R.out, hx⟩

theorem holds_none {w : World} {a : Addr} {ss : List ByteArray} (h : a.block < w.heap.size) (h0 : ss.length = 0) : HoldsS w a ss := by
  obtain rfl := List.length_eq_zero_iff.1 h0
  exact ⟨h, fun j u hu => by simp at hu⟩
theorem addr_add (b off j : Nat) : (⟨b, off, none⟩ : Addr).add j = ⟨b, off + j, none⟩ := by cases j <;> simp [Addr.add]
theorem holds_drop {w : World} {b off : Nat} {ss : List ByteArray} (hb : b < w.heap.size) (hc : ∀ j (h : j < ss.length), w.cell? ⟨b, off + j, none⟩ = some (.string ss[j])) (k : Nat) : HoldsS w ⟨b, off + k, none⟩ (ss.drop k) := by
  refine ⟨hb, fun j u hu => ?_⟩
  rw [addr_add, Nat.add_assoc]
  rw [List.getElem?_map, List.getElem?_drop] at hu
  have hl : k + j < ss.length := by
    rcases Nat.lt_or_ge (k + j) ss.length with h | h
    · exact h
    · rw [List.getElem?_eq_none h] at hu; cases hu
  rw [List.getElem?_eq_getElem hl] at hu
  rw [hc (k + j) hl]
  exact hu
theorem holds_take {w : World} {b off : Nat} {ss : List ByteArray} (hb : b < w.heap.size) (hc : ∀ j (h : j < ss.length), w.cell? ⟨b, off + j, none⟩ = some (.string ss[j])) (k : Nat) : HoldsS w ⟨b, off, none⟩ (ss.take k) := by
  refine ⟨hb, fun j u hu => ?_⟩
  rw [addr_add]
  rw [List.getElem?_map, List.getElem?_take] at hu
  by_cases hj : j < k
  · rw [if_pos hj] at hu
    have hl : j < ss.length := by
      rcases Nat.lt_or_ge j ss.length with h | h
      · exact h
      · rw [List.getElem?_eq_none h] at hu; cases hu
    rw [List.getElem?_eq_getElem hl] at hu
    rw [hc j hl]
    exact hu
  · rw [if_neg hj] at hu; cases hu

set_option maxRecDepth 100000 in
theorem concat_new (a1 a2 : Addr) (n1 k1 n2 k2 : Nat) (s1 s2 : List ByteArray) (w : World) (e1 : s1.length = n1) (e2 : s2.length = n2) (h1 : HoldsS w a1 s1) (h2 : HoldsS w a2 s2) (hn : n1 + n2 ≤ 1048576) :
    Calls Try.prog 82 #[.slice (some ⟨w.heap.size, 0, none⟩) 2 2] (w.alloc (.cells #[.slice (some a1) n1 k1, .slice (some a2) n2 k2] 22)).drew (ResP (s1 ++ s2) w) := by
  subst e1; subst e2
  have X : Ext w (w.alloc (.cells #[.slice (some a1) s1.length k1, .slice (some a2) s2.length k2] 22)).drew := ((Ext.refl _).alloc _).drew
  refine (concat_any w.heap.size a1 a2 k1 k2 s1 s2 _ (by simp [go_sem]) (by simp [go_sem]) (by simp [go_sem]) (h1.ext X) (h2.ext X) hn).mono ?_
  rintro e w' ⟨v, rfl, r, x⟩
  exact ⟨v, rfl, r.down X.size, X.trans x⟩

end Go.Proofs.Ytinojlbnmnlmhaa
