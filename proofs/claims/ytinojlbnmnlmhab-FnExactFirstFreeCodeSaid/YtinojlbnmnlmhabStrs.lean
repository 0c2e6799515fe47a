/- The laws' own helpers on lists of texts: sizes, copies, comparisons. No conditions. -/
import Derived.Test.YtinojlbnmnlmhabWord
import Derived.Test.YtinojlbnmnlmhabPad
import Derived.Deep.QuietTactic
import Derived.BigQuiet
import Derived.Laws.OwnMore
namespace Go.Proofs.Ytinojlbnmnlmhab
open Go.RowKit

theorem ext_drewN {a w : World} (h : Ext a w) (n : Nat) : Ext a (w.drewN n) := Below.trans h ⟨rfl, rfl, rfl, Nat.le_refl _, fun _ _ => rfl⟩
theorem row_ext {w w' : World} {base : Nat} {e : TypeId} {size : Nat} {v : Value} {n : Nat} {xs : List Value} (h : w.ownsRow base e size v n xs) (hx : Ext w w') : w'.ownsRow base e size v n xs := by
  refine ⟨h.1, ?_⟩
  rcases h.2 with hn | ⟨g, cap, cur, h1, h2, h3, h4⟩
  · exact .inl hn
  · refine .inr ⟨g, cap, cur, h1, h2, ?_, h4⟩
    have hlt : g < w.heap.size := by
      rcases Nat.lt_or_ge g w.heap.size with k | k
      · exact k
      · rw [Array.getElem?_eq_none k] at h3; cases h3
    exact (hx.block _ hlt).trans h3
theorem ext_grown {a b c : World} {row : Option Nat} (h : Ext a b) (hg : b.grownBy c row) (hr : ∀ k, row = some k → a.heap.size ≤ k) : Ext a c := Below.grown h hg h.size hr

/-- v is a list that reads as these texts. -/
def Strs (w : World) (v : Value) (ss : List ByteArray) : Prop :=
  ss.length ≤ maxLen ∧ (∀ s ∈ ss, s.size ≤ maxLen) ∧
  ((ss = [] ∧ ∃ x cap, v = .slice x 0 cap) ∨ ∃ b off cap, v = .slice (some ⟨b, off, none⟩) ss.length cap ∧ b < w.heap.size ∧ ∀ j (h : j < ss.length), w.cell? ⟨b, off + j, none⟩ = some (.string ss[j]))
theorem Strs.ext {w w' : World} {v : Value} {ss : List ByteArray} (h : Strs w v ss) (hx : Ext w w') : Strs w' v ss := by
  refine ⟨h.1, h.2.1, ?_⟩
  rcases h.2.2 with h | ⟨b, off, cap, h1, h2, h3⟩
  · exact .inl h
  · exact .inr ⟨b, off, cap, h1, Nat.lt_of_lt_of_le h2 hx.size, fun j hj => (hx.cell (p := ⟨b, off + j, none⟩) h2).trans (h3 j hj)⟩
theorem Strs.at {w : World} {v : Value} {ss : List ByteArray} (h : Strs w v ss) : ∃ a cap, v = .slice a ss.length cap ∧ (a = none → ss = []) := by
  rcases h.2.2 with ⟨rfl, x, cap, rfl⟩ | ⟨b, off, cap, h1, _⟩
  · exact ⟨x, cap, rfl, fun _ => rfl⟩
  · exact ⟨_, cap, h1, fun e => by cases e⟩

def sumLen : List ByteArray → Nat
  | [] => 0
  | s :: l => s.size + sumLen l
theorem sumLen_snoc (l : List ByteArray) (s : ByteArray) : sumLen (l ++ [s]) = sumLen l + s.size := by
  induction l with
  | nil => simp [sumLen]
  | cons d l ih => simp only [List.cons_append, sumLen, ih]; omega
theorem takeS (ss : List ByteArray) (k : Nat) (h : k < ss.length) : ss.take (k + 1) = ss.take k ++ [ss[k]] := by
  rw [List.take_succ_eq_append_getElem h]

/-- An answer that is a number of which one thing is known. -/
def SomeInt (P : Int → Prop) (w : World) (e : Ending) (w' : World) : Prop := ∃ n : Int, P n ∧ e = .returned (.int .i64 n) ∧ w = w'
def Fits (ss : List ByteArray) (n : Int) : Prop := 0 ≤ n → ss.length ≤ 1048576 ∧ sumLen ss ≤ 1048576

set_option maxHeartbeats 1000000 in
theorem szS_any (v : Value) (ss : List ByteArray) (w : World) (h : Strs w v ss) : Calls Try.prog 12 #[v, .int .i64 1048576] w (SomeInt (Fits ss) w) := by
  have hl := h.1
  unfold maxLen at hl
  have HM := Lib.hid h.2.1
  rcases h.2.2 with ⟨rfl, x, cap, rfl⟩ | ⟨b, off, cap, rfl, hb, hc⟩
  · clear h
    go_enter Try.func12, Try.ntmps12
    go_wp2
    go_loop [1, 5] (fun l i => i = .int .i64 0 ∧ l = .int .i64 1048576) (fun _ _ => 0)
    case atStart => exact ⟨rfl, rfl⟩
    case round =>
      obtain ⟨rfl, rfl⟩ := hrel
      go_wp2
      go_ret
      exact ⟨_, fun _ => ⟨Nat.zero_le _, Nat.zero_le _⟩, rfl, rfl⟩
  · have HC := Lib.hid hc
    clear hc h
    by_cases hbig : 1048576 < ss.length
    · go_enter Try.func12, Try.ntmps12
      go_wp2
      go_ret
      exact ⟨_, fun h => absurd h (by decide), rfl, rfl⟩
    go_enter Try.func12, Try.ntmps12
    go_wp2
    go_loop [1, 5] (fun l i => ∃ k : Nat, k ≤ ss.length ∧ i = .int .i64 k ∧ ∃ x : Int, l = .int .i64 x ∧ 0 ≤ x ∧ x + (sumLen (ss.take k) : Int) + ss.length = 1048576) (fun _ i => ss.length - (intOf i).toNat)
    case atStart => exact ⟨0, Nat.zero_le _, rfl, _, rfl, by omega, by simp [sumLen]⟩
    case round =>
      obtain ⟨k, hk, rfl, x, rfl, hx0, hx1⟩ := hrel
      have HX := Lib.hid hx1
      have hx2 : x ≤ 1048576 := by omega
      clear hx1
      by_cases hlt : k < ss.length
      · have hcell := HC.out k hlt
        have hsz := HM.out ss[k] (List.getElem_mem hlt)
        unfold maxLen at hsz
        have HT := Lib.hid (show sumLen (ss.take (k + 1)) = sumLen (ss.take k) + ss[k].size by rw [takeS ss k hlt, sumLen_snoc])
        by_cases hneg : x - (ss[k].size : Int) < 0
        · go_wp2
          go_ret
          exact ⟨_, fun h => absurd h (by decide), rfl, rfl⟩
        · go_wp2
          go_round
          case rel => exact ⟨k + 1, by omega, by go_num, _, rfl, by omega, by have := HX.out; rw [HT.out]; omega⟩
          case measure => simp [intOf]; omega
      · obtain rfl : k = ss.length := by omega
        go_wp2
        go_ret
        exact ⟨_, fun _ => ⟨by omega, by have := HX.out; rw [List.take_length] at this; omega⟩, rfl, rfl⟩

theorem info_str : (Try.prog.info? 9).map (fun i => (i.zero, i.size, i.bytes)) = some (some (.string ⟨#[]⟩), 1, 16) := by kernel_rfl

/-- A copy that the call made: a list of its own that reads as these texts. -/
def OwnS (w w' : World) (e : Ending) (ss : List ByteArray) : Prop := ∃ v, e = .returned v ∧ Strs w' v ss ∧ Ext w w' ∧ ∃ g cap, v = .slice (some ⟨g, 0, none⟩) ss.length cap ∧ w.heap.size ≤ g ∧ w'.ownsRow w.heap.size 9 1 v ss.length (ss.map Value.string)

set_option maxHeartbeats 1000000 in
theorem toS_any (v : Value) (ss : List ByteArray) (w : World) (h : Strs w v ss) (hn : ss.length ≤ 1048576) : Calls Try.prog 14 #[v] w fun e w' => OwnS w w' e ss := by
  have HM := Lib.hid h.2.1
  have HS := Lib.hid h
  obtain ⟨i0, hi, hz0, hzs, hzb⟩ := info_parts info_str
  have HI := Lib.hid (show Try.prog.info? 9 = some i0 ∧ i0.zero = some (.string ⟨#[]⟩) ∧ i0.size = 1 ∧ i0.bytes = 16 from ⟨hi, hz0, hzs, hzb⟩)
  clear hi hz0 hzs hzb
  obtain ⟨a, cap, hv, hnil⟩ := h.at
  have HN := Lib.hid hnil
  rw [hv] at HS ⊢
  clear hv hnil h v
  go_enter Try.func14, Try.ntmps14
  go_wp2_with (at_make; refine wpList_make_full _ rfl _ _ 22 rfl w.heap.size 9 i0 (.string ⟨#[]⟩) 1 Try.underlying22 HI.out.1 HI.out.2.1 HI.out.2.2.1 .i64 .i64 _ _ ss.length rfl rfl rfl rfl (by rw [HI.out.2.2.2]; omega) (by unfold maxLen; omega) (Nat.le_refl _) ?_; intro w1 hown hgr)
  have X1 : Ext w w1 := ext_grown (Ext.refl w) hgr (by intro k hk; cases hk)
  obtain ⟨xs1, hxs1⟩ : ∃ xs, xs = (madeCells (Value.string ⟨#[]⟩).cells (ss.length * 1)).toList := ⟨_, rfl⟩
  rw [← hxs1] at hown
  clear hxs1 hgr
  go_loopw [4] (fun i wr => ∃ k : Nat, k ≤ ss.length ∧ i = .int .i64 k ∧ ∃ xs : List Value, wr.ownsRow w.heap.size 9 1 (.slice (some ⟨w.heap.size, 0, none⟩) ss.length ss.length) ss.length xs ∧ (∀ j (hj : j < ss.length), j < k → xs[j]? = some (.string ss[j])) ∧ Ext w wr) (fun i _ => ss.length - (intOf i).toNat)
  case atStart => exact ⟨0, Nat.zero_le _, rfl, xs1, hown, fun j _ h => absurd h (by omega), X1⟩
  case round =>
    obtain ⟨k, hk, rfl, xs, hown, hxs, hx⟩ := hrel
    have HO := Lib.hid hown
    have HX := Lib.hid hxs
    clear hown hxs
    by_cases hlt : k < ss.length
    · have hlen : xs.length = ss.length := by have := HO.out.1; omega
      obtain ⟨u, hu⟩ : ∃ u, xs[k]? = some u := ⟨xs[k]'(by omega), List.getElem?_eq_getElem _⟩
      have hc3 := (HO.out.cellAt k (by omega)).trans hu
      have hf3 := HO.out.frozenAt k
      clear hu hlen
      rcases (HS.out.ext hx).2.2 with ⟨h2, _⟩ | ⟨b, off, cap', h1, hb, hc⟩
      · rw [h2] at hlt; exact absurd hlt (by simp)
      · have ha : a = some ⟨b, off, none⟩ := by injection h1
        have hcell := hc k hlt
        rw [ha]
        clear hc h1 ha HS HN
        go_wp2
        go_roundw
        case rel =>
          refine ⟨k + 1, by omega, by go_num, xs.set k (.string ss[k]), (HO.out.stored k _).1, ?_, hx.setCell (Nat.le_refl _) _⟩
          intro j hj hjk
          by_cases e : j = k
          · subst e
            rw [List.getElem?_set_self (by have := HO.out.1; omega)]
          · rw [List.getElem?_set_ne (by omega)]
            exact HX.out j hj (by omega)
        case measure => simp [intOf]; omega
    · go_wp2
      go_ret
      have hk' : k = ss.length := by omega
      have e : xs = ss.map Value.string := by
        apply List.ext_getElem?
        intro j
        by_cases hj : j < ss.length
        · rw [HX.out j hj (by omega)]; simp [hj]
        · rw [List.getElem?_eq_none (by have := HO.out.1; omega), List.getElem?_eq_none (by simp; omega)]
      refine ⟨_, rfl, ⟨by unfold maxLen; omega, HM.out, .inr ⟨w.heap.size, 0, ss.length, rfl, ?_, fun j hj => ?_⟩⟩, hx, w.heap.size, ss.length, rfl, Nat.le_refl _, e ▸ HO.out⟩
      · rcases HO.out.2 with ⟨h3, _⟩ | ⟨g, c, cur, h3, _, hg, _⟩
        · cases h3
        · cases h3
          rcases Nat.lt_or_ge w.heap.size wr.heap.size with h4 | h4
          · exact h4
          · rw [Array.getElem?_eq_none h4] at hg; cases hg
      · rw [Nat.zero_add]
        exact (HO.out.cellAt j (by omega)).trans (HX.out j hj (by omega))

set_option maxHeartbeats 1000000 in
theorem eqS_any (v u : Value) (ss : List ByteArray) (w : World) (h : Strs w v ss) (h2 : Strs w u ss) (hn : ss.length ≤ 1048576) : Calls Try.prog 16 #[v, u] w fun e w' => e = .returned (.bool true) ∧ Ext w w' := by
  have HV := Lib.hid h
  have HU := Lib.hid h2
  obtain ⟨a, cap, hv, _⟩ := h.at
  obtain ⟨a2, cap2, hu, _⟩ := h2.at
  rw [hv] at HV ⊢
  rw [hu] at HU ⊢
  clear hv hu h h2 u v
  go_enter Try.func16, Try.ntmps16
  go_wp2
  go_loopw [5] (fun i wr => ∃ k : Nat, k ≤ ss.length ∧ i = .int .i64 k ∧ Ext w wr) (fun i _ => ss.length - (intOf i).toNat)
  case atStart => exact ⟨0, Nat.zero_le _, rfl, Ext.refl _⟩
  case round =>
    obtain ⟨k, hk, rfl, hx⟩ := hrel
    by_cases hlt : k < ss.length
    · rcases (HV.out.ext hx).2.2 with ⟨h3, _⟩ | ⟨b, off, cap', h1, hb, hc⟩
      · rw [h3] at hlt; exact absurd hlt (by simp)
      rcases (HU.out.ext hx).2.2 with ⟨h3, _⟩ | ⟨b2, off2, cap3, h4, hb2, hc2⟩
      · rw [h3] at hlt; exact absurd hlt (by simp)
      have ha : a = some ⟨b, off, none⟩ := by injection h1
      have ha2 : a2 = some ⟨b2, off2, none⟩ := by injection h4
      have e1 := hc k hlt
      have e2 := hc2 k hlt
      rw [ha, ha2]
      have b1 : (k : Int) < (ss.length : Int) := by omega
      clear hc hc2 h1 h4 ha ha2 hb hb2
      go_wp2
      go_quiet (fail)
      go_wp2
      go_roundw
      case rel => exact ⟨k + 1, by omega, by go_num, ext_drewN hx _⟩
      case measure => simp [intOf]; omega
    · go_wp2
      go_ret
      exact ⟨rfl, hx⟩

end Go.Proofs.Ytinojlbnmnlmhab
