/- The laws' own helpers on lists of texts: sizes, copies, comparisons. No conditions. -/
import Derived.Test.YtpdnpphjlnlneaaGreatDoorWord
import Derived.Test.YtpdnpphjlnlneaaGreatDoorPad
import Derived.Deep.QuietTactic
import Derived.BigQuiet
import Derived.Laws.OwnMore
namespace Go.Proofs.YtpdnpphjlnlneaaGreatDoor
open Go.RowKit

theorem ext_drewN {a w : World} (h : Ext a w) (n : Nat) : Ext a (w.drewN n) := Below.trans h ⟨rfl, rfl, rfl, Nat.le_refl _, fun _ _ => rfl⟩
theorem row_ext {w w' : World} {base : Nat} {e : TypeId} {size : Nat} {v : Value} {n : Nat} {xs : List Value} (h : w.ownsRow base e size v n xs) (hx : Ext w w') : w'.ownsRow base e size v n xs := by
  refine ⟨h.1, ?_⟩
  rcases h.2 with hn | ⟨g, cap, cur, h1, h2, h3, h4⟩
  · exact .inl hn
  · refine .inr ⟨g, cap, cur, h1, h2, ?_, h4⟩
    have hlt : g < w.heap.size := by
      rcases Nat.lt_or_ge g w.heap.size with k | k
      · exact k
      · rw [Array.getElem?_eq_none k] at h3; cases h3
    exact (hx.block _ hlt).trans h3
theorem ext_grown {a b c : World} {row : Option Nat} (h : Ext a b) (hg : b.grownBy c row) (hr : ∀ k, row = some k → a.heap.size ≤ k) : Ext a c := Below.grown h hg h.size hr

/-- v is a list that reads as these texts. -/
def Strs (w : World) (v : Value) (ss : List ByteArray) : Prop :=
  ss.length ≤ maxLen ∧ (∀ s ∈ ss, s.size ≤ maxLen) ∧
  ((ss = [] ∧ ∃ x cap, v = .slice x 0 cap) ∨ ∃ b off cap, v = .slice (some ⟨b, off, none⟩) ss.length cap ∧ b < w.heap.size ∧ ∀ j (h : j < ss.length), w.cell? ⟨b, off + j, none⟩ = some (.string ss[j]))
theorem Strs.ext {w w' : World} {v : Value} {ss : List ByteArray} (h : Strs w v ss) (hx : Ext w w') : Strs w' v ss := by
  refine ⟨h.1, h.2.1, ?_⟩
  rcases h.2.2 with h | ⟨b, off, cap, h1, h2, h3⟩
  · exact .inl h
  · exact .inr ⟨b, off, cap, h1, Nat.lt_of_lt_of_le h2 hx.size, fun j hj => (hx.cell (p := ⟨b, off + j, none⟩) h2).trans (h3 j hj)⟩
theorem Strs.at {w : World} {v : Value} {ss : List ByteArray} (h : Strs w v ss) : ∃ a cap, v = .slice a ss.length cap ∧ (a = none → ss = []) := by
  rcases h.2.2 with ⟨rfl, x, cap, rfl⟩ | ⟨b, off, cap, h1, _⟩
  · exact ⟨x, cap, rfl, fun _ => rfl⟩
  · exact ⟨_, cap, h1, fun e => by cases e⟩

def sumLen : List ByteArray → Nat
  | [] => 0
  | s :: l => s.size + sumLen l
theorem sumLen_snoc (l : List ByteArray) (s : ByteArray) : sumLen (l ++ [s]) = sumLen l + s.size := by
  induction l with
  | nil => simp [sumLen]
  | cons d l ih => simp only [List.cons_append, sumLen, ih]; omega
theorem takeS (ss : List ByteArray) (k : Nat) (h : k < ss.length) : ss.take (k + 1) = ss.take k ++ [ss[k]] := by
  rw [List.take_succ_eq_append_getElem h]

/-- An answer that is a number of which one thing is known. -/
def SomeInt (P : Int → Prop) (w : World) (e : Ending) (w' : World) : Prop := ∃ n : Int, P n ∧ e = .returned (.int .i64 n) ∧ w = w'
def Fits (ss : List ByteArray) (n : Int) : Prop := 0 ≤ n → ss.length ≤ 1048576 ∧ sumLen ss ≤ 1048576

theorem info_str : (Tryz.prog.info? 9).map (fun i => (i.zero, i.size, i.bytes)) = some (some (.string ⟨#[]⟩), 1, 16) := by kernel_rfl

/-- A copy that the call made: a list of its own that reads as these texts. -/
def OwnS (w w' : World) (e : Ending) (ss : List ByteArray) : Prop := ∃ v, e = .returned v ∧ Strs w' v ss ∧ Ext w w' ∧ ∃ g cap, v = .slice (some ⟨g, 0, none⟩) ss.length cap ∧ w.heap.size ≤ g ∧ w'.ownsRow w.heap.size 9 1 v ss.length (ss.map Value.string)

set_option maxHeartbeats 1000000 in
theorem eqS_any (v u : Value) (ss : List ByteArray) (w : World) (h : Strs w v ss) (h2 : Strs w u ss) (hn : ss.length ≤ 1048576) : Calls Tryz.prog 36 #[v, u] w fun e w' => e = .returned (.bool true) ∧ Ext w w' := by
  have HV := Lib.hid h
  have HU := Lib.hid h2
  obtain ⟨a, cap, hv, _⟩ := h.at
  obtain ⟨a2, cap2, hu, _⟩ := h2.at
  rw [hv] at HV ⊢
  rw [hu] at HU ⊢
  clear hv hu h h2 u v
  go_enter Tryz.func36, Tryz.ntmps36
  go_wp2
  go_loopw [5] (fun i wr => ∃ k : Nat, k ≤ ss.length ∧ i = .int .i64 k ∧ Ext w wr) (fun i _ => ss.length - (intOf i).toNat)
  case atStart => exact ⟨0, Nat.zero_le _, rfl, Ext.refl _⟩
  case round =>
    obtain ⟨k, hk, rfl, hx⟩ := hrel
    by_cases hlt : k < ss.length
    · rcases (HV.out.ext hx).2.2 with ⟨h3, _⟩ | ⟨b, off, cap', h1, hb, hc⟩
      · rw [h3] at hlt; exact absurd hlt (by simp)
      rcases (HU.out.ext hx).2.2 with ⟨h3, _⟩ | ⟨b2, off2, cap3, h4, hb2, hc2⟩
      · rw [h3] at hlt; exact absurd hlt (by simp)
      have ha : a = some ⟨b, off, none⟩ := by injection h1
      have ha2 : a2 = some ⟨b2, off2, none⟩ := by injection h4
      have e1 := hc k hlt
      have e2 := hc2 k hlt
      rw [ha, ha2]
      have b1 : (k : Int) < (ss.length : Int) := by omega
      clear hc hc2 h1 h4 ha ha2 hb hb2
      go_wp2
      go_quiet (fail)
      go_wp2
      go_roundw
      case rel => exact ⟨k + 1, by omega, by go_num, ext_drewN hx _⟩
      case measure => simp [intOf]; omega
    · go_wp2
      go_ret
      exact ⟨rfl, hx⟩

end Go.Proofs.YtpdnpphjlnlneaaGreatDoor
