/- Lists of guesses as arguments: opened, their sizes, copies, comparisons. No conditions. -/
import Derived.Test.YtmpajijnpoekgaaStrs
import Derived.Test.YtmpajijnpoekgaaLaw
import Derived.Deep.MidRow
import Derived.Deep.Slices
import Derived.Deep.Strs
namespace Go.Proofs.Ytmpajijnpoekgaa
open Go.RowKit

/-- A guess: its text and its two numbers, whatever they are. -/
structure Gu where
  p : ByteArray
  h : Int
  n : Int
def Gu.cs (g : Gu) : List Value := [.string g.p, .int .i64 g.h, .int .i64 g.n]
def Gu.ok (g : Gu) : Prop := g.p.size ≤ maxLen ∧ (-9223372036854775808 ≤ g.h ∧ g.h ≤ 9223372036854775807) ∧ (-9223372036854775808 ≤ g.n ∧ g.n ≤ 9223372036854775807)

theorem rangeAt_ext {w w' : World} {b o : Nat} {cs : List Value} (h : w.rangeAt b o cs) (hx : Ext w w') (hb : b < w.heap.size) : w'.rangeAt b o cs := fun j v hv => (hx.cell (p := ⟨b, o + j, none⟩) hb).trans (h j v hv)

/-- v is a list that reads as these guesses. -/
def Gus (w : World) (v : Value) (gs : List Gu) : Prop :=
  gs.length ≤ maxLen ∧ (∀ g ∈ gs, g.ok) ∧
  ((gs = [] ∧ ∃ x cap, v = .slice x 0 cap) ∨ ∃ b off cap, v = .slice (some ⟨b, off, none⟩) gs.length cap ∧ b < w.heap.size ∧ ∀ j (h : j < gs.length), w.rangeAt b (off + j * 3) gs[j].cs)
theorem Gus.ext {w w' : World} {v : Value} {gs : List Gu} (h : Gus w v gs) (hx : Ext w w') : Gus w' v gs := by
  refine ⟨h.1, h.2.1, ?_⟩
  rcases h.2.2 with h | ⟨b, off, cap, h1, h2, h3⟩
  · exact .inl h
  · exact .inr ⟨b, off, cap, h1, Nat.lt_of_lt_of_le h2 hx.size, fun j hj => rangeAt_ext (h3 j hj) hx h2⟩
theorem Gus.at {w : World} {v : Value} {gs : List Gu} (h : Gus w v gs) : ∃ a cap, v = .slice a gs.length cap ∧ (a = none → gs = []) := by
  rcases h.2.2 with ⟨rfl, x, cap, rfl⟩ | ⟨b, off, cap, h1, _⟩
  · exact ⟨x, cap, rfl, fun _ => rfl⟩
  · exact ⟨_, cap, h1, fun e => by cases e⟩

def sumG : List Gu → Nat
  | [] => 0
  | s :: l => s.p.size + sumG l
theorem sumG_snoc (l : List Gu) (s : Gu) : sumG (l ++ [s]) = sumG l + s.p.size := by
  induction l with
  | nil => simp [sumG]
  | cons d l ih => simp only [List.cons_append, sumG, ih]; omega
theorem takeG (ss : List Gu) (k : Nat) (h : k < ss.length) : ss.take (k + 1) = ss.take k ++ [ss[k]] := by
  rw [List.take_succ_eq_append_getElem h]

theorem gl_size (g : Gu) : (Try.prog.info? 69).map (·.size) = some g.cs.length := by
  show _ = some 3
  kernel_rfl
theorem gi_size (g : Gu) : (Try.prog.info? 66).map (·.size) = some g.cs.length := by
  show _ = some 3
  kernel_rfl

theorem szG_any (p : ByteArray) (h n l : Int) (w : World) (hl : 0 ≤ l ∧ l ≤ 1048576) (hp : p.size ≤ maxLen) : Calls Try.prog 66 #[.agg #[.string p, .int .i64 h, .int .i64 n], .int .i64 l] w fun e w' => e = .returned (.int .i64 (if l - (p.size : Int) < 0 then -1 else l - (p.size : Int))) ∧ Ext w w' := by
  unfold maxLen at hp
  by_cases hneg : l - (p.size : Int) < 0
  · rw [if_pos hneg]
    go_enter Try.func66, Try.ntmps66
    go_wp2
    go_ret
    exact ⟨rfl, (Ext.refl _).alloc _⟩
  · rw [if_neg hneg]
    go_enter Try.func66, Try.ntmps66
    go_wp2
    go_ret
    exact ⟨rfl, (Ext.refl _).alloc _⟩

def FitsG (gs : List Gu) (n : Int) : Prop := 0 ≤ n → gs.length ≤ 1048576 ∧ sumG gs ≤ 1048576
def SomeG (gs : List Gu) (w : World) (e : Ending) (w' : World) : Prop := ∃ n : Int, FitsG gs n ∧ e = .returned (.int .i64 n) ∧ Ext w w'

set_option maxHeartbeats 1000000 in
theorem szGS_any (v : Value) (gs : List Gu) (w : World) (h : Gus w v gs) : Calls Try.prog 31 #[v, .int .i64 1048576] w (SomeG gs w) := by
  have hl := h.1
  unfold maxLen at hl
  have HM := Lib.hid h.2.1
  rcases h.2.2 with ⟨rfl, x, cap, rfl⟩ | ⟨b, off, cap, rfl, hb, hc⟩
  · clear h
    go_enter Try.func31, Try.ntmps31
    go_wp2
    go_loop [1, 5] (fun l i => i = .int .i64 0 ∧ l = .int .i64 1048576) (fun _ _ => 0)
    case atStart => exact ⟨rfl, rfl⟩
    case round =>
      obtain ⟨rfl, rfl⟩ := hrel
      go_wp2
      go_ret
      exact ⟨_, fun _ => ⟨Nat.zero_le _, Nat.zero_le _⟩, rfl, Ext.refl _⟩
  · have HC := Lib.hid hc
    have HB := Lib.hid hb
    clear hc h hb
    by_cases hbig : 1048576 < gs.length
    · go_enter Try.func31, Try.ntmps31
      go_wp2
      go_ret
      exact ⟨_, fun h => absurd h (by decide), rfl, Ext.refl _⟩
    go_enter Try.func31, Try.ntmps31
    go_wp2
    go_loopw [1, 5] (fun l i wr => ∃ k : Nat, k ≤ gs.length ∧ i = .int .i64 k ∧ (∃ x : Int, l = .int .i64 x ∧ 0 ≤ x ∧ x + (sumG (gs.take k) : Int) + gs.length = 1048576) ∧ Ext w wr) (fun _ i _ => gs.length - (intOf i).toNat)
    case atStart => exact ⟨0, Nat.zero_le _, rfl, ⟨_, rfl, by omega, by simp [sumG]⟩, Ext.refl _⟩
    case round =>
      obtain ⟨k, hk, rfl, ⟨x, rfl, hx0, hx1⟩, hx⟩ := hrel
      have HX := Lib.hid hx1
      have hx2 : x ≤ 1048576 := by omega
      clear hx1
      by_cases hlt : k < gs.length
      · have HCK := Lib.hid (rangeAt_ext (HC.out k hlt) hx HB.out)
        have hsz := (HM.out gs[k] (List.getElem_mem hlt)).1
        have HT := Lib.hid (show sumG (gs.take (k + 1)) = sumG (gs.take k) + gs[k].p.size by rw [takeG gs k hlt, sumG_snoc])
        obtain ⟨g, hg⟩ : ∃ g, g = gs[k] := ⟨_, rfl⟩
        rw [← hg] at HCK HT hsz
        clear hg
        by_cases hneg : x - (g.p.size : Int) < 0
        · go_wp2_with (first | (refine wpList_load_mid rfl _ _ rfl b (off + k * 3) rfl g.cs _ HCK.out Try.underlying69 rfl (gl_size g) ?_) | (go_at_call 66; refine (szG_any g.p g.h g.n _ _ ⟨hx0, hx2⟩ hsz).mono ?_; rintro e w' ⟨rfl, x1⟩; rw [if_pos hneg]))
          go_ret
          exact ⟨_, fun h => absurd h (by decide), rfl, hx.trans x1⟩
        · go_wp2_with (first | (refine wpList_load_mid rfl _ _ rfl b (off + k * 3) rfl g.cs _ HCK.out Try.underlying69 rfl (gl_size g) ?_) | (go_at_call 66; refine (szG_any g.p g.h g.n _ _ ⟨hx0, hx2⟩ hsz).mono ?_; rintro e w' ⟨rfl, x1⟩; rw [if_neg hneg]))
          go_roundw
          case rel => exact ⟨k + 1, by omega, by go_num, ⟨_, rfl, by omega, by have := HX.out; rw [HT.out]; omega⟩, hx.trans x1⟩
          case measure => simp [intOf]; omega
      · obtain rfl : k = gs.length := by omega
        go_wp2
        go_ret
        exact ⟨_, fun _ => ⟨by omega, by have := HX.out; rw [List.take_length] at this; omega⟩, rfl, hx⟩

set_option maxHeartbeats 1000000 in
theorem toG_any (p : ByteArray) (h n : Int) (w : World) : Calls Try.prog 68 #[.agg #[.string p, .int .i64 h, .int .i64 n]] w fun e w' => e = .returned (.agg #[.string p, .int .i64 h, .int .i64 n]) ∧ Ext w w' := by
  go_enter Try.func68, Try.ntmps68
  go_wp2
  exact bodyPost_ret (results_cell_row (P := Try.prog) (p := 2) (ty := 66) rfl _ _ (w.heap.size + 1) 66 #[.string p, .int .i64 h, .int .i64 n] (0, 0) _ rfl (by rw [heap_alloc_old _ _ (by simp)]; exact heap_alloc2_new w _ _) Try.underlying66 rfl (by show _ = some 3; kernel_rfl)) rfl ⟨rfl, (((Ext.refl _).alloc _).alloc _).alloc _⟩

set_option maxHeartbeats 1000000 in
theorem eqG_any (p : ByteArray) (h n : Int) (w : World) : Calls Try.prog 70 #[.agg #[.string p, .int .i64 h, .int .i64 n], .agg #[.string p, .int .i64 h, .int .i64 n]] w fun e w' => e = .returned (.bool true) ∧ Ext w w' := by
  go_enter Try.func70, Try.ntmps70
  go_wp2
  go_ret
  exact ⟨rfl, ((Ext.refl _).alloc _).alloc _⟩

theorem info_gu : (Try.prog.info? 66).map (fun i => (i.zero, i.size, i.bytes)) = some (some (.agg #[.string ⟨#[]⟩, .int .i64 0, .int .i64 0]), 3, 32) := by kernel_rfl

/-- A copy that the call made. -/
def OwnG (w w' : World) (e : Ending) (gs : List Gu) : Prop := ∃ v, e = .returned v ∧ Gus w' v gs ∧ Ext w w'

theorem there3 {w : World} {base g n cap : Nat} {e : TypeId} {xs : List Value} (h : w.ownsRow base e 3 (.slice (some ⟨g, 0, none⟩) n cap) n xs) (k : Nat) (hk : k < n) : w.there g (k * 3) 3 := fun j hj => by
  have hL := h.1
  refine ⟨?_, h.frozenAt _⟩
  rw [h.cellAt (k * 3 + j) (by omega), List.getElem?_eq_getElem (by omega)]
  rfl
theorem setCells3 (w : World) (b o : Nat) (x y z : Value) : w.setCells b o [x, y, z] = ((w.setCell ⟨b, o, none⟩ x).setCell ⟨b, o + 1, none⟩ y).setCell ⟨b, o + 1 + 1, none⟩ z := rfl

set_option maxHeartbeats 1000000 in
theorem toGS_any (v : Value) (gs : List Gu) (w : World) (h : Gus w v gs) (hn : gs.length ≤ 1048576) : Calls Try.prog 33 #[v] w fun e w' => OwnG w w' e gs := by
  have HM := Lib.hid h.2.1
  have HS := Lib.hid h
  obtain ⟨i0, hi, hz0, hzs, hzb⟩ := info_parts info_gu
  have HI := Lib.hid (show Try.prog.info? 66 = some i0 ∧ i0.zero = some (.agg #[.string ⟨#[]⟩, .int .i64 0, .int .i64 0]) ∧ i0.size = 3 ∧ i0.bytes = 32 from ⟨hi, hz0, hzs, hzb⟩)
  clear hi hz0 hzs hzb
  obtain ⟨a, cap, hv, hnil⟩ := h.at
  have HN := Lib.hid hnil
  rw [hv] at HS ⊢
  clear hv hnil h v
  go_enter Try.func33, Try.ntmps33
  go_wp2_with (at_make; refine wpList_make_full _ rfl _ _ 39 rfl w.heap.size 66 i0 (.agg #[.string ⟨#[]⟩, .int .i64 0, .int .i64 0]) 3 Try.underlying39 HI.out.1 HI.out.2.1 HI.out.2.2.1 .i64 .i64 _ _ gs.length rfl rfl rfl rfl (by rw [HI.out.2.2.2]; omega) (by unfold maxLen; omega) (Nat.le_refl _) ?_; intro w1 hown hgr)
  have X1 : Ext w w1 := ext_grown (Ext.refl w) hgr (by intro k hk; cases hk)
  obtain ⟨xs1, hxs1⟩ : ∃ xs, xs = (madeCells (Value.agg #[.string ⟨#[]⟩, .int .i64 0, .int .i64 0]).cells (gs.length * 3)).toList := ⟨_, rfl⟩
  rw [← hxs1] at hown
  clear hxs1 hgr
  go_loopw [4] (fun i wr => ∃ k : Nat, k ≤ gs.length ∧ i = .int .i64 k ∧ ∃ xs : List Value, wr.ownsRow w.heap.size 66 3 (.slice (some ⟨w.heap.size, 0, none⟩) gs.length gs.length) gs.length xs ∧ (∀ j (hj : j < gs.length), j < k → xs[j * 3]? = some (.string gs[j].p) ∧ xs[j * 3 + 1]? = some (.int .i64 gs[j].h) ∧ xs[j * 3 + 1 + 1]? = some (.int .i64 gs[j].n)) ∧ Ext w wr) (fun i _ => gs.length - (intOf i).toNat)
  case atStart => exact ⟨0, Nat.zero_le _, rfl, xs1, hown, fun j _ h => absurd h (by omega), X1⟩
  case round =>
    obtain ⟨k, hk, rfl, xs, hown, hxs, hx⟩ := hrel
    have HO := Lib.hid hown
    have HX := Lib.hid hxs
    clear hown hxs
    by_cases hlt : k < gs.length
    · rcases (HS.out.ext hx).2.2 with ⟨h2, _⟩ | ⟨b, off, cap', h1, hb, hc⟩
      · rw [h2] at hlt; exact absurd hlt (by simp)
      · have ha : a = some ⟨b, off, none⟩ := by injection h1
        have HCK := Lib.hid (hc k hlt)
        rw [ha]
        have HG := Lib.hid (show gs[k] = gs[k] from rfl)
        obtain ⟨g, hg⟩ : ∃ g, g = gs[k] := ⟨_, rfl⟩
        rw [← hg] at HCK
        have HGK := Lib.hid hg
        clear hc h1 ha HS HN hg HG
        go_wp2_with (first | (refine wpList_load_mid rfl _ _ rfl b (off + k * 3) rfl g.cs _ HCK.out Try.underlying69 rfl (gl_size g) ?_) | (go_at_call 68; refine (toG_any g.p g.h g.n _).mono ?_; rintro e w' ⟨rfl, x1⟩; have H2 := Lib.hid (row_ext HO.out x1)) | (refine wpList_store_mid rfl _ _ _ rfl w.heap.size (k * 3) #[.string g.p, .int .i64 g.h, .int .i64 g.n] (by first | rfl | (rw [Nat.zero_add])) rfl (there3 H2.out k hlt) (by show _ = some 3; kernel_rfl) (by kernel_rfl) ?_))
        have O3 := (((H2.out.stored (k * 3) (.string g.p)).1).stored (k * 3 + 1) (.int .i64 g.h)).1.stored (k * 3 + 1 + 1) (.int .i64 g.n)
        go_roundw
        case rel =>
          refine ⟨k + 1, by omega, by go_num, _, O3.1, ?_, (((hx.trans x1).setCell (p := ⟨w.heap.size, k * 3, none⟩) (Nat.le_refl _) _).setCell (p := ⟨w.heap.size, k * 3 + 1, none⟩) (Nat.le_refl _) _).setCell (p := ⟨w.heap.size, k * 3 + 1 + 1, none⟩) (Nat.le_refl _) _⟩
          have hL := H2.out.1
          intro j hj hjk
          by_cases e : j = k
          · subst e
            rw [← HGK.out]
            refine ⟨?_, ?_, ?_⟩
            · rw [List.getElem?_set_ne (by omega), List.getElem?_set_ne (by omega), List.getElem?_set_self (by omega)]
            · rw [List.getElem?_set_ne (by omega), List.getElem?_set_self (by simp; omega)]
            · rw [List.getElem?_set_self (by simp; omega)]
          · obtain ⟨y0, y1, y2⟩ := HX.out j hj (by omega)
            refine ⟨?_, ?_, ?_⟩
            · rw [List.getElem?_set_ne (by omega), List.getElem?_set_ne (by omega), List.getElem?_set_ne (by omega)]; exact y0
            · rw [List.getElem?_set_ne (by omega), List.getElem?_set_ne (by omega), List.getElem?_set_ne (by omega)]; exact y1
            · rw [List.getElem?_set_ne (by omega), List.getElem?_set_ne (by omega), List.getElem?_set_ne (by omega)]; exact y2
        case measure => simp [intOf]; omega
    · go_wp2
      go_ret
      have hk' : k = gs.length := by omega
      refine ⟨_, rfl, ⟨by unfold maxLen; omega, HM.out, .inr ⟨w.heap.size, 0, gs.length, rfl, ?_, fun j hj => ?_⟩⟩, hx⟩
      · rcases HO.out.2 with ⟨h3, _⟩ | ⟨g, c, cur, h3, _, hg, _⟩
        · cases h3
        · cases h3
          rcases Nat.lt_or_ge w.heap.size wr.heap.size with h4 | h4
          · exact h4
          · rw [Array.getElem?_eq_none h4] at hg; cases hg
      · obtain ⟨y0, y1, y2⟩ := HX.out j hj (by omega)
        intro i v hv
        rw [Nat.zero_add, HO.out.cellAt (j * 3 + i) (by
          have : i < 3 := (List.getElem?_eq_some_iff.1 hv).1
          omega)]
        match i, hv with
        | 0, hv => rw [← hv]; exact y0
        | 1, hv => rw [← hv]; exact y1
        | 2, hv => rw [← hv]; exact y2

end Go.Proofs.Ytmpajijnpoekgaa
