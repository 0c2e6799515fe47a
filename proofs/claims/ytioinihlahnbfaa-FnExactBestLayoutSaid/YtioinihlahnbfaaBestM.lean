/- The model's table of least presses: one own row after the other. No conditions. -/
import Derived.Test.YtioinihlahnbfaaBest3
namespace Go.Proofs.Ytioinihlahnbfaa
open Go.RowKit

/-- Twenty-seven numbers in a block of the call's own. -/
def RowT (B : Nat) (w : World) (g : Nat) (t : Nat → Int) : Prop := w.ownsRow B 3 1 (.slice (some ⟨g, 0, none⟩) 27 27) 27 (row27 t)
theorem RowT.ext {B : Nat} {w w' : World} {g : Nat} {t : Nat → Int} (h : RowT B w g t) (hx : Ext w w') : RowT B w' g t := row_ext h hx
theorem row27_at (t : Nat → Int) (j : Nat) (h : j < 27) : (row27 t)[j]? = some (.int .i64 (t j)) := by
  unfold row27
  rw [List.getElem?_map, List.getElem?_range h]
  rfl
theorem RowT.at {B : Nat} {w : World} {g : Nat} {t : Nat → Int} (h : RowT B w g t) (j : Nat) (hj : j < 27) : w.cell? ⟨g, j, none⟩ = some (.int .i64 (t j)) := (World.ownsRow.cellAt h j (by omega)).trans (row27_at t j hj)
theorem RowT.fr {B : Nat} {w : World} {g : Nat} {t : Nat → Int} (h : RowT B w g t) (j : Nat) : w.frozen? ⟨g, j, none⟩ = false := World.ownsRow.frozenAt h j
theorem row27_set (t : Nat → Int) (i : Nat) (x : Int) : (row27 t).set i (.int .i64 x) = row27 (fun j => if j = i then x else t j) := by
  apply List.ext_getElem?
  intro j
  by_cases hj : j < 27
  · by_cases e : j = i
    · subst e
      rw [List.getElem?_set_self (by rw [row27_len]; exact hj), row27_at _ _ hj]
      simp
    · rw [List.getElem?_set_ne (fun h => e h.symm), row27_at _ _ hj, row27_at _ _ hj, if_neg e]
  · rw [List.getElem?_eq_none (by rw [List.length_set, row27_len]; omega), List.getElem?_eq_none (by rw [row27_len]; omega)]
theorem RowT.set {B : Nat} {w : World} {g : Nat} {t : Nat → Int} (h : RowT B w g t) (i : Nat) (x : Int) : RowT B (w.setCell ⟨g, i, none⟩ (.int .i64 x)) g (fun j => if j = i then x else t j) := by
  have := (World.ownsRow.stored h i (.int .i64 x)).1
  rw [row27_set] at this
  exact this
theorem RowT.congr {B : Nat} {w : World} {g : Nat} {t t' : Nat → Int} (h : RowT B w g t) (he : ∀ j, j < 27 → t j = t' j) : RowT B w g t' := by
  have : row27 t = row27 t' := by
    unfold row27
    exact List.map_congr_left fun j hj => by rw [he j (List.mem_range.1 hj)]
  unfold RowT
  rw [← this]
  exact h
theorem RowT.lt {B : Nat} {w : World} {g : Nat} {t : Nat → Int} (h : RowT B w g t) : B ≤ g ∧ g < w.heap.size := World.ownsRow.lt h g rfl
theorem RowT.made {B : Nat} {w : World} {g : Nat} {xs : List Value} (h : w.ownsRow B 3 1 (.slice (some ⟨g, 0, none⟩) 27 27) 27 xs) (hz : xs = (madeCells (Value.int .i64 0).cells (27 * 1)).toList) : RowT B w g (fun _ => 0) := by
  have e : xs = row27 (fun _ => 0) := by
    rw [hz, Nat.mul_one]
    apply List.ext_getElem?
    intro j
    by_cases hj : j < 27
    · rw [row27_at _ _ hj]
      simp [madeCells, Value.cells, hj, Nat.mod_one]
    · rw [List.getElem?_eq_none (by simp [madeCells]; omega), List.getElem?_eq_none (by rw [row27_len]; omega)]
  unfold RowT
  rw [← e]
  exact h
theorem least_any (a b : Int) (w : World) : Calls Try.prog 44 #[.int .i64 a, .int .i64 b] w fun e w' => e = .returned (.int .i64 (if a < b then a else b)) ∧ w = w' := by
  by_cases h : a < b
  · rw [if_pos h]
    go_enter Try.func44, Try.ntmps44
    go_wp2
    go_ret
    exact ⟨rfl, rfl⟩
  · rw [if_neg h]
    go_enter Try.func44, Try.ntmps44
    go_wp2
    go_ret
    exact ⟨rfl, rfl⟩
theorem all_any (v : Value) (zs : List Int) (w : World) (h : IntsA w v zs) : Calls Try.prog 32 #[v, .int .i64 0, .int .i64 1000] w fun e w' => e = .returned (.bool (zs.all okC)) ∧ Ext w w' := by
  have HS := Lib.hid h
  have hlm := h.1
  unfold maxLen at hlm
  obtain ⟨a, cap, hv⟩ := h.at
  rw [hv] at HS ⊢
  clear hv h v
  obtain ⟨L, hL⟩ : ∃ L, L = zs.length := ⟨_, rfl⟩
  have HL := Lib.hid hL
  rw [← hL] at hlm HS ⊢
  clear hL
  go_enter Try.func32, Try.ntmps32
  go_wp2
  go_loopw [11] (fun i wr => ∃ k : Nat, k ≤ L ∧ i = .int .i64 k ∧ (∀ j (hj : j < zs.length), j < k → okC zs[j] = true) ∧ Ext w wr) (fun i _ => L - (intOf i).toNat)
  case atStart => exact ⟨0, Nat.zero_le _, rfl, fun j _ h => absurd h (by omega), Ext.refl _⟩
  case round =>
    obtain ⟨k, hk, rfl, hall, hx⟩ := hrel
    have HA := Lib.hid hall
    clear hall
    by_cases hlt : k < L
    · have hlz : k < zs.length := by have := HL.out; omega
      rcases (HS.out.ext hx).2 with ⟨h3, _⟩ | ⟨b, off, cap', h4, hb, hc⟩
      · rw [h3] at hlz; exact absurd hlz (by simp)
      have ha : a = some ⟨b, off, none⟩ := by injection h4
      have e1 := hc k hlz
      clear hc h4 hb
      subst ha
      obtain ⟨z, hz⟩ : ∃ z, z = zs[k] := ⟨_, rfl⟩
      have HZ := Lib.hid hz
      rw [← hz] at e1
      clear hz
      cases hb : inB z 0 1000
      · have H := Lib.hid (show zs.all okC = false by rw [List.all_eq_false]; exact ⟨zs[k], List.getElem_mem hlz, by rw [← HZ.out]; unfold okC; unfold inB at hb; rw [hb]; simp⟩)
        go_wp2_with (go_at_call 21; refine (in_any _ _ _ _).mono ?_; rintro e w' ⟨rfl, rfl⟩; rw [hb])
        go_ret
        exact ⟨ret_bool H.out.symm, hx⟩
      · have HN := Lib.hid (show ∀ j (hj : j < zs.length), j < k + 1 → okC zs[j] = true from fun j hj hjk => by
          by_cases e : j = k
          · subst e; rw [← HZ.out]; exact hb
          · exact HA.out j hj (by omega))
        go_wp2_with (go_at_call 21; refine (in_any _ _ _ _).mono ?_; rintro e w' ⟨rfl, rfl⟩; rw [hb])
        go_roundw
        case rel => exact ⟨k + 1, by omega, by go_num, HN.out, hx⟩
        case measure => simp [intOf]; omega
    · have H := Lib.hid (show zs.all okC = true by
        rw [List.all_eq_true]
        intro x hxm
        obtain ⟨j, hj, rfl⟩ := List.mem_iff_getElem.1 hxm
        exact HA.out j hj (by have := HL.out; omega))
      go_wp2
      go_ret
      exact ⟨ret_bool H.out.symm, hx⟩

/-- The model's rows: all made, each the table's. -/
def Rows2 (B : Nat) (w : World) (v : Value) (c : Nat → Nat) (n : Nat) (U : Nat → Nat) : Prop := w.ownsRow B 31 1 v n ((List.range n).map fun k => .slice (some ⟨U k, 0, none⟩) 27 27) ∧ ∀ k, k < n → RowT B w (U k) (fun e => (dp c k e : Int))
theorem Rows2.ext {B : Nat} {w w' : World} {v : Value} {c : Nat → Nat} {n : Nat} {U : Nat → Nat} (h : Rows2 B w v c n U) (hx : Ext w w') : Rows2 B w' v c n U := ⟨row_ext h.1 hx, fun k hk => (h.2 k hk).ext hx⟩
theorem Rows2.shape {B : Nat} {w : World} {v : Value} {c : Nat → Nat} {n : Nat} {U : Nat → Nat} (h : Rows2 B w v c n U) : ∃ a cap, v = .slice a n cap := by
  rcases h.1.2 with ⟨rfl, hn⟩ | ⟨g, cap, cur, rfl, _⟩
  · exact ⟨none, 0, by rw [hn]⟩
  · exact ⟨_, _, rfl⟩
theorem Rows2.at {B : Nat} {w : World} {a : Option Addr} {cap : Nat} {c : Nat → Nat} {n : Nat} {U : Nat → Nat} (h : Rows2 B w (.slice a n cap) c n U) (j : Nat) (hj : j < n) : ∃ g, a = some ⟨g, 0, none⟩ ∧ B ≤ g ∧ g < w.heap.size ∧ w.cell? ⟨g, j, none⟩ = some (.slice (some ⟨U j, 0, none⟩) 27 27) := by
  have hh := h.1
  rcases h.1.2 with ⟨_, hn⟩ | ⟨g, cap', cur, e, hb, hg, _⟩
  · omega
  · injection e with e1 e2 e3
    subst e1; subst e3
    refine ⟨g, rfl, hb, heap_lt hg, (World.ownsRow.cellAt hh j (by omega)).trans ?_⟩
    rw [List.getElem?_map, List.getElem?_range hj]; rfl
theorem Rows2.snoc {B : Nat} {w9 w5 : World} {o v5 : Value} {c : Nat → Nat} {n : Nat} {U : Nat → Nat} {g : Nat} {z : Obj} (h : Rows2 B w9 o c n U) (hg : RowT B w9 g (fun e => (dp c n e : Int))) (own5 : w5.ownsRow B 31 1 v5 (n + 1) (((List.range n).map fun k => .slice (some ⟨U k, 0, none⟩) 27 27) ++ [.slice (some ⟨g, 0, none⟩) 27 27])) (gr5 : (w9.alloc z).grownBy w5 o.ownBlock) :
    Rows2 B w5 v5 c (n + 1) (fun k => if k = n then g else U k) := by
  have hz : Ext w9 (w9.alloc z) := (Ext.refl _).alloc _
  have ho : ∀ (u : Nat) (t : Nat → Int), RowT B w9 u t → (Value.slice (some ⟨u, 0, none⟩) 27 27).ownBlock = none ∨ (Value.slice (some ⟨u, 0, none⟩) 27 27).ownBlock ≠ o.ownBlock := fun u t hu => by
    rcases h.1.2 with ⟨rfl, _⟩ | ⟨b, cap, cur, rfl, _, hgb, _⟩
    · exact .inr (by intro e; cases e)
    · refine .inr fun e => ?_
      have e : u = b := by injection e
      subst e
      rcases hu.2 with ⟨h0, _⟩ | ⟨g2, cap2, cur2, h0, _, hg2, _⟩
      · cases h0
      · injection h0 with h0
        injection h0 with h0
        injection h0 with h0
        subst h0
        rw [hgb] at hg2
        injection hg2 with hg2
        injection hg2 with _ h2
        exact absurd h2 (by decide)
  refine ⟨?_, fun k hk => ?_⟩
  · have e : ((List.range (n + 1)).map fun k => Value.slice (some ⟨(if k = n then g else U k), 0, none⟩) 27 27) = ((List.range n).map fun k => .slice (some ⟨U k, 0, none⟩) 27 27) ++ [.slice (some ⟨g, 0, none⟩) 27 27] := by
      rw [List.range_succ, List.map_append]
      congr 1
      · refine List.map_congr_left fun i hi => ?_
        rw [if_neg (by have := List.mem_range.1 hi; omega)]
      · simp
    rw [e]
    exact own5
  · by_cases e : k = n
    · subst e
      simp only [if_true]
      exact World.ownsRow.kept (row_ext hg hz) gr5 (ho _ _ hg)
    · simp only [if_neg e]
      exact World.ownsRow.kept (row_ext (h.2 k (by omega)) hz) gr5 (ho _ _ (h.2 k (by omega)))
theorem info_lsI : (Try.prog.info? 31).map (fun i => (i.zero, i.size, i.bytes)) = some (some (.slice none 0 0), 1, 24) := by kernel_rfl

end Go.Proofs.Ytioinihlahnbfaa
