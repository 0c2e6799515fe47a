/- The pad's table and what its functions answer at a letter. No conditions but the table's content. -/
import Derived.Test.YtioinihlahnbfaaDoorWord
import Derived.WalkKit
import Derived.WalkSpells
import Derived.WalkLawsBesides
import Derived.Lib.Hide
import Derived.Lib.Bytealg
import Derived.Laws.Externs
import Derived.Laws.Rows
import Derived.Handy
namespace Go.Proofs.YtioinihlahnbfaaDoor
open Go.RowKit

/-- Nothing that was there has changed. -/
def Ext (w w' : World) : Prop := Below w.heap.size w w'
theorem Ext.refl (w : World) : Ext w w := Below.refl _ _
theorem Ext.trans {a b c : World} (h : Ext a b) (k : Ext b c) : Ext a c := Below.trans h (Below.mono k h.size)
theorem Ext.drew {a b : World} (h : Ext a b) : Ext a b.drew := Below.drew h
theorem Ext.alloc {a b : World} (h : Ext a b) (o : Obj) : Ext a (b.alloc o) := Below.alloc h h.size o
theorem Ext.setCell {a b : World} (h : Ext a b) {p : Addr} (hp : a.heap.size ≤ p.block) (v : Value) : Ext a (b.setCell p v) := Below.setCell h hp v
theorem Ext.of_below {a b : World} {B : Nat} (h : Below B a b) (hB : a.heap.size ≤ B) : Ext a b := Below.mono h hB

/-- What the pad's table holds. -/
def padCells : Array Value := #[.int .u8 50, .string ⟨#[97, 98, 99]⟩, .int .u8 51, .string ⟨#[100, 101, 102]⟩, .int .u8 52, .string ⟨#[103, 104, 105]⟩, .int .u8 53, .string ⟨#[106, 107, 108]⟩, .int .u8 54, .string ⟨#[109, 110, 111]⟩, .int .u8 55, .string ⟨#[112, 113, 114, 115]⟩, .int .u8 56, .string ⟨#[116, 117, 118]⟩, .int .u8 57, .string ⟨#[119, 120, 121, 122]⟩]
def PadIs (w : World) : Prop := ∃ t fr, w.heap[0]? = some (.cells padCells t fr)
theorem PadIs.ext {w w' : World} (h : PadIs w) (k : Ext w w') : PadIs w' := by
  obtain ⟨t, fr, h⟩ := h
  have hlt : 0 < w.heap.size := by
    rcases Nat.lt_or_ge 0 w.heap.size with h2 | h2
    · exact h2
    · rw [Array.getElem?_eq_none h2] at h; cases h
  exact ⟨t, fr, (k.block _ hlt).trans h⟩

theorem idx_any (s : ByteArray) (c : Int) (w : World) : Calls Tryd.prog 91 #[.string s, .int .u8 c] w fun e w' => e = .returned (.int .i64 (Lib.indexByte s.data.toList c.toNat.toUInt8)) ∧ w = w' := by
  have h : ∀ w, (callFunc 121 #[.string s, .int .u8 c]).run Tryd.prog w = .ok (.value (.int .i64 (Lib.indexByte s.data.toList c.toNat.toUInt8))) w := fun w => by
    rw [run_callFunc_extern Tryd.func121 (by kernel_rfl) (by kernel_rfl) (by kernel_rfl) (e := Extern.BytealgIndexByte.indexByte) (by kernel_rfl), Lib.run_indexByteString]
    rfl
  go_enter Tryd.func91, Tryd.ntmps91
  go_wp2
  go_ret
  exact ⟨rfl, rfl⟩

theorem bcell1 {W wr : World} {o : Obj} (hb : Below (W.heap.size + 1) (W.alloc o) wr) : (∀ off, wr.cell? ⟨W.heap.size, off, none⟩ = (W.alloc o).cell? ⟨W.heap.size, off, none⟩) ∧ (∀ off, wr.frozen? ⟨W.heap.size, off, none⟩ = (W.alloc o).frozen? ⟨W.heap.size, off, none⟩) :=
  ⟨fun off => hb.cell (p := ⟨W.heap.size, off, none⟩) (Nat.lt_succ_self _), fun off => hb.frozen (p := ⟨W.heap.size, off, none⟩) (Nat.lt_succ_self _)⟩

/-- The key's digit, its letters and the letter's place on it. -/
def grp (c : Int) : Nat := if c < 100 then 0 else if c < 103 then 1 else if c < 106 then 2 else if c < 109 then 3 else if c < 112 then 4 else if c < 116 then 5 else if c < 119 then 6 else 7
def lo (k : Nat) : Int := [97, 100, 103, 106, 109, 112, 116, 119, 123].getD k 0
def dg (c : Int) : Int := 50 + grp c
def lt (k : Nat) : ByteArray := [⟨#[97, 98, 99]⟩, ⟨#[100, 101, 102]⟩, ⟨#[103, 104, 105]⟩, ⟨#[106, 107, 108]⟩, ⟨#[109, 110, 111]⟩, ⟨#[112, 113, 114, 115]⟩, ⟨#[116, 117, 118]⟩, ⟨#[119, 120, 121, 122]⟩].getD k ByteArray.empty
def pl (c : Int) : Int := c - lo (grp c)
def padV (c : Int) : Value := .agg #[.int .u8 (dg c), .string (lt (grp c)), .int .i64 (pl c)]

theorem pIx0 (w : World) : (Instr.index 101 (.agg padCells) (.int .i64 0)).run Tryd.prog w = .ok (.agg #[.int .u8 50, .string ⟨#[97, 98, 99]⟩]) w := by kernel_rfl
theorem pIx1 (w : World) : (Instr.index 101 (.agg padCells) (.int .i64 1)).run Tryd.prog w = .ok (.agg #[.int .u8 51, .string ⟨#[100, 101, 102]⟩]) w := by kernel_rfl
theorem pIx2 (w : World) : (Instr.index 101 (.agg padCells) (.int .i64 2)).run Tryd.prog w = .ok (.agg #[.int .u8 52, .string ⟨#[103, 104, 105]⟩]) w := by kernel_rfl
theorem pIx3 (w : World) : (Instr.index 101 (.agg padCells) (.int .i64 3)).run Tryd.prog w = .ok (.agg #[.int .u8 53, .string ⟨#[106, 107, 108]⟩]) w := by kernel_rfl
theorem pIx4 (w : World) : (Instr.index 101 (.agg padCells) (.int .i64 4)).run Tryd.prog w = .ok (.agg #[.int .u8 54, .string ⟨#[109, 110, 111]⟩]) w := by kernel_rfl
theorem pIx5 (w : World) : (Instr.index 101 (.agg padCells) (.int .i64 5)).run Tryd.prog w = .ok (.agg #[.int .u8 55, .string ⟨#[112, 113, 114, 115]⟩]) w := by kernel_rfl
theorem pIx6 (w : World) : (Instr.index 101 (.agg padCells) (.int .i64 6)).run Tryd.prog w = .ok (.agg #[.int .u8 56, .string ⟨#[116, 117, 118]⟩]) w := by kernel_rfl
theorem pIx7 (w : World) : (Instr.index 101 (.agg padCells) (.int .i64 7)).run Tryd.prog w = .ok (.agg #[.int .u8 57, .string ⟨#[119, 120, 121, 122]⟩]) w := by kernel_rfl

theorem byteOf (c : Int) (n : Nat) (h : c = n) : c.toNat.toUInt8 = n.toUInt8 := by rw [h]; rfl

theorem no_idx (c : Int) (h2 : c < 256) : ∀ (l : List UInt8), (∀ x ∈ l, (x.toNat : Int) ≠ c) → 0 ≤ c → Lib.indexByte l c.toNat.toUInt8 = -1
  | [], _, _ => rfl
  | b :: l, h, h1 => by
    have hx : (b == c.toNat.toUInt8) = false := by
      have := h b (by simp)
      rw [beq_eq_false_iff_ne]
      rintro rfl
      apply this
      simp
      omega
    have ih := no_idx c h2 l (fun x hx => h x (by simp [hx])) h1
    simp only [Lib.indexByte, hx, ih]
    rfl

set_option maxHeartbeats 1000000 in
theorem padOf_any (c : Int) (w : World) (hp : PadIs w) (hc : isL c = true) : Calls Tryd.prog 72 #[.int .u8 c] w fun e w' => e = .returned (padV c) ∧ Ext w w' := by
  have hp1 := fun o => hp.ext ((Ext.refl w).alloc o)
  have hg1 : ∀ o, ∃ t fr, (w.alloc o).heap[0]? = some (.cells padCells t fr) := hp1
  have HG := Lib.hid hg1
  clear hp1 hg1
  have hb : 97 ≤ c ∧ c ≤ 122 := by unfold isL at hc; simp at hc; omega
  obtain ⟨hb1, hb2⟩ := hb
  clear hc
  go_enter Tryd.func72, Tryd.ntmps72
  go_wp2_with (obtain ⟨t, fr, hg⟩ := HG.out _; refine wpList_load_row rfl 101 _ rfl 0 rfl t padCells fr _ hg Tryd.underlying101 rfl (by kernel_rfl) ?_; clear hg)
  clear t fr
  go_loopw [7] (fun i wr => ∃ k : Nat, k < 8 ∧ i = .int .i64 k ∧ lo k ≤ c ∧ Below (w.heap.size + 1) (w.alloc (.cells #[.int .u8 0, .string ⟨#[]⟩, .int .i64 0] 72)) wr) (fun i _ => 8 - (intOf i).toNat)
  case atStart => exact ⟨0, by omega, rfl, hb1, Below.refl _ _⟩
  case round =>
    obtain ⟨k, hk, rfl, hlo, hbw⟩ := hrel
    obtain ⟨hcl, hfz⟩ := bcell1 hbw
    have r0 : wr.cell? ⟨w.heap.size, 0, none⟩ = some (.int .u8 0) := (hcl 0).trans (by simp)
    have r1 : wr.cell? ⟨w.heap.size, 1, none⟩ = some (.string ⟨#[]⟩) := (hcl 1).trans (by simp)
    have r2 : wr.cell? ⟨w.heap.size, 2, none⟩ = some (.int .i64 0) := (hcl 2).trans (by simp)
    have z0 : wr.frozen? ⟨w.heap.size, 0, none⟩ = false := (hfz 0).trans (by simp)
    have z1 : wr.frozen? ⟨w.heap.size, 1, none⟩ = false := (hfz 1).trans (by simp)
    have z2 : wr.frozen? ⟨w.heap.size, 2, none⟩ = false := (hfz 2).trans (by simp)
    clear hcl hfz
    have hsz := hbw.size
    have HB := Lib.hid hbw
    clear hbw
    replace hsz : w.heap.size < wr.heap.size := by simp at hsz; omega
    have HX : Hid (Ext w wr) := ((Below.refl w.heap.size w).alloc (Nat.le_refl _) _).trans (HB.out.mono (Nat.le_succ _))
    match k, hk with
    | 0, _ =>
      have g0 := pIx0
      replace hlo : 97 ≤ c := hlo
      by_cases hh : c < 100
      · have gi : Lib.indexByte [97, 98, 99] c.toNat.toUInt8 = c - 97 := by
          obtain rfl | rfl | rfl : c = 97 ∨ c = 98 ∨ c = 99 := by omega
          all_goals rfl
        have gv : padV c = .agg #[.int .u8 50, .string ⟨#[97, 98, 99]⟩, .int .i64 (c - 97)] := by
          have e : grp c = 0 := by unfold grp; repeat (first | rw [if_neg (by omega)] | rw [if_pos (by omega)])
          unfold padV dg pl; rw [e]; rfl
        have GV := Lib.hid gv
        clear gv
        go_wp2_with (go_at_call 91; refine (idx_any _ _ _).mono ?_; rintro e w' ⟨rfl, rfl⟩)
        refine bodyPost_ret (v := .agg #[.int .u8 50, .string ⟨#[97, 98, 99]⟩, .int .i64 (c - 97)]) (by simp [results, Tryd.results72, go_sem, hsz, r0, r1, r2]) rfl ?_
        exact ⟨by rw [GV.out], (((HX.out.setCell (Nat.le_refl _) _).setCell (Nat.le_refl _) _).setCell (Nat.le_refl _) _).alloc _⟩
      · have gi : Lib.indexByte [97, 98, 99] c.toNat.toUInt8 = -1 := no_idx c (by omega) _ (by intro x hx; simp at hx; rcases hx with rfl | rfl | rfl <;> simp <;> omega) (by omega)
        go_wp2_with (go_at_call 91; refine (idx_any _ _ _).mono ?_; rintro e w' ⟨rfl, rfl⟩)
        go_roundw
        case rel => exact ⟨1, by omega, rfl, by show 100 ≤ c; omega, HB.out.alloc (by omega) _⟩
        case measure => simp [intOf]
    | 1, _ =>
      have g0 := pIx1
      replace hlo : 100 ≤ c := hlo
      by_cases hh : c < 103
      · have gi : Lib.indexByte [100, 101, 102] c.toNat.toUInt8 = c - 100 := by
          obtain rfl | rfl | rfl : c = 100 ∨ c = 101 ∨ c = 102 := by omega
          all_goals rfl
        have gv : padV c = .agg #[.int .u8 51, .string ⟨#[100, 101, 102]⟩, .int .i64 (c - 100)] := by
          have e : grp c = 1 := by unfold grp; repeat (first | rw [if_neg (by omega)] | rw [if_pos (by omega)])
          unfold padV dg pl; rw [e]; rfl
        have GV := Lib.hid gv
        clear gv
        go_wp2_with (go_at_call 91; refine (idx_any _ _ _).mono ?_; rintro e w' ⟨rfl, rfl⟩)
        refine bodyPost_ret (v := .agg #[.int .u8 51, .string ⟨#[100, 101, 102]⟩, .int .i64 (c - 100)]) (by simp [results, Tryd.results72, go_sem, hsz, r0, r1, r2]) rfl ?_
        exact ⟨by rw [GV.out], (((HX.out.setCell (Nat.le_refl _) _).setCell (Nat.le_refl _) _).setCell (Nat.le_refl _) _).alloc _⟩
      · have gi : Lib.indexByte [100, 101, 102] c.toNat.toUInt8 = -1 := no_idx c (by omega) _ (by intro x hx; simp at hx; rcases hx with rfl | rfl | rfl <;> simp <;> omega) (by omega)
        go_wp2_with (go_at_call 91; refine (idx_any _ _ _).mono ?_; rintro e w' ⟨rfl, rfl⟩)
        go_roundw
        case rel => exact ⟨2, by omega, rfl, by show 103 ≤ c; omega, HB.out.alloc (by omega) _⟩
        case measure => simp [intOf]
    | 2, _ =>
      have g0 := pIx2
      replace hlo : 103 ≤ c := hlo
      by_cases hh : c < 106
      · have gi : Lib.indexByte [103, 104, 105] c.toNat.toUInt8 = c - 103 := by
          obtain rfl | rfl | rfl : c = 103 ∨ c = 104 ∨ c = 105 := by omega
          all_goals rfl
        have gv : padV c = .agg #[.int .u8 52, .string ⟨#[103, 104, 105]⟩, .int .i64 (c - 103)] := by
          have e : grp c = 2 := by unfold grp; repeat (first | rw [if_neg (by omega)] | rw [if_pos (by omega)])
          unfold padV dg pl; rw [e]; rfl
        have GV := Lib.hid gv
        clear gv
        go_wp2_with (go_at_call 91; refine (idx_any _ _ _).mono ?_; rintro e w' ⟨rfl, rfl⟩)
        refine bodyPost_ret (v := .agg #[.int .u8 52, .string ⟨#[103, 104, 105]⟩, .int .i64 (c - 103)]) (by simp [results, Tryd.results72, go_sem, hsz, r0, r1, r2]) rfl ?_
        exact ⟨by rw [GV.out], (((HX.out.setCell (Nat.le_refl _) _).setCell (Nat.le_refl _) _).setCell (Nat.le_refl _) _).alloc _⟩
      · have gi : Lib.indexByte [103, 104, 105] c.toNat.toUInt8 = -1 := no_idx c (by omega) _ (by intro x hx; simp at hx; rcases hx with rfl | rfl | rfl <;> simp <;> omega) (by omega)
        go_wp2_with (go_at_call 91; refine (idx_any _ _ _).mono ?_; rintro e w' ⟨rfl, rfl⟩)
        go_roundw
        case rel => exact ⟨3, by omega, rfl, by show 106 ≤ c; omega, HB.out.alloc (by omega) _⟩
        case measure => simp [intOf]
    | 3, _ =>
      have g0 := pIx3
      replace hlo : 106 ≤ c := hlo
      by_cases hh : c < 109
      · have gi : Lib.indexByte [106, 107, 108] c.toNat.toUInt8 = c - 106 := by
          obtain rfl | rfl | rfl : c = 106 ∨ c = 107 ∨ c = 108 := by omega
          all_goals rfl
        have gv : padV c = .agg #[.int .u8 53, .string ⟨#[106, 107, 108]⟩, .int .i64 (c - 106)] := by
          have e : grp c = 3 := by unfold grp; repeat (first | rw [if_neg (by omega)] | rw [if_pos (by omega)])
          unfold padV dg pl; rw [e]; rfl
        have GV := Lib.hid gv
        clear gv
        go_wp2_with (go_at_call 91; refine (idx_any _ _ _).mono ?_; rintro e w' ⟨rfl, rfl⟩)
        refine bodyPost_ret (v := .agg #[.int .u8 53, .string ⟨#[106, 107, 108]⟩, .int .i64 (c - 106)]) (by simp [results, Tryd.results72, go_sem, hsz, r0, r1, r2]) rfl ?_
        exact ⟨by rw [GV.out], (((HX.out.setCell (Nat.le_refl _) _).setCell (Nat.le_refl _) _).setCell (Nat.le_refl _) _).alloc _⟩
      · have gi : Lib.indexByte [106, 107, 108] c.toNat.toUInt8 = -1 := no_idx c (by omega) _ (by intro x hx; simp at hx; rcases hx with rfl | rfl | rfl <;> simp <;> omega) (by omega)
        go_wp2_with (go_at_call 91; refine (idx_any _ _ _).mono ?_; rintro e w' ⟨rfl, rfl⟩)
        go_roundw
        case rel => exact ⟨4, by omega, rfl, by show 109 ≤ c; omega, HB.out.alloc (by omega) _⟩
        case measure => simp [intOf]
    | 4, _ =>
      have g0 := pIx4
      replace hlo : 109 ≤ c := hlo
      by_cases hh : c < 112
      · have gi : Lib.indexByte [109, 110, 111] c.toNat.toUInt8 = c - 109 := by
          obtain rfl | rfl | rfl : c = 109 ∨ c = 110 ∨ c = 111 := by omega
          all_goals rfl
        have gv : padV c = .agg #[.int .u8 54, .string ⟨#[109, 110, 111]⟩, .int .i64 (c - 109)] := by
          have e : grp c = 4 := by unfold grp; repeat (first | rw [if_neg (by omega)] | rw [if_pos (by omega)])
          unfold padV dg pl; rw [e]; rfl
        have GV := Lib.hid gv
        clear gv
        go_wp2_with (go_at_call 91; refine (idx_any _ _ _).mono ?_; rintro e w' ⟨rfl, rfl⟩)
        refine bodyPost_ret (v := .agg #[.int .u8 54, .string ⟨#[109, 110, 111]⟩, .int .i64 (c - 109)]) (by simp [results, Tryd.results72, go_sem, hsz, r0, r1, r2]) rfl ?_
        exact ⟨by rw [GV.out], (((HX.out.setCell (Nat.le_refl _) _).setCell (Nat.le_refl _) _).setCell (Nat.le_refl _) _).alloc _⟩
      · have gi : Lib.indexByte [109, 110, 111] c.toNat.toUInt8 = -1 := no_idx c (by omega) _ (by intro x hx; simp at hx; rcases hx with rfl | rfl | rfl <;> simp <;> omega) (by omega)
        go_wp2_with (go_at_call 91; refine (idx_any _ _ _).mono ?_; rintro e w' ⟨rfl, rfl⟩)
        go_roundw
        case rel => exact ⟨5, by omega, rfl, by show 112 ≤ c; omega, HB.out.alloc (by omega) _⟩
        case measure => simp [intOf]
    | 5, _ =>
      have g0 := pIx5
      replace hlo : 112 ≤ c := hlo
      by_cases hh : c < 116
      · have gi : Lib.indexByte [112, 113, 114, 115] c.toNat.toUInt8 = c - 112 := by
          obtain rfl | rfl | rfl | rfl : c = 112 ∨ c = 113 ∨ c = 114 ∨ c = 115 := by omega
          all_goals rfl
        have gv : padV c = .agg #[.int .u8 55, .string ⟨#[112, 113, 114, 115]⟩, .int .i64 (c - 112)] := by
          have e : grp c = 5 := by unfold grp; repeat (first | rw [if_neg (by omega)] | rw [if_pos (by omega)])
          unfold padV dg pl; rw [e]; rfl
        have GV := Lib.hid gv
        clear gv
        go_wp2_with (go_at_call 91; refine (idx_any _ _ _).mono ?_; rintro e w' ⟨rfl, rfl⟩)
        refine bodyPost_ret (v := .agg #[.int .u8 55, .string ⟨#[112, 113, 114, 115]⟩, .int .i64 (c - 112)]) (by simp [results, Tryd.results72, go_sem, hsz, r0, r1, r2]) rfl ?_
        exact ⟨by rw [GV.out], (((HX.out.setCell (Nat.le_refl _) _).setCell (Nat.le_refl _) _).setCell (Nat.le_refl _) _).alloc _⟩
      · have gi : Lib.indexByte [112, 113, 114, 115] c.toNat.toUInt8 = -1 := no_idx c (by omega) _ (by intro x hx; simp at hx; rcases hx with rfl | rfl | rfl | rfl <;> simp <;> omega) (by omega)
        go_wp2_with (go_at_call 91; refine (idx_any _ _ _).mono ?_; rintro e w' ⟨rfl, rfl⟩)
        go_roundw
        case rel => exact ⟨6, by omega, rfl, by show 116 ≤ c; omega, HB.out.alloc (by omega) _⟩
        case measure => simp [intOf]
    | 6, _ =>
      have g0 := pIx6
      replace hlo : 116 ≤ c := hlo
      by_cases hh : c < 119
      · have gi : Lib.indexByte [116, 117, 118] c.toNat.toUInt8 = c - 116 := by
          obtain rfl | rfl | rfl : c = 116 ∨ c = 117 ∨ c = 118 := by omega
          all_goals rfl
        have gv : padV c = .agg #[.int .u8 56, .string ⟨#[116, 117, 118]⟩, .int .i64 (c - 116)] := by
          have e : grp c = 6 := by unfold grp; repeat (first | rw [if_neg (by omega)] | rw [if_pos (by omega)])
          unfold padV dg pl; rw [e]; rfl
        have GV := Lib.hid gv
        clear gv
        go_wp2_with (go_at_call 91; refine (idx_any _ _ _).mono ?_; rintro e w' ⟨rfl, rfl⟩)
        refine bodyPost_ret (v := .agg #[.int .u8 56, .string ⟨#[116, 117, 118]⟩, .int .i64 (c - 116)]) (by simp [results, Tryd.results72, go_sem, hsz, r0, r1, r2]) rfl ?_
        exact ⟨by rw [GV.out], (((HX.out.setCell (Nat.le_refl _) _).setCell (Nat.le_refl _) _).setCell (Nat.le_refl _) _).alloc _⟩
      · have gi : Lib.indexByte [116, 117, 118] c.toNat.toUInt8 = -1 := no_idx c (by omega) _ (by intro x hx; simp at hx; rcases hx with rfl | rfl | rfl <;> simp <;> omega) (by omega)
        go_wp2_with (go_at_call 91; refine (idx_any _ _ _).mono ?_; rintro e w' ⟨rfl, rfl⟩)
        go_roundw
        case rel => exact ⟨7, by omega, rfl, by show 119 ≤ c; omega, HB.out.alloc (by omega) _⟩
        case measure => simp [intOf]
    | 7, _ =>
      have g0 := pIx7
      replace hlo : 119 ≤ c := hlo
      have gi : Lib.indexByte [119, 120, 121, 122] c.toNat.toUInt8 = c - 119 := by
        obtain rfl | rfl | rfl | rfl : c = 119 ∨ c = 120 ∨ c = 121 ∨ c = 122 := by omega
        all_goals rfl
      have gv : padV c = .agg #[.int .u8 57, .string ⟨#[119, 120, 121, 122]⟩, .int .i64 (c - 119)] := by
        have e : grp c = 7 := by unfold grp; repeat (first | rw [if_neg (by omega)] | rw [if_pos (by omega)])
        unfold padV dg pl; rw [e]; rfl
      have GV := Lib.hid gv
      clear gv
      go_wp2_with (go_at_call 91; refine (idx_any _ _ _).mono ?_; rintro e w' ⟨rfl, rfl⟩)
      refine bodyPost_ret (v := .agg #[.int .u8 57, .string ⟨#[119, 120, 121, 122]⟩, .int .i64 (c - 119)]) (by simp [results, Tryd.results72, go_sem, hsz, r0, r1, r2]) rfl ?_
      exact ⟨by rw [GV.out], (((HX.out.setCell (Nat.le_refl _) _).setCell (Nat.le_refl _) _).setCell (Nat.le_refl _) _).alloc _⟩

end Go.Proofs.YtioinihlahnbfaaDoor
