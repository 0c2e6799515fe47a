/- The program's table of distances. No conditions. -/
import Derived.Test.YtnoidabmbckfkabLev
import Derived.Test.YtnoidabmbckfkabCol
import Derived.Laws.Rows
import Derived.Deep.RegionWith
import Derived.Deep.RegionHeld3
import Derived.Deep.Cut
import Derived.StillTailTactics
import Derived.Lib.MinMax
namespace Go.Proofs.Ytnoidabmbckfkab
open Go.RowKit

theorem heapLtT {w : World} {g : Nat} {o : Obj} (h : w.heap[g]? = some o) : g < w.heap.size := (Array.getElem?_eq_some_iff.1 h).1
def tabT (t : Nat → Nat → Int) : List Value := (List.range 441).map fun j => .int .i64 (t (j / 21) (j % 21))
theorem tabT_len (t : Nat → Nat → Int) : (tabT t).length = 441 := by simp [tabT]
theorem tabT_at (t : Nat → Nat → Int) (r c : Nat) (hr : r < 21) (hc : c < 21) : (tabT t)[r * 21 + c]? = some (.int .i64 (t r c)) := by
  unfold tabT
  rw [List.getElem?_map, List.getElem?_range (by omega)]
  show some (Value.int .i64 (t ((r * 21 + c) / 21) ((r * 21 + c) % 21))) = _
  rw [show (r * 21 + c) / 21 = r by omega, show (r * 21 + c) % 21 = c by omega]
theorem tabT_set (t : Nat → Nat → Int) (r c : Nat) (hc : c < 21) (x : Int) : (tabT t).set (r * 21 + c) (.int .i64 x) = tabT (fun a b => if a = r ∧ b = c then x else t a b) := by
  apply List.ext_getElem?
  intro j
  by_cases hj : j < 441
  · have e1 : ∀ t : Nat → Nat → Int, (tabT t)[j]? = some (.int .i64 (t (j / 21) (j % 21))) := fun t => by unfold tabT; rw [List.getElem?_map, List.getElem?_range hj]; rfl
    rw [e1]
    by_cases e : r * 21 + c = j
    · subst e
      rw [List.getElem?_set_self (by rw [tabT_len]; exact hj), if_pos ⟨by omega, by omega⟩]
    · rw [List.getElem?_set_ne e, e1, if_neg (by omega)]
  · rw [List.getElem?_eq_none (by rw [List.length_set, tabT_len]; omega), List.getElem?_eq_none (by rw [tabT_len]; omega)]
theorem tabT_congr {t t' : Nat → Nat → Int} (he : ∀ r c, r < 21 → c < 21 → t r c = t' r c) : tabT t = tabT t' := by
  unfold tabT
  apply List.map_congr_left
  intro j hj
  have := List.mem_range.1 hj
  rw [he (j / 21) (j % 21) (by omega) (by omega)]
/-- A table of twenty-one rows in a block. -/
def TabT (w : World) (C : Nat) (t : Nat → Nat → Int) : Prop := w.heap[C]? = some (.cells (tabT t).toArray 63)
theorem TabT.lt {w : World} {C : Nat} {t : Nat → Nat → Int} (h : TabT w C t) : C < w.heap.size := heapLtT h
theorem TabT.ext {w w' : World} {C : Nat} {t : Nat → Nat → Int} (h : TabT w C t) (hx : Ext w w') : TabT w' C t := (hx.block C h.lt).trans h
theorem TabT.at {w : World} {C : Nat} {t : Nat → Nat → Int} (h : TabT w C t) (r c : Nat) (hr : r < 21) (hc : c < 21) : w.cell? ⟨C, r * 21 + c, none⟩ = some (.int .i64 (t r c)) := by
  rw [cell_of_row w C _ _ _ _ h, List.getElem?_toArray, tabT_at t r c hr hc]
theorem TabT.fr {w : World} {C : Nat} {t : Nat → Nat → Int} (h : TabT w C t) (j : Nat) : w.frozen? ⟨C, j, none⟩ = false := frozen_of_row w C j _ _ h
theorem TabT.set {w : World} {C : Nat} {t : Nat → Nat → Int} (h : TabT w C t) (r c : Nat) (hc : c < 21) (x : Int) : TabT (w.setCell ⟨C, r * 21 + c, none⟩ (.int .i64 x)) C (fun a b => if a = r ∧ b = c then x else t a b) := by
  have h1 := heap_setCell_same w C (r * 21 + c) _ _ (.int .i64 x) h
  unfold TabT
  rw [h1]
  congr 2
  rw [← tabT_set t r c hc]
  apply Array.toList_inj.1
  simp
theorem TabT.congr {w : World} {C : Nat} {t t' : Nat → Nat → Int} (h : TabT w C t) (he : ∀ r c, r < 21 → c < 21 → t r c = t' r c) : TabT w C t' := by
  unfold TabT
  rw [← tabT_congr he]
  exact h
theorem TabT.other {w : World} {C : Nat} {t : Nat → Nat → Int} (h : TabT w C t) {p : Addr} (hp : ¬ p.block = C) (v : Value) : TabT (w.setCell p v) C t := by
  unfold TabT
  rw [heap_setCell_other w _ _ _ (fun e => hp e.symm)]
  exact h
theorem zeroT : Try.zeroCells63 = (tabT fun _ _ => 0).toArray := by kernel_rfl
theorem ext_setRowT {w w1 : World} (h : Ext w w1) (g : Nat) (cs : Array Value) (hg : w.heap.size ≤ g) : Ext w (w1.setRow g cs) :=
  ⟨h.os, h.tape, h.output, by simpa [World.setRow] using h.size, fun k hk => (setRow_other w1 g k cs (by omega)).trans (h.block k hk)⟩
theorem tabT_store (wr : World) (R : Nat) (t0 t : Nat → Nat → Int) (h : TabT wr R t0) {w : World} (hx : Ext w wr) (hR : w.heap.size ≤ R) : ∃ W4, (storeCells ⟨R, 0, none⟩ (tabT t)).run Try.prog wr = .ok () W4 ∧ W4.heap[R]? = some (.cells (tabT t).toArray 63) ∧ Ext w W4 := by
  have hone : ∀ v ∈ tabT t, v.oneCell' = true := by
    intro v hv
    obtain ⟨i, _, rfl⟩ := List.mem_map.1 hv
    rfl
  have hst := run_storeCells_at Try.prog R 0 63 (tabT t) 0 (tabT t0).toArray wr h (by rw [List.size_toArray, tabT_len, tabT_len]; decide) hone
  rw [tabT_len, Nat.add_zero, show ((tabT t0).toArray.toList.take 0 ++ tabT t ++ (tabT t0).toArray.toList.drop (0 + 441)).toArray = (tabT t).toArray by
    rw [List.take_zero, List.nil_append, List.drop_of_length_le (by rw [List.toList_toArray, tabT_len]; decide), List.append_nil]] at hst
  exact ⟨_, hst, setRow_heap _ _ _ _ _ _ h, ext_setRowT hx _ _ hR⟩

/-- The table while it is filled: rows from I on, and of the row ahead of these from J on. -/
def tF (a b : ByteArray) (I J r c : Nat) : Int := if (I ≤ r ∨ r + 1 = I ∧ J ≤ c) ∧ r ≤ a.size ∧ c ≤ b.size then (lv a b r c : Int) else 0
theorem tF_start (a b : ByteArray) (r c : Nat) : (0 : Int) = tF a b (a.size + 1) (b.size + 1) r c := by unfold tF; rw [if_neg (by omega)]
theorem tF_next (a b : ByteArray) (i r c : Nat) : tF a b (i + 1) 0 r c = tF a b i (b.size + 1) r c := by
  unfold tF
  by_cases h : (i + 1 ≤ r ∨ r + 1 = i + 1 ∧ 0 ≤ c) ∧ r ≤ a.size ∧ c ≤ b.size
  · rw [if_pos h, if_pos (by omega)]
  · rw [if_neg h, if_neg (by omega)]
theorem tF_set (a b : ByteArray) (i j r c : Nat) (hi : i ≤ a.size) (hj : j ≤ b.size) (x : Int) (hx : x = (lv a b i j : Int)) : (if r = i ∧ c = j then x else tF a b (i + 1) (j + 1) r c) = tF a b (i + 1) j r c := by
  by_cases h : r = i ∧ c = j
  · rw [if_pos h, hx, h.1, h.2]
    unfold tF
    rw [if_pos (by omega)]
  · rw [if_neg h]
    unfold tF
    by_cases h2 : (i + 1 ≤ r ∨ r + 1 = i + 1 ∧ j + 1 ≤ c) ∧ r ≤ a.size ∧ c ≤ b.size
    · rw [if_pos h2, if_pos (by omega)]
    · rw [if_neg h2, if_neg (by omega)]
theorem tF_down (a b : ByteArray) (i j c : Nat) (hi : i + 1 ≤ a.size) (hc : c ≤ b.size) : tF a b (i + 1) j (i + 1) c = (lv a b (i + 1) c : Int) := by unfold tF; rw [if_pos (by omega)]
theorem tF_right (a b : ByteArray) (i j : Nat) (hi : i ≤ a.size) (hc : j + 1 ≤ b.size) : tF a b (i + 1) (j + 1) i (j + 1) = (lv a b i (j + 1) : Int) := by unfold tF; rw [if_pos (by omega)]
/-- The whole table. -/
def tA (a b : ByteArray) (r c : Nat) : Int := tF a b 0 0 r c
theorem tA_at (a b : ByteArray) (r c : Nat) (hr : r ≤ a.size) (hc : c ≤ b.size) : tA a b r c = (lv a b r c : Int) := by unfold tA tF; rw [if_pos (by omega)]
theorem tF_all (a b : ByteArray) (r c : Nat) : tF a b 0 (b.size + 1) r c = tA a b r c := by
  unfold tA tF
  by_cases h : (0 ≤ r ∨ r + 1 = 0 ∧ b.size + 1 ≤ c) ∧ r ≤ a.size ∧ c ≤ b.size
  · rw [if_pos h, if_pos (by omega)]
  · rw [if_neg h, if_neg (by omega)]

theorem min3 (x y z : Nat) (w : World) : (Builtin.min_ #[3, 3, 3] 3 #[.int .i64 (x : Int), .int .i64 (y : Int), .int .i64 (z : Int)]).run Try.prog w = .ok (.int .i64 (min (min x y) z : Nat)) w := by
  have e : (if (z : Int) < (if (y : Int) < (x : Int) then (y : Int) else (x : Int)) then (z : Int) else (if (y : Int) < (x : Int) then (y : Int) else (x : Int))) = ((min (min x y) z : Nat) : Int) := by
    split <;> split <;> omega
  have h : (Builtin.min_ #[3, 3, 3] 3 #[.int .i64 (x : Int), .int .i64 (y : Int), .int .i64 (z : Int)]).run Try.prog w = .ok (.int .i64 (if (z : Int) < (if (y : Int) < (x : Int) then (y : Int) else (x : Int)) then (z : Int) else (if (y : Int) < (x : Int) then (y : Int) else (x : Int)))) w := by
    simp [Builtin.min_, Builtin.min2]
  rw [h, e]

set_option maxRecDepth 100000 in
set_option maxHeartbeats 4000000 in
theorem typos_any (a b : ByteArray) (w : World) (ha : a.size ≤ 20) (hb : b.size ≤ 20) : Calls Try.prog 54 #[.string a, .string b] w fun e w' => e = .returned (.agg (tabT (tA a b)).toArray) ∧ Ext w w' := by
  obtain ⟨W, hW⟩ : ∃ W, W = (w.alloc (.cells Try.zeroCells63 63)).alloc (.cells Try.zeroCells63 63) := ⟨_, rfl⟩
  have hT0 : TabT W (w.heap.size + 1) (fun _ _ => 0) := by rw [hW]; unfold TabT; rw [← zeroT]; exact heap_alloc2_new w _ _
  have hR0 : TabT W w.heap.size (fun _ _ => 0) := by rw [hW]; unfold TabT; rw [← zeroT]; exact heap_alloc2_old w _ _
  have X0 : Ext w W := by rw [hW]; exact ((Ext.refl _).alloc _).alloc _
  have T0 := Lib.hid hT0
  have R0 := Lib.hid hR0
  clear hT0 hR0
  go_enter Try.func54, Try.ntmps54
  go_wp2
  rw [← hW]
  clear hW
  go_loopw [6] (fun q wr => ∃ (I : Nat) (x : Int), I ≤ a.size + 1 ∧ q = .int .i64 x ∧ x = (I : Int) - 1 ∧ TabT wr (w.heap.size + 1) (tF a b I (b.size + 1)) ∧ TabT wr w.heap.size (fun _ _ => 0) ∧ Ext w wr) (fun q _ => (intOf q + 1).toNat)
  case atStart => exact ⟨a.size + 1, _, Nat.le_refl _, rfl, by omega, T0.out.congr (fun r c _ _ => tF_start a b r c), R0.out, X0⟩
  case round =>
    obtain ⟨I, x, hI, rfl, hxI, hT, hR, hx⟩ := hrel
    have HT := Lib.hid hT
    have HR := Lib.hid hR
    clear hT hR
    by_cases h0 : 0 ≤ x
    · obtain ⟨i, rfl⟩ : ∃ i : Nat, x = (i : Int) := Int.eq_ofNat_of_zero_le h0
      obtain rfl : I = i + 1 := by omega
      have hia : i ≤ a.size := by omega
      clear hxI hI h0
      go_wp2
      go_loopw [7] (fun q wy => ∃ (J : Nat) (y : Int), J ≤ b.size + 1 ∧ q = .int .i64 y ∧ y = (J : Int) - 1 ∧ TabT wy (w.heap.size + 1) (tF a b (i + 1) J) ∧ TabT wy w.heap.size (fun _ _ => 0) ∧ Ext w wy) (fun q _ => (intOf q + 1).toNat)
      case atStart => exact ⟨b.size + 1, _, Nat.le_refl _, rfl, by omega, HT.out, HR.out, hx⟩
      case round =>
        obtain ⟨J, y, hJ, rfl, hyJ, hT2, hR2, hx2⟩ := hrel
        have HT2 := Lib.hid hT2
        have HR2 := Lib.hid hR2
        clear hT2 hR2
        by_cases h1 : 0 ≤ y
        · obtain ⟨j, rfl⟩ : ∃ j : Nat, y = (j : Int) := Int.eq_ofNat_of_zero_le h1
          obtain rfl : J = j + 1 := by omega
          have hjb : j ≤ b.size := by omega
          clear hyJ hJ h1
          have hi21 : i < 21 := by omega
          have hj21 : j < 21 := by omega
          have hi21i : (i : Int) < 21 := by omega
          have hj21i : (j : Int) < 21 := by omega
          have cS := HT2.out.at i j hi21 hj21
          have fS := HT2.out.fr (i * 21 + j)
          have HSET := Lib.hid (fun (wz : World) (hz : Ext wr wz) (v : Int) (hv : v = (lv a b i j : Int)) => show TabT (wz.setCell ⟨w.heap.size + 1, i * 21 + j, none⟩ (.int .i64 v)) (w.heap.size + 1) (tF a b (i + 1) j) ∧ TabT (wz.setCell ⟨w.heap.size + 1, i * 21 + j, none⟩ (.int .i64 v)) w.heap.size (fun _ _ => 0) ∧ Ext w (wz.setCell ⟨w.heap.size + 1, i * 21 + j, none⟩ (.int .i64 v)) from
            ⟨((HT2.out.ext hz).set i j hj21 v).congr (fun r c _ _ => tF_set a b i j r c hia hjb v hv), (HR2.out.ext hz).other (by simp) _, (hx2.trans hz).setCell (Nat.le_succ _) _⟩)
          by_cases hin : i = a.size
          · have HL := Lib.hid (show ((b.size : Int) - (j : Int)) = (lv a b i j : Int) by rw [hin, lv_end]; omega)
            have hinb : ((i : Int) == (a.size : Int)) = true := beq_iff_eq.2 (by omega)
            clear hin
            go_wp2
            go_roundw
            case rel => exact ⟨j, _, by omega, rfl, by omega, (HSET.out _ (Ext.refl _) _ HL.out).1, (HSET.out _ (Ext.refl _) _ HL.out).2.1, (HSET.out _ (Ext.refl _) _ HL.out).2.2⟩
            case measure => simp [intOf] <;> omega
          · have hina : i < a.size := by omega
            have hinI : ¬ (i : Int) = (a.size : Int) := by omega
            have hinb : ((i : Int) == (a.size : Int)) = false := beq_eq_false_iff_ne.2 hinI
            by_cases hjn : j = b.size
            · have HL := Lib.hid (show ((a.size : Int) - (i : Int)) = (lv a b i j : Int) by rw [hjn, lv_end2]; omega)
              have hjnB : ((j : Int) == (b.size : Int)) = true := beq_iff_eq.2 (by omega)
              clear hjn
              go_wp2
              go_roundw
              case rel => exact ⟨j, _, by omega, rfl, by omega, (HSET.out _ (Ext.refl _) _ HL.out).1, (HSET.out _ (Ext.refl _) _ HL.out).2.1, (HSET.out _ (Ext.refl _) _ HL.out).2.2⟩
              case measure => simp [intOf] <;> omega
            · have hjnb : j < b.size := by omega
              have hjnI : ¬ (j : Int) = (b.size : Int) := by omega
              have hjnB : ((j : Int) == (b.size : Int)) = false := beq_eq_false_iff_ne.2 hjnI
              have ii : ∀ w, (Instr.index 9 (.string a) (.int .i64 (i : Int))).run Try.prog w = .ok (.int .u8 ((sg a i).toNat : Int)) w := fun w => ixB a i hina w
              have ij : ∀ w, (Instr.index 9 (.string b) (.int .i64 (j : Int))).run Try.prog w = .ok (.int .u8 ((sg b j).toNat : Int)) w := fun w => ixB b j hjnb w
              by_cases he : ((sg a i).toNat : Int) = ((sg b j).toNat : Int)
              · have heb : (((sg a i).toNat : Int) == ((sg b j).toNat : Int)) = true := beq_iff_eq.2 he
                obtain ⟨i1, hi1⟩ : ∃ i1, i1 = i + 1 := ⟨_, rfl⟩
                obtain ⟨j1, hj1⟩ : ∃ j1, j1 = j + 1 := ⟨_, rfl⟩
                have Wi : IntKind.i64.wrap ((i : Int) + 1) = (i1 : Int) := by simp only [IntKind.wrap_i64]; omega
                have Wj : IntKind.i64.wrap ((j : Int) + 1) = (j1 : Int) := by simp only [IntKind.wrap_i64]; omega
                have Wi1 : IntKind.i64.wrap (i1 : Int) = (i1 : Int) := by simp only [IntKind.wrap_i64]; omega
                have Wj1 : IntKind.i64.wrap (j1 : Int) = (j1 : Int) := by simp only [IntKind.wrap_i64]; omega
                have Ci : (i : Int) + 1 = (i1 : Int) := by omega
                have Cj : (j : Int) + 1 = (j1 : Int) := by omega
                have i1a : i1 < 21 := by omega
                have j1a : j1 < 21 := by omega
                have i1i : (i1 : Int) < 21 := by omega
                have j1i : (j1 : Int) < 21 := by omega
                have cD := HT2.out.at i1 j1 i1a j1a
                rw [show tF a b (i + 1) (j + 1) i1 j1 = (lv a b i1 j1 : Int) by rw [hi1]; exact tF_down a b i (j + 1) j1 (by omega) (by omega)] at cD
                have HL := Lib.hid (show (lv a b i1 j1 : Int) = (lv a b i j : Int) by rw [hi1, hj1, lv_same hina hjnb (sg_eq.2 he)])
                clear hi1 hj1 he
                go_wp2
                go_quiet (fail)
                go_wp2
                go_region
                go_wp2
                exact ⟨⟨j, _, by omega, rfl, by omega, (HSET.out _ (ext_drewN (Ext.refl _) _) _ HL.out).1, (HSET.out _ (ext_drewN (Ext.refl _) _) _ HL.out).2.1, (HSET.out _ (ext_drewN (Ext.refl _) _) _ HL.out).2.2⟩, by simp [intOf] <;> omega⟩
              · have heb : (((sg a i).toNat : Int) == ((sg b j).toNat : Int)) = false := beq_eq_false_iff_ne.2 he
                obtain ⟨i1, hi1⟩ : ∃ i1, i1 = i + 1 := ⟨_, rfl⟩
                obtain ⟨j1, hj1⟩ : ∃ j1, j1 = j + 1 := ⟨_, rfl⟩
                have Wi : IntKind.i64.wrap ((i : Int) + 1) = (i1 : Int) := by simp only [IntKind.wrap_i64]; omega
                have Wj : IntKind.i64.wrap ((j : Int) + 1) = (j1 : Int) := by simp only [IntKind.wrap_i64]; omega
                have Wi1 : IntKind.i64.wrap (i1 : Int) = (i1 : Int) := by simp only [IntKind.wrap_i64]; omega
                have Wj1 : IntKind.i64.wrap (j1 : Int) = (j1 : Int) := by simp only [IntKind.wrap_i64]; omega
                have Ci : (i : Int) + 1 = (i1 : Int) := by omega
                have Cj : (j : Int) + 1 = (j1 : Int) := by omega
                have i1a : i1 < 21 := by omega
                have j1a : j1 < 21 := by omega
                have i1i : (i1 : Int) < 21 := by omega
                have j1i : (j1 : Int) < 21 := by omega
                have cD := HT2.out.at i1 j1 i1a j1a
                rw [show tF a b (i + 1) (j + 1) i1 j1 = (lv a b i1 j1 : Int) by rw [hi1]; exact tF_down a b i (j + 1) j1 (by omega) (by omega)] at cD
                have cE := HT2.out.at i1 j i1a hj21
                rw [show tF a b (i + 1) (j + 1) i1 j = (lv a b i1 j : Int) by rw [hi1]; exact tF_down a b i (j + 1) j (by omega) (by omega)] at cE
                have cR := HT2.out.at i j1 hi21 j1a
                rw [show tF a b (i + 1) (j + 1) i j1 = (lv a b i j1 : Int) by rw [hj1]; exact tF_right a b i j (by omega) (by omega)] at cR
                have MM : ∀ w, (Builtin.min_ #[3, 3, 3] 3 #[.int .i64 (lv a b i1 j : Int), .int .i64 (lv a b i j1 : Int), .int .i64 (lv a b i1 j1 : Int)]).run Try.prog w = .ok (.int .i64 (min (min (lv a b i1 j) (lv a b i j1)) (lv a b i1 j1) : Nat)) w := fun w => min3 _ _ _ w
                have HL := Lib.hid (show lv a b i j = 1 + min (min (lv a b i1 j) (lv a b i j1)) (lv a b i1 j1) by rw [hi1, hj1]; exact lv_other hina hjnb (fun h => he (sg_eq.1 h)))
                have m1 := lv_max a b i1 j
                have m2 := lv_max a b i j1
                have m3 := lv_max a b i1 j1
                obtain ⟨X, hX⟩ : ∃ X, X = lv a b i1 j := ⟨_, rfl⟩
                obtain ⟨Y, hY⟩ : ∃ Y, Y = lv a b i j1 := ⟨_, rfl⟩
                obtain ⟨Z, hZ⟩ : ∃ Z, Z = lv a b i1 j1 := ⟨_, rfl⟩
                rw [← hX] at HL m1 cE MM
                rw [← hY] at HL m2 cR MM
                rw [← hZ] at HL m3 cD MM
                obtain ⟨M, hM⟩ : ∃ M, M = min (min X Y) Z := ⟨_, rfl⟩
                have hM20 : M ≤ 20 := by omega
                rw [← hM] at HL MM
                clear hX hY hZ hi1 hj1 hM
                go_wp2
                go_quiet (fail)
                go_wp2
                go_region
                have HL2 := Lib.hid (show (1 : Int) + (M : Int) = (lv a b i j : Int) by rw [HL.out]; omega)
                go_wp2
                exact ⟨⟨j, _, by omega, rfl, by omega, (HSET.out _ (ext_drewN (Ext.refl _) _) _ HL2.out).1, (HSET.out _ (ext_drewN (Ext.refl _) _) _ HL2.out).2.1, (HSET.out _ (ext_drewN (Ext.refl _) _) _ HL2.out).2.2⟩, by simp [intOf] <;> omega⟩
        · obtain rfl : J = 0 := by omega
          have HT3 := Lib.hid (HT2.out.congr (t' := tF a b i (b.size + 1)) (fun r c _ _ => tF_next a b i r c))
          go_wp2
          exact ⟨⟨i, _, by omega, rfl, by omega, HT3.out, HR2.out, hx2⟩, by simp [intOf] <;> omega⟩
    · obtain rfl : I = 0 := by omega
      have HT3 := Lib.hid (HT.out.congr (t' := tA a b) (fun r c _ _ => tF_all a b r c))
      have HN := Lib.hid (show (Try.prog.info? 63).map (·.size) = some (tabT (tA a b)).toArray.size by rw [List.size_toArray, tabT_len]; kernel_rfl)
      have h441 : (tabT (tA a b)).length = 441 := tabT_len _
      obtain ⟨W4, hst, hg4, X4⟩ := tabT_store wr w.heap.size (fun _ _ => 0) (tA a b) HR.out hx (Nat.le_refl _)
      have G4 := Lib.hid hg4
      clear hg4
      go_wp2_with (first | (refine wpList_load_row rfl _ _ rfl (w.heap.size + 1) rfl 63 (tabT (tA a b)).toArray (0, 0) _ HT3.out Try.underlying63 rfl HN.out ?_))
      exact bodyPost_ret (results_cell_row (P := Try.prog) (p := 4) (ty := 63) rfl _ _ w.heap.size 63 (tabT (tA a b)).toArray (0, 0) _ rfl G4.out Try.underlying63 rfl HN.out) rfl ⟨rfl, X4⟩
end Go.Proofs.Ytnoidabmbckfkab
