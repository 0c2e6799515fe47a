/- How many right numbers there are: the numbers of ends, and the program's table of them. No conditions. -/
import Derived.Test.YtdhcknknmloopaaNumP
import Derived.Deep.RegionWith
import Derived.Laws.Tables
namespace Go.Proofs.Ytdhcknknmloopaa
open Go.RowKit

def sumF (f : Nat → Int) : Nat → Int
  | 0 => 0
  | k + 1 => sumF f k + f k
theorem sumF_congr {f g : Nat → Int} {k : Nat} (h : ∀ v, v < k → f v = g v) : sumF f k = sumF g k := by
  induction k with
  | zero => rfl
  | succ k ih => rw [sumF, sumF, ih (fun v hv => h v (by omega)), h k (by omega)]
theorem sumF_bd {f : Nat → Int} {b : Int} (hb : 0 ≤ b) : ∀ {k : Nat}, (∀ v, v < k → 0 ≤ f v ∧ f v ≤ b) → 0 ≤ sumF f k ∧ sumF f k ≤ (k : Int) * b
  | 0, _ => by simp [sumF]
  | k + 1, h => by
    have h1 := sumF_bd hb (k := k) (fun v hv => h v (by omega))
    have h2 := h k (by omega)
    rw [sumF, show ((k + 1 : Nat) : Int) * b = (k : Int) * b + b by rw [Int.natCast_add, Int.add_mul]; simp]
    omega
/-- How many values a place has. -/
def gv (zs : List Int) (p : Nat) : Nat := if p = zs.length then 11 else 10
theorem gv_le (zs : List Int) (p : Nat) : gv zs p ≤ 11 := by unfold gv; split <;> omega
/-- Where a value leads. -/
def nxR (zs : List Int) (m : Nat) (p r v : Nat) : Nat := (((r : Int) + (v : Int) * wt zs p) % (m : Int)).toNat
theorem nxR_lt {zs : List Int} {m : Nat} (hm : 0 < m) (p r v : Nat) : nxR zs m p r v < m := by
  unfold nxR
  have h1 := Int.emod_nonneg ((r : Int) + (v : Int) * wt zs p) (show (m : Int) ≠ 0 by omega)
  have h2 := Int.emod_lt_of_pos ((r : Int) + (v : Int) * wt zs p) (show 0 < (m : Int) by omega)
  omega
theorem nxR_eq {zs : List Int} {m : Nat} (hm : 0 < m) (p r v : Nat) : ((r : Int) + (v : Int) * wt zs p) % (m : Int) = (nxR zs m p r v : Nat) := by
  unfold nxR
  have h1 := Int.emod_nonneg ((r : Int) + (v : Int) * wt zs p) (show (m : Int) ≠ 0 by omega)
  omega
/-- The ways to the end, by how many places are left. -/
def eD (zs : List Int) (m : Nat) : Nat → Nat → Int
  | 0, r => if r = 0 then 1 else 0
  | d + 1, r => sumF (fun v => eD zs m d (nxR zs m (zs.length - d) r v)) (gv zs (zs.length - d))
def eE (zs : List Int) (m p r : Nat) : Int := eD zs m (zs.length + 1 - p) r
def eTm (zs : List Int) (m p r v : Nat) : Int := eE zs m (p + 1) (nxR zs m p r v)
theorem eE_end (zs : List Int) (m r : Nat) : eE zs m (zs.length + 1) r = if r = 0 then 1 else 0 := by unfold eE; rw [Nat.sub_self]; rfl
theorem eE_step {zs : List Int} {m p r : Nat} (hp : p ≤ zs.length) : eE zs m p r = sumF (eTm zs m p r) (gv zs p) := by
  unfold eE
  obtain ⟨d, hd⟩ : ∃ d, zs.length = p + d := ⟨zs.length - p, by omega⟩
  rw [show zs.length + 1 - p = d + 1 by omega, eD, show zs.length - d = p by omega]
  apply sumF_congr
  intro v _
  unfold eTm eE
  rw [show zs.length + 1 - (p + 1) = d by omega]
theorem eD_bd (zs : List Int) (m : Nat) : ∀ d r, d ≤ 13 → 0 ≤ eD zs m d r ∧ eD zs m d r ≤ 11 ^ d
  | 0, r, _ => by unfold eD; split <;> decide
  | d + 1, r, h => by
    rw [eD]
    have h1 := sumF_bd (f := fun v => eD zs m d (nxR zs m (zs.length - d) r v)) (b := 11 ^ d) (Int.le_of_lt (Int.pow_pos (by decide))) (k := gv zs (zs.length - d)) (fun v _ => eD_bd zs m d _ (by omega))
    refine ⟨h1.1, Int.le_trans h1.2 ?_⟩
    rw [Int.pow_succ, Int.mul_comm]
    exact Int.mul_le_mul_of_nonneg_left (by have := gv_le zs (zs.length - d); omega) (Int.le_of_lt (Int.pow_pos (by decide)))
theorem pow_bd : ∀ d : Nat, d ≤ 13 → (11 : Int) ^ d ≤ 34522712143931 := by
  intro d h
  have : (11 : Nat) ^ d ≤ 11 ^ 13 := Nat.pow_le_pow_right (by decide) h
  have h2 : ((11 ^ d : Nat) : Int) ≤ ((11 ^ 13 : Nat) : Int) := by omega
  rw [Int.natCast_pow] at h2
  exact h2
theorem eE_bd {zs : List Int} {m p r : Nat} (h : zs.length ≤ 12) : 0 ≤ eE zs m p r ∧ eE zs m p r ≤ 34522712143931 := by
  have h1 := eD_bd zs m (zs.length + 1 - p) r (by omega)
  have h2 := pow_bd (zs.length + 1 - p) (by omega)
  unfold eE
  omega
theorem eS_bd {zs : List Int} {m p r k : Nat} (h : zs.length ≤ 12) (hk : k ≤ 11) : 0 ≤ sumF (eTm zs m p r) k ∧ sumF (eTm zs m p r) k ≤ 379749833583241 := by
  have h1 := sumF_bd (f := eTm zs m p r) (b := 34522712143931) (by decide) (k := k) (fun v _ => eE_bd h)
  refine ⟨h1.1, Int.le_trans h1.2 ?_⟩
  have : (k : Int) * 34522712143931 ≤ 11 * 34522712143931 := Int.mul_le_mul_of_nonneg_right (by omega) (by decide)
  omega

/-! ### A table of fourteen rows of thirteen numbers in a block -/
def tabE (t : Nat → Nat → Int) : List Value := (List.range 182).map fun j => .int .i64 (t (j / 13) (j % 13))
theorem tabE_len (t : Nat → Nat → Int) : (tabE t).length = 182 := by simp [tabE]
theorem tabE_at (t : Nat → Nat → Int) (r c : Nat) (hr : r < 14) (hc : c < 13) : (tabE t)[r * 13 + c]? = some (.int .i64 (t r c)) := by
  have h : r * 13 + c < 182 := by omega
  unfold tabE
  rw [List.getElem?_map, List.getElem?_range h]
  simp only [Option.map_some, Option.some.injEq, Value.int.injEq, true_and]
  rw [show (r * 13 + c) / 13 = r by omega, show (r * 13 + c) % 13 = c by omega]
theorem tabE_set (t : Nat → Nat → Int) (r c : Nat) (hc : c < 13) (x : Int) : (tabE t).set (r * 13 + c) (.int .i64 x) = tabE (fun a b => if a = r ∧ b = c then x else t a b) := by
  apply List.ext_getElem
  · simp [tabE]
  · intro j h1 h2
    have hj : j < 182 := by rw [tabE_len] at h2; exact h2
    rw [List.getElem_set]
    simp only [tabE, List.getElem_map, List.getElem_range]
    by_cases e : r * 13 + c = j
    · rw [if_pos e, if_pos (by omega)]
    · rw [if_neg e, if_neg (by omega)]
theorem heapLtE {w : World} {g : Nat} {o : Obj} (h : w.heap[g]? = some o) : g < w.heap.size := (Array.getElem?_eq_some_iff.1 h).1
def TabE (w : World) (C : Nat) (t : Nat → Nat → Int) : Prop := w.heap[C]? = some (.cells (tabE t).toArray 78)
theorem TabE.lt {w : World} {C : Nat} {t : Nat → Nat → Int} (h : TabE w C t) : C < w.heap.size := heapLtE h
theorem TabE.ext {w w' : World} {C : Nat} {t : Nat → Nat → Int} (h : TabE w C t) (hx : Ext w w') : TabE w' C t := (hx.block C h.lt).trans h
theorem TabE.at {w : World} {C : Nat} {t : Nat → Nat → Int} (h : TabE w C t) (r c : Nat) (hr : r < 14) (hc : c < 13) : w.cell? ⟨C, r * 13 + c, none⟩ = some (.int .i64 (t r c)) := by
  refine (cell_of h ?_).1
  simpa using tabE_at t r c hr hc
theorem TabE.fr {w : World} {C : Nat} {t : Nat → Nat → Int} (h : TabE w C t) (j : Nat) : w.frozen? ⟨C, j, none⟩ = false := frozen_of_row w C j _ _ h
theorem TabE.set {w : World} {C : Nat} {t : Nat → Nat → Int} (h : TabE w C t) (r c : Nat) (hc : c < 13) (x : Int) : TabE (w.setCell ⟨C, r * 13 + c, none⟩ (.int .i64 x)) C (fun a b => if a = r ∧ b = c then x else t a b) := by
  have := set_cells2 (j := r * 13 + c) (u := .int .i64 x) h
  unfold TabE
  rw [this, ← tabE_set t r c hc x]
  simp
theorem TabE.other {w : World} {C : Nat} {t : Nat → Nat → Int} (h : TabE w C t) {p : Addr} (hp : ¬ p.block = C) (v : Value) : TabE (w.setCell p v) C t := by
  unfold TabE
  rw [Below.heap_setCell _ _ _ _ (fun e => hp e.symm)]
  exact h
theorem zeroE : Try.zeroCells78 = (tabE fun _ _ => 0).toArray := by kernel_rfl

theorem ext_setRowE {w w1 : World} (h : Ext w w1) (g : Nat) (cs : Array Value) (hg : w.heap.size ≤ g) : Ext w (w1.setRow g cs) :=
  ⟨h.os, h.tape, h.output, by simpa [World.setRow] using h.size, fun k hk => (setRow_other w1 g k cs (by omega)).trans (h.block k hk)⟩
theorem tabE_store (wr : World) (R : Nat) (t0 t : Nat → Nat → Int) (h : TabE wr R t0) {w : World} (hx : Ext w wr) (hR : w.heap.size ≤ R) : ∃ W4, (storeCells ⟨R, 0, none⟩ (tabE t)).run Try.prog wr = .ok () W4 ∧ W4.heap[R]? = some (.cells (tabE t).toArray 78) ∧ Ext w W4 := by
  have hone : ∀ v ∈ tabE t, v.oneCell' = true := by
    intro v hv
    obtain ⟨i, _, rfl⟩ := List.mem_map.1 hv
    rfl
  have hst := run_storeCells_at Try.prog R 0 78 (tabE t) 0 (tabE t0).toArray wr h (by rw [List.size_toArray, tabE_len, tabE_len]; decide) hone
  rw [tabE_len, Nat.add_zero, show ((tabE t0).toArray.toList.take 0 ++ tabE t ++ (tabE t0).toArray.toList.drop (0 + 182)).toArray = (tabE t).toArray by
    rw [List.take_zero, List.nil_append, List.drop_of_length_le (by rw [List.toList_toArray, tabE_len]; decide), List.append_nil]] at hst
  exact ⟨_, hst, setRow_heap _ _ _ _ _ _ h, ext_setRowE hx _ _ hR⟩

/-! ### How far the table is -/
structure TE (zs : List Int) (m : Nat) (t : Nat → Nat → Int) (p R V : Nat) : Prop where
  hi : ∀ q c, p < q → q ≤ zs.length + 1 → c < m → t q c = eE zs m q c
  lo : ∀ c, c < R → t p c = eE zs m p c
  mid : R < m → t p R = sumF (eTm zs m p R) V
  up : ∀ c, R < c → c < m → t p c = 0
  dn : ∀ q c, q < p → c < m → t q c = 0
/-- All rows from one on are done. -/
structure TO (zs : List Int) (m : Nat) (t : Nat → Nat → Int) (P : Nat) : Prop where
  hi : ∀ q c, P ≤ q → q ≤ zs.length + 1 → c < m → t q c = eE zs m q c
  dn : ∀ q c, q < P → c < m → t q c = 0
theorem TO.go {zs : List Int} {m p : Nat} {t : Nat → Nat → Int} (h : TO zs m t (p + 1)) : TE zs m t p 0 0 :=
  ⟨fun q c h1 h2 h3 => h.hi q c h1 h2 h3, fun c hc => absurd hc (by omega), fun h0 => h.dn p 0 (by omega) h0, fun c _ h2 => h.dn p c (by omega) h2, fun q c h1 h2 => h.dn q c (by omega) h2⟩
theorem TE.next {zs : List Int} {m p R V : Nat} {t : Nat → Nat → Int} (h : TE zs m t p R V) (x : Int) (hx : x = t p R + eTm zs m p R V) (_hR : R < m) : TE zs m (fun a b => if a = p ∧ b = R then x else t a b) p R (V + 1) := by
  refine ⟨fun q c h1 h2 h3 => ?_, fun c hc => ?_, fun hR => ?_, fun c h1 h2 => ?_, fun q c h1 h2 => ?_⟩
  · show (if q = p ∧ c = R then x else t q c) = _
    rw [if_neg (by omega)]; exact h.hi q c h1 h2 h3
  · show (if p = p ∧ c = R then x else t p c) = _
    rw [if_neg (by omega)]; exact h.lo c hc
  · show (if p = p ∧ R = R then x else t p R) = _
    rw [if_pos ⟨rfl, rfl⟩, hx, h.mid hR, sumF]
  · show (if p = p ∧ c = R then x else t p c) = _
    rw [if_neg (by omega)]; exact h.up c h1 h2
  · show (if q = p ∧ c = R then x else t q c) = _
    rw [if_neg (by omega)]; exact h.dn q c h1 h2
theorem TE.row {zs : List Int} {m p R : Nat} {t : Nat → Nat → Int} (h : TE zs m t p R (gv zs p)) (hp : p ≤ zs.length) (hR : R < m) : TE zs m t p (R + 1) 0 := by
  refine ⟨h.hi, fun c hc => ?_, fun h2 => ?_, fun c h1 h2 => h.up c (by omega) h2, h.dn⟩
  · by_cases e : c = R
    · rw [e, h.mid hR, ← eE_step hp]
    · exact h.lo c (by omega)
  · rw [h.up (R + 1) (by omega) h2]; rfl
theorem TE.done {zs : List Int} {m p : Nat} {t : Nat → Nat → Int} (h : TE zs m t p m 0) : TO zs m t p := by
  refine ⟨fun q c h1 h2 h3 => ?_, fun q c h1 h2 => h.dn q c h1 h2⟩
  by_cases e : q = p
  · rw [e]; exact h.lo c h3
  · exact h.hi q c (by omega) h2 h3
theorem TO.start (zs : List Int) (m : Nat) : TO zs m (fun a b => if a = zs.length + 1 ∧ b = 0 then 1 else 0) (zs.length + 1) := by
  refine ⟨fun q c h1 h2 h3 => ?_, fun q c h1 h2 => ?_⟩
  · obtain rfl : q = zs.length + 1 := by omega
    rw [eE_end]
    show (if _ ∧ c = 0 then (1 : Int) else 0) = _
    by_cases e : c = 0
    · rw [if_pos ⟨rfl, e⟩, if_pos e]
    · rw [if_neg (by omega), if_neg e]
  · show (if q = zs.length + 1 ∧ c = 0 then (1 : Int) else 0) = 0
    rw [if_neg (by omega)]

theorem greatest_any (m : Int) (v : Value) (zs : List Int) (j : Nat) (w : World) (h : IntsA w v zs) : Calls Try.prog 87 #[.agg #[.int .i64 m, v], .int .i64 (j : Int)] w fun e w' => e = .returned (.int .i64 ((gv zs j : Nat) - 1)) ∧ Ext w w' := by
  have X0 := Lib.hid (show Ext w (w.alloc (.cells #[.int .i64 m, v] 27)) from (Ext.refl w).alloc _)
  have H := Lib.hid (h.ext X0.out)
  have HCP := Lib.hid (fun w' (x : Ext (w.alloc (.cells #[.int .i64 m, v] 27)) w') => chkPlace_any m v zs w' (H.out.ext x))
  clear h
  by_cases e : j = zs.length
  · have HV := Lib.hid (show gv zs j = 11 by unfold gv; rw [if_pos e])
    have t : ((j : Int) == (zs.length : Int)) = true := beq_iff_eq.2 (by omega)
    clear e
    go_enter Try.func87, Try.ntmps87
    go_wp2_with (go_at_call 70; refine (HCP.out _ (Ext.refl _)).mono ?_; rintro e w1 ⟨rfl, x1⟩)
    go_ret
    exact ⟨by rw [HV.out]; rfl, X0.out.trans x1⟩
  · have HV := Lib.hid (show gv zs j = 10 by unfold gv; rw [if_neg e])
    have t : ((j : Int) == (zs.length : Int)) = false := beq_eq_false_iff_ne.2 (by omega)
    clear e
    go_enter Try.func87, Try.ntmps87
    go_wp2_with (go_at_call 70; refine (HCP.out _ (Ext.refl _)).mono ?_; rintro e w1 ⟨rfl, x1⟩)
    go_ret
    exact ⟨by rw [HV.out]; rfl, X0.out.trans x1⟩
end Go.Proofs.Ytdhcknknmloopaa
