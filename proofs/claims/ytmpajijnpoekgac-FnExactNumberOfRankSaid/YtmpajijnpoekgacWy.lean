/- How many walks there are from each digit, by number of steps: the program's table. No conditions. -/
import Derived.Test.YtmpajijnpoekgacNk
import Derived.Test.YtmpajijnpoekgacTabD
import Derived.Deep.MidRow
import Derived.Great.BuildSlice
namespace Go.Proofs.Ytmpajijnpoekgac
open Go.RowKit

/-- One more than the most numbers that are told. -/
def most1 : Nat := 1000000000000001
def sumL (f : Nat → Nat) (l : List Nat) : Nat := (l.map f).sum
theorem sumL_nil (f : Nat → Nat) : sumL f [] = 0 := rfl
theorem sumL_take (f : Nat → Nat) (l : List Nat) (k : Nat) (h : k < l.length) : sumL f (l.take (k + 1)) = sumL f (l.take k) + f l[k] := by
  unfold sumL
  rw [List.take_succ_eq_append_getElem h, List.map_append, List.sum_append]
  simp
theorem sumL_le (f : Nat → Nat) (m : Nat) (hf : ∀ j, f j ≤ m) : ∀ l : List Nat, sumL f l ≤ l.length * m
  | [] => Nat.zero_le _
  | d :: l => by
    have h1 := sumL_le f m hf l
    have h2 := hf d
    unfold sumL at h1 ⊢
    rw [List.map_cons, List.sum_cons, List.length_cons, Nat.succ_mul]
    omega
/-- How many walks of so many steps there are from a digit, one more than told standing for all above. -/
def wyF (p : Nat) (e : Nat → Nat) : Nat → Nat → Nat
  | 0, i => e i
  | t + 1, i => min (sumL (wyF p e t) (nx p i)) most1
theorem wyF_le (p : Nat) (e : Nat → Nat) (he : ∀ i, e i ≤ most1) : ∀ t i, wyF p e t i ≤ most1
  | 0, i => he i
  | t + 1, i => by unfold wyF; exact Nat.min_le_right _ _
def rowI (f : Nat → Nat) : List Value := rowN 10 fun j => (f j : Int)
theorem rowI_len (f : Nat → Nat) : (rowI f).length = 10 := rowN_len _ _
/-- Rows of ten, one behind the other. -/
def rows10 (n : Nat) (T : Nat → Nat → Nat) : List Value := (List.range n).flatMap fun k => rowI (T k)
theorem rows10_succ (n : Nat) (T : Nat → Nat → Nat) : rows10 (n + 1) T = rows10 n T ++ rowI (T n) := by
  unfold rows10
  rw [List.range_succ, List.flatMap_append]
  simp
theorem rows10_len (n : Nat) (T : Nat → Nat → Nat) : (rows10 n T).length = n * 10 := by
  induction n with
  | zero => rfl
  | succ n ih => rw [rows10_succ, List.length_append, ih, rowI_len]; omega
theorem rows10_at (n : Nat) (T : Nat → Nat → Nat) (r c : Nat) (hr : r < n) (hc : c < 10) : (rows10 n T)[r * 10 + c]? = some (.int .i64 (T r c : Int)) := by
  induction n with
  | zero => omega
  | succ n ih =>
    rw [rows10_succ]
    by_cases e : r = n
    · subst e
      rw [List.getElem?_append_right (by rw [rows10_len]; omega), rows10_len, show r * 10 + c - r * 10 = c by omega]
      exact rowN_at _ _ _ hc
    · rw [List.getElem?_append_left (by rw [rows10_len]; omega)]
      exact ih (by omega)
def RowsT (B : Nat) (w : World) (v : Value) (n : Nat) (T : Nat → Nat → Nat) : Prop := w.ownsRow B 46 10 v n (rows10 n T)

theorem RowsT.ext {B : Nat} {w w' : World} {v : Value} {n : Nat} {T : Nat → Nat → Nat} (h : RowsT B w v n T) (hx : Ext w w') : RowsT B w' v n T := row_ext h hx
theorem RowsT.shape {B : Nat} {w : World} {v : Value} {n : Nat} {T : Nat → Nat → Nat} (h : RowsT B w v n T) (hn : 0 < n) : ∃ g cap, v = .slice (some ⟨g, 0, none⟩) n cap ∧ B ≤ g ∧ g < w.heap.size := by
  rcases h.2 with ⟨_, h0⟩ | ⟨g, cap, cur, rfl, hb, hg, _⟩
  · omega
  · exact ⟨g, cap, rfl, hb, heapLt hg⟩
theorem RowsT.at {B : Nat} {w : World} {g cap : Nat} {n : Nat} {T : Nat → Nat → Nat} (h : RowsT B w (.slice (some ⟨g, 0, none⟩) n cap) n T) (r c : Nat) (hr : r < n) (hc : c < 10) : w.cell? ⟨g, r * 10 + c, none⟩ = some (.int .i64 (T r c : Int)) :=
  (World.ownsRow.cellAt h (r * 10 + c) (by omega)).trans (rows10_at n T r c hr hc)
theorem info_dr : (Try.prog.info? 46).map (fun i => (i.zero, i.size, i.bytes)) = some (some (.agg #[.int .i64 0, .int .i64 0, .int .i64 0, .int .i64 0, .int .i64 0, .int .i64 0, .int .i64 0, .int .i64 0, .int .i64 0, .int .i64 0]), 10, 80) := by kernel_rfl
theorem cells_new (w : World) (A : Array Value) (t : TypeId) : ∀ j u, A.toList[j]? = some u → (w.alloc (.cells A t)).cell? ((⟨w.heap.size, 0, none⟩ : Addr).add j) = some u := by
  intro j u hj
  have h1 := cell_of_row (w.alloc (.cells A t)) w.heap.size j _ _ _ (heap_alloc_new w (.cells A t))
  have e : (⟨w.heap.size, 0, none⟩ : Addr).add j = ⟨w.heap.size, j, none⟩ := by rw [Addr.add_mid, Nat.zero_add]
  rw [e, h1, ← hj, Array.getElem?_toList]
theorem fill10k (a0 a1 a2 a3 a4 a5 a6 a7 a8 a9 : Value) : Instr.fill (fun i => some (i * 10, 10)) ((Array.range (1 * 10)).map ((Value.agg #[.int .i64 0, .int .i64 0, .int .i64 0, .int .i64 0, .int .i64 0, .int .i64 0, .int .i64 0, .int .i64 0, .int .i64 0, .int .i64 0]).cells[· % (Value.agg #[.int .i64 0, .int .i64 0, .int .i64 0, .int .i64 0, .int .i64 0, .int .i64 0, .int .i64 0, .int .i64 0, .int .i64 0, .int .i64 0]).cells.size]!)) [(0, Value.agg #[a0, a1, a2, a3, a4, a5, a6, a7, a8, a9])] = some #[a0, a1, a2, a3, a4, a5, a6, a7, a8, a9] := by kernel_rfl
theorem fill10 (A : Array Value) (h : A.size = 10) : Instr.fill (fun i => some (i * 10, 10)) ((Array.range (1 * 10)).map ((Value.agg #[.int .i64 0, .int .i64 0, .int .i64 0, .int .i64 0, .int .i64 0, .int .i64 0, .int .i64 0, .int .i64 0, .int .i64 0, .int .i64 0]).cells[· % (Value.agg #[.int .i64 0, .int .i64 0, .int .i64 0, .int .i64 0, .int .i64 0, .int .i64 0, .int .i64 0, .int .i64 0, .int .i64 0, .int .i64 0]).cells.size]!)) [(0, Value.agg A)] = some A := by
  obtain ⟨l⟩ := A
  match l, h with
  | [a0, a1, a2, a3, a4, a5, a6, a7, a8, a9], _ => exact fill10k a0 a1 a2 a3 a4 a5 a6 a7 a8 a9
theorem buildRow {ops : Array Oper} {rest : List Oper} {o : Oper} {a : Act} {w : World} {Q : Exit → Act → World → Prop} (hg : o.guard = none) (x : Operand) (ho : o.op = .buildSlice 66 1 #[(0, x)]) (A : Array Value) (hx : a.eval x = .agg A) (hA : A.size = 10)
    (h : wpList Try.prog ops Q rest (a.put o.dst (.slice (some ⟨w.heap.size, 0, none⟩) 1 1)) (w.alloc (.cells A 46))) : wpList Try.prog ops Q (o :: rest) a w := by
  obtain ⟨i0, hi, hz0, hzs, hzb⟩ := infoB info_dr
  refine wpList_buildSlice hg 66 46 1 _ ho A i0 _ Try.underlying66 hi hz0 (by rw [hzs]; decide) (by rw [hzs]; decide) ?_ h
  rw [hzs]
  have e : (#[(0, x)].map fun (p : Nat × Operand) => (p.1, a.eval p.2)).toList = [(0, Value.agg A)] := by simp [hx]
  exact (congrArg _ e).trans (fill10 A hA)
theorem rowN_one (n : Nat) (t : Nat → Int) : ∀ u ∈ rowN n t, u.oneCell' = true := by
  intro u hu
  obtain ⟨i, _, rfl⟩ := List.mem_map.1 hu
  rfl

set_option maxRecDepth 100000 in
set_option maxHeartbeats 4000000 in
theorem waysOn_any (p : Nat) (e : Nat → Nat) (vs : List Value) (B : Nat) (st : Nat) (w : World) (hv : MvR B w vs p) (he : ∀ i, e i ≤ most1) (hst : st ≤ 40) : Calls Try.prog 60 #[.agg vs.toArray, .agg (rowI e).toArray, .int .i64 st] w fun r w' => ∃ v, r = .returned v ∧ RowsT w.heap.size w' v (st + 1) (wyF p e) ∧ Ext w w' := by
  obtain ⟨VA, hVA⟩ : ∃ VA, VA = vs.toArray := ⟨_, rfl⟩
  obtain ⟨EA, hEA⟩ : ∃ EA, EA = (rowI e).toArray := ⟨_, rfl⟩
  rw [← hVA, ← hEA]
  have HVA := Lib.hid hVA
  have HEA := Lib.hid hEA
  have HEAs := Lib.hid (show EA.size = 10 by rw [hEA, List.size_toArray, rowI_len])
  have HNE := Lib.hid (show (Try.prog.info? 46).map (·.size) = some EA.size by rw [hEA, List.size_toArray, rowI_len]; kernel_rfl)
  have G0 := Lib.hid (heap_alloc2_new w (.cells VA 49) (.cells EA 46))
  have G1 := Lib.hid (heap_alloc2_old w (.cells VA 49) (.cells EA 46))
  obtain ⟨W, hW⟩ : ∃ W, W = (w.alloc (.cells VA 49)).alloc (.cells EA 46) := ⟨_, rfl⟩
  have L0 := Lib.hid (show RowsT (w.heap.size + 1) (W.alloc (.cells EA 46)) (.slice (some ⟨w.heap.size + 1 + 1, 0, none⟩) 1 1) 1 (wyF p e) from by
    have hs : W.heap.size = w.heap.size + 1 + 1 := by rw [hW]; simp
    have h9 := World.ownsRow_lit (base := w.heap.size + 1) (e := 46) (size := 10) W EA 1 (by omega) (by unfold maxLen; omega) (by rw [hEA, List.size_toArray, rowI_len])
    rw [hs] at h9
    unfold RowsT
    rw [show rows10 1 (wyF p e) = EA.toList by rw [hEA]; unfold rows10; simp [wyF]]
    exact h9)
  have XW : Ext w W := by rw [hW]; exact ((Ext.refl _).alloc _).alloc _
  have GV := Lib.hid (show (W.alloc (.cells EA 46)).heap[w.heap.size]? = some (.cells VA 49) from by
    rw [heap_alloc_old W _ (by rw [hW]; simp; omega), hW]
    exact G1.out)
  obtain ⟨i0, hi, hz0, hzs, hzb⟩ := infoB info_dr
  have HI := Lib.hid (show Try.prog.info? 46 = some i0 ∧ i0.zero = some (.agg #[.int .i64 0, .int .i64 0, .int .i64 0, .int .i64 0, .int .i64 0, .int .i64 0, .int .i64 0, .int .i64 0, .int .i64 0, .int .i64 0]) ∧ i0.size = 10 ∧ i0.bytes = 80 from ⟨hi, hz0, hzs, hzb⟩)
  have HNV := Lib.hid (show (Try.prog.info? 49).map (·.size) = some VA.size by rw [hVA, List.size_toArray, hv.1]; kernel_rfl)
  have HIX := Lib.hid (fun d (hd : d < 10) w => ixMvA VA d hd (vs.getD d nil1) (by rw [hVA, List.getElem?_toArray, List.getD_eq_getElem?_getD, List.getElem?_eq_getElem (by rw [hv.1]; exact hd)]; rfl) w)
  have HPS := Lib.hid (fun d (hd : d < 10) => (hv.2 d hd).ps (by have := nx_len p d; unfold maxLen; omega))
  have HWL := Lib.hid (wyF_le p e he)
  clear hVA hEA hi hz0 hzs hzb hv
  go_enter Try.func60, Try.ntmps60
  go_wp2_with (first | (refine wpList_load_row rfl _ _ rfl (w.heap.size + 1) rfl 46 EA (0, 0) _ G0.out Try.underlying46 rfl HNE.out ?_) | (refine buildRow rfl _ rfl EA rfl HEAs.out ?_))
  rw [← hW]
  clear hW
  obtain ⟨C0, hC0⟩ : ∃ C, C = w.heap.size := ⟨_, rfl⟩
  have HC0 := Lib.hid hC0
  have XE : Ext w (W.alloc (.cells EA 46)) := XW.alloc _
  rw [← hC0] at L0 GV ⊢
  clear hC0
  go_loopw [7, 17] (fun o q wr => ∃ k : Nat, k ≤ st ∧ q = .int .i64 k ∧ RowsT (C0 + 1) wr o (k + 1) (wyF p e) ∧ wr.heap[C0]? = some (.cells VA 49) ∧ Ext w wr) (fun _ q _ => st - (intOf q).toNat)
  case atStart => exact ⟨0, Nat.zero_le _, rfl, L0.out, GV.out, XE⟩
  case round =>
    obtain ⟨k, hk, rfl, hr, hg, hx⟩ := hrel
    have HR := Lib.hid hr
    have HG := Lib.hid hg
    obtain ⟨g, cap, rfl, hBg, hgl⟩ := hr.shape (by omega)
    clear hr hg
    by_cases hlt : k < st
    · have hki : (k : Int) < (st : Int) := by omega
      obtain ⟨wo, rfl⟩ : ∃ wo, wo = wr := ⟨_, rfl⟩
      have TZ := Lib.hid (show TabD (wo.alloc (.cells #[.int .i64 0, .int .i64 0, .int .i64 0, .int .i64 0, .int .i64 0, .int .i64 0, .int .i64 0, .int .i64 0, .int .i64 0, .int .i64 0] 46)) wo.heap.size (fun _ => 0) by unfold TabD; rw [zero10]; exact heap_alloc_new wo _)
      have XZ : Ext wo (wo.alloc (.cells #[.int .i64 0, .int .i64 0, .int .i64 0, .int .i64 0, .int .i64 0, .int .i64 0, .int .i64 0, .int .i64 0, .int .i64 0, .int .i64 0] 46)) := (Ext.refl _).alloc _
      have GZ := Lib.hid ((XZ.block C0 (heapLt HG.out)).trans HG.out)
      go_wp2_with (first | (refine wpList_load_row rfl _ _ rfl C0 rfl 49 VA (0, 0) _ GZ.out Try.underlying49 rfl HNV.out ?_))
      obtain ⟨R, hR⟩ : ∃ R, R = wo.heap.size := ⟨_, rfl⟩
      have HRR := Lib.hid hR
      rw [← hR] at TZ ⊢
      have hgR : g < R := by omega
      clear hR
      go_loopw [21] (fun q wy => ∃ i : Nat, i ≤ 10 ∧ q = .int .i64 i ∧ TabD wy R (fun a => if a < i then (wyF p e (k + 1) a : Int) else 0) ∧ Ext wo wy) (fun q _ => 10 - (intOf q).toNat)
      case atStart => exact ⟨0, Nat.zero_le _, rfl, TZ.out.congr (fun r _ => by rw [if_neg (by omega)]), XZ⟩
      case round =>
        obtain ⟨i, hi, rfl, hT, hx1⟩ := hrel
        have HT := Lib.hid hT
        clear hT
        by_cases hlt2 : i < 10
        · have hii : (i : Int) < 10 := by omega
          have hix := HIX.out i hlt2
          have HN := Lib.hid (HPS.out i hlt2)
          have HXN := Lib.hid (fun q (hq : q ∈ nx p i) => nx_lt hq)
          have HSM := Lib.hid (show wyF p e (k + 1) i = min (sumL (wyF p e k) (nx p i)) most1 from rfl)
          have hnl := nx_len p i
          obtain ⟨u, hu⟩ : ∃ u, u = vs.getD i nil1 := ⟨_, rfl⟩
          rw [← hu] at hix HN
          clear hu
          obtain ⟨ds, hds⟩ : ∃ ds, ds = nx p i := ⟨_, rfl⟩
          rw [← hds] at HN HXN HSM hnl
          clear hds
          obtain ⟨ua, uc, hus⟩ := HN.out.at
          rw [hus] at hix HN
          clear hus
          go_wp2
          go_loopw [27] (fun q wz => ∃ j : Nat, j ≤ ds.length ∧ q = .int .i64 j ∧ TabD wz R (fun a => if a = i then (sumL (wyF p e k) (ds.take j) : Int) else if a < i then (wyF p e (k + 1) a : Int) else 0) ∧ Ext wo wz) (fun q _ => ds.length - (intOf q).toNat)
          case atStart => exact ⟨0, Nat.zero_le _, rfl, HT.out.congr (fun r _ => by
            by_cases e1 : r = i
            · rw [if_pos e1, if_neg (by omega)]; rfl
            · rw [if_neg e1]), hx1⟩
          case round =>
            obtain ⟨j, hj, rfl, hT2, hx2⟩ := hrel
            have HT2 := Lib.hid hT2
            clear hT2
            by_cases hlt3 : j < ds.length
            · have hji : (j : Int) < (ds.length : Int) := by omega
              obtain ⟨b, off, ha, hb, hcell⟩ := (HN.out.ext (hx.trans hx2)).get j hlt3
              have hq10 := HXN.out ds[j] (List.getElem_mem hlt3)
              have HSU := Lib.hid (sumL_take (wyF p e k) ds j hlt3)
              have hsl := sumL_le (wyF p e k) most1 (HWL.out k) (ds.take j)
              have htk : (ds.take j).length ≤ 10 := by rw [List.length_take]; omega
              have hwl := HWL.out k ds[j]
              have cW := (HR.out.ext hx2).at k ds[j] (by omega) hq10
              have cR := HT2.out.at i hlt2
              rw [if_pos rfl] at cR
              have fR := HT2.out.fr i
              have HSET := Lib.hid (fun (x : Int) (hxv : x = (sumL (wyF p e k) (ds.take (j + 1)) : Int)) (wq : World) (hq : Ext wr wq) => show TabD (wq.setCell ⟨R, i, none⟩ (.int .i64 x)) R (fun a => if a = i then (sumL (wyF p e k) (ds.take (j + 1)) : Int) else if a < i then (wyF p e (k + 1) a : Int) else 0) ∧ Ext wo (wq.setCell ⟨R, i, none⟩ (.int .i64 x)) from ⟨((HT2.out.ext hq).set i x).congr (fun r _ => by
                by_cases e1 : r = i
                · rw [if_pos e1, if_pos e1, hxv]
                · rw [if_neg e1, if_neg e1, if_neg e1]), (hx2.trans hq).setCell (p := ⟨R, i, none⟩) (Nat.le_of_eq HRR.out.symm) _⟩)
              obtain ⟨d, hd⟩ : ∃ d, d = ds[j] := ⟨_, rfl⟩
              rw [← hd] at hcell hq10 HSU hwl cW
              obtain ⟨S, hS⟩ : ∃ S, S = sumL (wyF p e k) (ds.take j) := ⟨_, rfl⟩
              rw [← hS] at HSU hsl cR
              obtain ⟨V, hV⟩ : ∃ V, V = wyF p e k d := ⟨_, rfl⟩
              rw [← hV] at HSU hwl cW
              have hS10 : S ≤ 10000000000000010 := by
                have : (ds.take j).length * most1 ≤ 10 * most1 := Nat.mul_le_mul_right _ htk
                have : 10 * most1 = 10000000000000010 := rfl
                omega
              have hV1 : V ≤ 1000000000000001 := hwl
              have hdi : (d : Int) < 10 := by omega
              have hki2 : (k : Int) < ((k + 1 : Nat) : Int) := by omega
              have HX9 := Lib.hid (HSET.out ((S : Int) + (V : Int)) (by rw [HSU.out]; push_cast; rfl))
              have hadd : IntKind.i64.wrap ((S : Int) + (V : Int)) = (S : Int) + (V : Int) := by simp only [IntKind.wrap_i64]; omega
              have hki3 : (k : Int) < (k : Int) + 1 := by omega
              subst ha
              clear hd hS hV hsl htk hwl hb HSU HSET
              go_wp2
              go_region
              go_wp2
              go_roundw
              case rel => exact ⟨j + 1, by omega, by go_num, (HX9.out _ (ext_drewN (Ext.refl _) _)).1, (HX9.out _ (ext_drewN (Ext.refl _) _)).2⟩
              case measure => simp [intOf] <;> omega
            · obtain rfl : j = ds.length := by omega
              have HSA := Lib.hid (show ds.take ds.length = ds from List.take_of_length_le (Nat.le_refl _))
              rw [HSA.out] at HT2
              have cR := HT2.out.at i hlt2
              rw [if_pos rfl] at cR
              have fR := HT2.out.fr i
              have hS10 : sumL (wyF p e k) ds ≤ 10000000000000010 := by
                have h1 := sumL_le (wyF p e k) most1 (HWL.out k) ds
                have h2 : ds.length * most1 ≤ 10 * most1 := Nat.mul_le_mul_right _ hnl
                have h3 : 10 * most1 = 10000000000000010 := rfl
                omega
              have HSET := Lib.hid (fun (x : Int) (hxv : x = (wyF p e (k + 1) i : Int)) => show TabD (wr.setCell ⟨R, i, none⟩ (.int .i64 x)) R (fun a => if a < i + 1 then (wyF p e (k + 1) a : Int) else 0) from (HT2.out.set i x).congr (fun r _ => by
                by_cases e1 : r = i
                · rw [if_pos e1, if_pos (by omega), hxv, e1]
                · rw [if_neg e1, if_neg e1]
                  by_cases e2 : r < i
                  · rw [if_pos e2, if_pos (by omega)]
                  · rw [if_neg e2, if_neg (by omega)]))
              rw [HSM.out] at HSET
              obtain ⟨S, hS⟩ : ∃ S, S = sumL (wyF p e k) ds := ⟨_, rfl⟩
              rw [← hS] at HSET cR hS10
              have HX9 := Lib.hid (HSET.out (min (S : Int) 1000000000000001) (by
                have h0 : most1 = 1000000000000001 := rfl
                rw [h0]
                omega))
              clear hS HSET
              go_wp2
              exact ⟨⟨i + 1, by omega, by go_num, HX9.out, hx2.setCell (p := ⟨R, i, none⟩) (Nat.le_of_eq HRR.out.symm) _⟩, by simp [intOf] <;> omega⟩
        · obtain rfl : i = 10 := by omega
          have HT3 := Lib.hid (HT.out.congr (t' := fun a => (wyF p e (k + 1) a : Int)) (fun r hr => if_pos hr))
          obtain ⟨A, hA⟩ : ∃ A, A = (rowI (wyF p e (k + 1))).toArray := ⟨_, rfl⟩
          have HA := Lib.hid hA
          have GA := Lib.hid (show wr.heap[R]? = some (.cells A 46) by rw [hA]; exact HT3.out)
          have HAs := Lib.hid (show A.size = 10 by rw [hA, List.size_toArray, rowI_len])
          have HNA := Lib.hid (show (Try.prog.info? 46).map (·.size) = some A.size by rw [HAs.out]; kernel_rfl)
          have HON := Lib.hid (show ∀ u ∈ A.toList, u.oneCell' = true by rw [hA, List.toList_toArray]; exact rowN_one 10 _)
          have HRW := Lib.hid (HR.out.ext hx1)
          have GV1 := Lib.hid ((hx1.block C0 (heapLt HG.out)).trans HG.out)
          have hCl := heapLt GV1.out
          have XA : Ext w (wr.alloc (.cells A 46)) := (hx.trans hx1).alloc _
          have hwle : C0 + 1 ≤ wr.heap.size := hCl
          clear hA
          go_wp2_with (first | (refine wpList_load_row rfl _ _ rfl R rfl 46 A (0, 0) _ GA.out Try.underlying46 rfl HNA.out ?_) | (refine buildRow rfl _ rfl A rfl HAs.out ?_) | (at_builtin; refine wpList_append_own _ rfl _ _ 66 rfl (C0 + 1) 46 i0 _ 10 80 Try.underlying66 HI.out.1 HI.out.2.1 HI.out.2.2.1 HI.out.2.2.2 rfl (by decide) _ (k + 1) (rows10 (k + 1) (wyF p e)) rfl (World.ownsRow.alloc HRW.out _) ⟨_, 0, none⟩ 1 1 A.toList rfl (by rw [Array.length_toList, HAs.out]) (cells_new _ _ _) HON.out (by unfold maxLen; omega) (by omega) (by simp; omega) ?_; intro v5 w5 own5 gr5 _; have hCw := HC0.out; have R5 := Lib.hid (show RowsT (C0 + 1) w5 v5 (k + 1 + 1) (wyF p e) by unfold RowsT; rw [rows10_succ, ← show A.toList = rowI (wyF p e (k + 1)) by rw [HA.out]]; exact own5); have X5 : Ext w w5 := ext_grown XA gr5 (fun j hj => by have := (World.ownsRow.lt HRW.out j hj).1; omega); have G5 := Lib.hid (show w5.heap[C0]? = some (.cells VA 49) from ((gr5.block C0 (by simp; omega) (fun e => by have := (World.ownsRow.lt HRW.out C0 e.symm).1; omega)).trans (heap_alloc_old wr _ hCl)).trans GV1.out); clear own5 gr5 hCw))
          go_roundw
          case rel => exact ⟨k + 1, by omega, by go_num, R5.out, G5.out, X5⟩
          case measure => simp [intOf] <;> omega
    · obtain rfl : k = st := by omega
      have hwC := HC0.out
      go_wp2
      go_ret
      exact ⟨_, rfl, ⟨HR.out.1, HR.out.2.imp id fun ⟨g, c, cur, a1, a2, a3⟩ => ⟨g, c, cur, a1, by omega, a3⟩⟩, hx⟩
end Go.Proofs.Ytmpajijnpoekgac
