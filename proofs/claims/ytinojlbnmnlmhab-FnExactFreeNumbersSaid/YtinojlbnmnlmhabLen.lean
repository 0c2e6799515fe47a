/- The lengths of codes: as they stand, and sorted. No conditions. -/
import Derived.Test.YtinojlbnmnlmhabIntL
import Derived.Test.YtinojlbnmnlmhabIApp
import Derived.Test.YtinojlbnmnlmhabShelf
import Derived.Test.YtinojlbnmnlmhabMarks
import Derived.Sort.OwnSorted
namespace Go.Proofs.Ytinojlbnmnlmhab
open Go.RowKit Go.Sort

theorem rowI_ints {B : Nat} {w : World} {v : Value} {zs : List Int} (h : RowI B w v zs) (hl : zs.length ≤ maxLen) : IntsA w v zs := by
  refine ⟨hl, ?_⟩
  obtain ⟨a, cap, rfl⟩ := h.shape
  by_cases h0 : zs.length = 0
  · exact .inl ⟨List.eq_nil_of_length_eq_zero h0, a, cap, by rw [h0]⟩
  · obtain ⟨g, rfl, _, hg, _⟩ := h.at 0 (by omega)
    refine .inr ⟨g, 0, cap, rfl, hg, fun j hj => ?_⟩
    obtain ⟨g', e, _, _, hc, _⟩ := h.at j hj
    injection e with e
    injection e with e
    subst e
    rw [Nat.zero_add]
    exact hc
def lenL (ss : List ByteArray) : List Int := ss.map fun s => (s.size : Int)
theorem lenL_len (ss : List ByteArray) : (lenL ss).length = ss.length := List.length_map ..
theorem lenL_at (ss : List ByteArray) (k : Nat) (h : k < ss.length) : (lenL ss)[k]'(by rw [lenL_len]; exact h) = (ss[k].size : Int) := by unfold lenL; rw [List.getElem_map]
theorem lenL_ok {ss : List ByteArray} (h : PlB ss) : LnB (lenL ss) := by
  refine ⟨by rw [lenL_len]; exact h.l1, by rw [lenL_len]; exact h.l2, fun z hz => ?_⟩
  obtain ⟨s, hs, rfl⟩ := List.mem_map.1 hz
  exact isDg_size (h.cd s hs)
/-- The first so many lengths, the others nought. -/
def part (l : List Int) (k : Nat) : List Int := l.take k ++ List.replicate (l.length - k) 0
theorem part_len (l : List Int) (k : Nat) (h : k ≤ l.length) : (part l k).length = l.length := by
  unfold part
  rw [List.length_append, List.length_take, List.length_replicate]
  omega
theorem part_all (l : List Int) : part l l.length = l := by unfold part; rw [Nat.sub_self, List.take_length]; simp
theorem part_set (l : List Int) (k : Nat) (h : k < l.length) : (part l k).set k l[k] = part l (k + 1) := by
  unfold part
  rw [List.set_append_right _ _ (by rw [List.length_take]; omega)]
  have e1 : k - (l.take k).length = 0 := by rw [List.length_take]; omega
  have e2 : l.length - k = (l.length - (k + 1)) + 1 := by omega
  rw [e1, e2, List.replicate_succ, List.set_cons_zero, List.take_succ_eq_append_getElem h, List.append_assoc]
  rfl
theorem part_zero (l : List Int) : (part l 0).map (Value.int .i64) = (madeCells (Value.int .i64 0).cells (l.length * 1)).toList := by
  unfold part
  rw [Nat.mul_one, show (Value.int .i64 0).cells = #[Value.int .i64 0] from rfl, toList_madeCells_one]
  simp

/-- A list of the call's own in a block that is told. -/
def RowK (B : Nat) (w : World) (g n : Nat) (l : List Int) : Prop := w.ownsRow B 3 1 (.slice (some ⟨g, 0, none⟩) n n) n (l.map (Value.int .i64))
theorem RowK.ext {B : Nat} {w w' : World} {g n : Nat} {l : List Int} (h : RowK B w g n l) (hx : Ext w w') : RowK B w' g n l := row_ext h hx
theorem RowK.at {B : Nat} {w : World} {g n : Nat} {l : List Int} (h : RowK B w g n l) (j : Nat) (hj : j < n) (hl : l.length = n) : w.cell? ⟨g, j, none⟩ = some (.int .i64 (l[j]'(by omega))) ∧ w.frozen? ⟨g, j, none⟩ = false := by
  refine ⟨?_, World.ownsRow.frozenAt h j⟩
  rw [World.ownsRow.cellAt h j (by omega), List.getElem?_map, List.getElem?_eq_getElem (by omega)]
  rfl
theorem RowK.put {B : Nat} {w : World} {g n : Nat} {l : List Int} (h : RowK B w g n l) (j : Nat) (x : Int) : RowK B (w.setCell ⟨g, j, none⟩ (.int .i64 x)) g n (l.set j x) := by
  have h1 := (World.ownsRow.stored h j (.int .i64 x)).1
  unfold RowK
  rw [List.map_set]
  exact h1
def OneI (zs : List Int) (w : World) (e : Ending) (w' : World) : Prop := ∃ v, e = .returned v ∧ RowI w.heap.size w' v zs ∧ Ext w w' ∧ ∃ g, v = .slice (some ⟨g, 0, none⟩) zs.length zs.length ∧ w.heap.size ≤ g

set_option maxRecDepth 100000 in
set_option maxHeartbeats 1000000 in
theorem lensI_any (v : Value) (ss : List ByteArray) (w : World) (h : Strs w v ss) (hp : PlB ss) : Calls Try.prog 53 #[v] w (OneI (lenL ss) w) := by
  have HS := Lib.hid h
  have hl1 := hp.l1
  have hl2 := hp.l2
  have HC := Lib.hid hp.cd
  obtain ⟨a, cap, hv, _⟩ := h.at
  rw [hv] at HS ⊢
  clear hv h hp v
  obtain ⟨i0, hi, hz0, hzs, hzb⟩ := infoB info_inA
  have HI := Lib.hid (show Try.prog.info? 3 = some i0 ∧ i0.zero = some (.int .i64 0) ∧ i0.size = 1 ∧ i0.bytes = 8 from ⟨hi, hz0, hzs, hzb⟩)
  clear hi hz0 hzs hzb
  have HLL := Lib.hid (lenL_len ss)
  obtain ⟨L, hL⟩ : ∃ L, L = lenL ss := ⟨_, rfl⟩
  have HLE := Lib.hid hL
  rw [← hL] at HLL ⊢
  clear hL
  go_enter Try.func53, Try.ntmps53
  go_wp2_with (at_make; refine wpList_make_full _ rfl _ _ 34 rfl w.heap.size 3 i0 (.int .i64 0) 1 Try.underlying34 HI.out.1 HI.out.2.1 HI.out.2.2.1 .i64 .i64 _ _ ss.length rfl rfl rfl rfl (by rw [HI.out.2.2.2]; omega) (by unfold maxLen; omega) (Nat.le_refl _) ?_; intro w2 hown hgr; have X2 := Lib.hid (ext_grown (Ext.refl w) hgr (by intro k hk; cases hk)); have RR := Lib.hid (show RowK w.heap.size w2 w.heap.size ss.length (part L 0) from by unfold RowK; rw [part_zero, HLL.out]; exact hown); clear hown hgr)
  go_loopw [11] (fun i wr => ∃ k : Nat, k ≤ ss.length ∧ i = .int .i64 k ∧ RowK w.heap.size wr w.heap.size ss.length (part L k) ∧ Ext w wr) (fun i _ => ss.length - (intOf i).toNat)
  case atStart => exact ⟨0, Nat.zero_le _, rfl, RR.out, X2.out⟩
  case round =>
    obtain ⟨k, hk, rfl, hr, hx⟩ := hrel
    have HR := Lib.hid hr
    clear hr
    by_cases hlt : k < ss.length
    · obtain ⟨b, off, ha, e1⟩ := (HS.out.ext hx).get2 k hlt
      have hpl : (part L k).length = ss.length := by rw [part_len _ _ (by rw [HLL.out]; omega), HLL.out]
      obtain ⟨c1, c2⟩ := HR.out.at k hlt hpl
      have HW := Lib.hid (show ∀ wz, Ext w wz → RowK w.heap.size wz w.heap.size ss.length (part L k) → RowK w.heap.size (wz.setCell ⟨w.heap.size, k, none⟩ (.int .i64 (ss[k].size : Int))) w.heap.size ss.length (part L (k + 1)) ∧ Ext w (wz.setCell ⟨w.heap.size, k, none⟩ (.int .i64 (ss[k].size : Int))) from fun wz hxz hz => by
        refine ⟨?_, hxz.setCell (Nat.le_refl _) _⟩
        have e2 : part L (k + 1) = (part L k).set k (ss[k].size : Int) := by
          rw [← part_set L k (by rw [HLL.out]; exact hlt)]
          congr 1
          have := lenL_at ss k hlt
          simp only [HLE.out]
          exact this
        rw [e2]
        exact hz.put k _)
      obtain ⟨q, hq⟩ : ∃ q, q = (part L k)[k]'(by omega) := ⟨_, rfl⟩
      rw [← hq] at c1
      clear hq
      obtain ⟨s, hs⟩ : ∃ s, s = ss[k] := ⟨_, rfl⟩
      rw [← hs] at e1 HW
      clear hs hpl
      subst ha
      go_wp2
      go_roundw
      case rel => exact ⟨k + 1, by omega, by go_num, (HW.out _ hx HR.out).1, (HW.out _ hx HR.out).2⟩
      case measure => simp [intOf]; omega
    · have HR2 := Lib.hid (show RowI w.heap.size wr (.slice (some ⟨w.heap.size, 0, none⟩) ss.length ss.length) L from by
        have h2 := HR.out
        have hkL : k = L.length := by rw [HLL.out]; omega
        rw [hkL, part_all] at h2
        unfold RowI
        rw [HLL.out]
        exact h2)
      go_wp2
      go_ret
      exact ⟨.slice (some ⟨w.heap.size, 0, none⟩) ss.length ss.length, rfl, HR2.out, hx, w.heap.size, by rw [HLL.out], Nat.le_refl _⟩

/-! ### Sorted -/
def srtI (l : List Int) : List Int := l.mergeSort fun x y => decide (x ≤ y)
theorem srtI_len (l : List Int) : (srtI l).length = l.length := List.length_mergeSort _
theorem srtI_perm (l : List Int) : (srtI l).Perm l := List.mergeSort_perm l _
theorem srtI_le (l : List Int) : (srtI l).Pairwise fun x y => x ≤ y := by
  have h := List.pairwise_mergeSort (le := fun x y : Int => decide (x ≤ y)) (fun a b c h1 h2 => by
    rw [decide_eq_true_eq] at h1 h2 ⊢; omega) (fun a b => by
    rw [Bool.or_eq_true, decide_eq_true_eq, decide_eq_true_eq]; omega) l
  exact h.imp fun h => of_decide_eq_true h

theorem sortI_any (B g n cap : Nat) (l : List Int) (w : World) (hl : l.length = n) (hn : n ≤ 1048576) (h : RowI B w (.slice (some ⟨g, 0, none⟩) n cap) l) :
    Calls Try.prog 102 #[.slice (some ⟨g, 0, none⟩) n cap] w fun e w' => e = .returned (.tuple #[]) ∧ RowI B w' (.slice (some ⟨g, 0, none⟩) n cap) (srtI l) ∧ w.grownBy w' (some g) := by
  subst hl
  rcases h.2 with ⟨h0, _⟩ | ⟨g', cap', cur, hv, hB, hb, h1, h2, h3, h4⟩
  · cases h0
  injection hv with e1 e2 e3
  injection e1 with e1
  injection e1 with e1
  subst e1; subst e3
  rw [Nat.mul_one] at h4
  have hH : Holds (Value.int .i64) w g 0 l.toArray := by
    intro j hj
    have hj' : j < l.length := by simpa using hj
    refine ⟨?_, by simp [World.frozen?, hb]⟩
    have h5 : (cur.toList.take l.length)[j]? = (l.map (Value.int .i64))[j]? := by rw [h4]
    rw [List.getElem?_take_of_lt hj', List.getElem?_map, List.getElem?_eq_getElem hj', Array.getElem?_toList] at h5
    simp only [World.cell?, hb, Nat.zero_add, h5]
    simp [hj']
  refine (Go.Proofs.Try.slices_Sort_int g 0 cap l w hH (heap_lt hb) (by omega)).mono ?_
  rintro e w' ⟨rfl, n', os, rfl⟩
  have hk : (srtI l).length = l.length := srtI_len l
  show _ ∧ RowI B (grow (putRow (Value.int .i64) (Sort.ahead w n') g 0 (srtI l).toArray) os) _ _ ∧ _
  obtain ⟨z, hz⟩ : ∃ z, z = srtI l := ⟨_, rfl⟩
  rw [← hz] at hk ⊢
  have hg : g < w.heap.size := heap_lt hb
  have hh : (grow (putRow (Value.int .i64) (Sort.ahead w n') g 0 z.toArray) os).heap[g]? = some (.cells (putCells (Value.int .i64) 0 z.toArray cur) 3 (0, 0)) := by
    rw [heap_grow_old _ _ (by simpa using hg)]
    simp [putRow, mapBlock, Sort.ahead, Array.getElem?_modify, hb, onCells]
  refine ⟨rfl, ⟨by rw [List.length_map, Nat.mul_one], .inr ⟨g, cap, _, by rw [hk], hB, hh, by rw [hk]; exact h1, h2, by simp [putCells, h3], ?_⟩⟩, ⟨rfl, rfl, rfl, by simp, fun k hk2 hne => ?_⟩⟩
  · rw [Nat.mul_one]
    apply List.ext_getElem?
    intro j
    by_cases hj : j < z.length
    · rw [List.getElem?_take_of_lt hj, Array.getElem?_toList]
      simp [putCells, hj, show j < cur.size by omega]
    · rw [List.getElem?_take_eq_none (by omega), List.getElem?_eq_none (by simp; omega)]
  · rw [heap_grow_old _ _ (by simpa using hk2)]
    have : g ≠ k := fun e => hne (by rw [e])
    simp [putRow, mapBlock, Sort.ahead, Array.getElem?_modify, this]

/-! ### The model's way: one length after the other -/
def flI (l : List Int) (L : Nat) : List Int := l.filter fun z => decide (z = (L : Int))
def plA (l : List Int) : Nat → List Int
  | 0 => []
  | L + 1 => plA l L ++ flI l (L + 1)
theorem plA_perm (l : List Int) : ∀ L, (∀ z ∈ l, 1 ≤ z) → (plA l L).Perm (l.filter fun z => decide (z ≤ (L : Int)))
  | 0, h => by
    rw [List.filter_eq_nil_iff.2 fun z hz => by have := h z hz; rw [decide_eq_true_eq]; omega]
    exact List.Perm.refl _
  | L + 1, h => by
    have ih := plA_perm l L h
    have e := List.filter_append_perm (fun z : Int => decide (z ≤ (L : Int))) (l.filter fun z => decide (z ≤ ((L + 1 : Nat) : Int)))
    rw [List.filter_filter, List.filter_filter] at e
    have e1 : (l.filter fun z => decide (z ≤ (L : Int)) && decide (z ≤ ((L + 1 : Nat) : Int))) = l.filter fun z => decide (z ≤ (L : Int)) :=
      List.filter_congr fun z _ => by by_cases h2 : z ≤ (L : Int) <;> simp [h2] <;> omega
    have e2 : (l.filter fun z => (!decide (z ≤ (L : Int))) && decide (z ≤ ((L + 1 : Nat) : Int))) = flI l (L + 1) :=
      List.filter_congr fun z _ => by
        rw [Bool.eq_iff_iff, Bool.and_eq_true, Bool.not_eq_true', decide_eq_false_iff_not, decide_eq_true_eq, decide_eq_true_eq]
        omega
    rw [e1, e2] at e
    rw [plA]
    exact (List.Perm.append_right _ ih).trans e
theorem plA_le (l : List Int) : ∀ L, (∀ z ∈ plA l L, z ≤ (L : Int)) ∧ (plA l L).Pairwise fun x y => x ≤ y
  | 0 => ⟨fun z hz => (by simp [plA] at hz), List.Pairwise.nil⟩
  | L + 1 => by
    obtain ⟨h1, h2⟩ := plA_le l L
    have h3 : ∀ z ∈ flI l (L + 1), z = ((L + 1 : Nat) : Int) := fun z hz => of_decide_eq_true (List.mem_filter.1 hz).2
    rw [plA]
    refine ⟨fun z hz => ?_, List.pairwise_append.2 ⟨h2, ?_, fun a ha b hb => ?_⟩⟩
    · rcases List.mem_append.1 hz with h | h
      · have := h1 z h; omega
      · have := h3 z h; omega
    · rw [List.eq_replicate_of_mem h3]
      exact List.pairwise_replicate.2 (.inr (Int.le_refl _))
    · have := h1 a ha
      have := h3 b hb
      omega
theorem plA_all {l : List Int} (h : ∀ z ∈ l, 1 ≤ z ∧ z ≤ 6) : plA l 6 = srtI l := by
  have e : (l.filter fun z => decide (z ≤ ((6 : Nat) : Int))) = l := List.filter_eq_self.2 fun z hz => decide_eq_true (h z hz).2
  have hp := plA_perm l 6 fun z hz => (h z hz).1
  rw [e] at hp
  exact List.Perm.eq_of_pairwise (fun a b _ _ h1 h2 => Int.le_antisymm h1 h2) (plA_le l 6).2 (srtI_le l) (hp.trans (srtI_perm l).symm)
theorem flI_take (l : List Int) (L k : Nat) (h : k < l.length) : flI (l.take (k + 1)) L = flI (l.take k) L ++ (if l[k] = (L : Int) then [l[k]] else []) := by
  unfold flI
  rw [List.take_succ_eq_append_getElem h, List.filter_append]
  by_cases e : l[k] = (L : Int) <;> simp [e]
theorem plA_len (l : List Int) : ∀ L, (plA l L).length ≤ L * l.length
  | 0 => by simp [plA]
  | L + 1 => by
    have := plA_len l L
    have h2 : (flI l (L + 1)).length ≤ l.length := List.length_filter_le _ _
    rw [plA, List.length_append, Nat.succ_mul]
    omega

set_option maxRecDepth 100000 in
set_option maxHeartbeats 1000000 in
theorem plSort_any (v : Value) (zs : List Int) (w : World) (h : IntsA w v zs) (hz : LnB zs) : Calls Try.prog 60 #[v] w fun e w' => ∃ u, e = .returned u ∧ RowI w.heap.size w' u (srtI zs) ∧ Ext w w' := by
  have H := Lib.hid h
  have hl2 := hz.l2
  have HV := Lib.hid (plA_all hz.at_)
  have HLN := Lib.hid (plA_len zs)
  obtain ⟨a, cap, hv⟩ := h.at
  rw [hv] at H ⊢
  clear hv h hz v
  rw [← HV.out]
  go_enter Try.func60, Try.ntmps60
  go_wp2
  go_loopw [3, 4] (fun o i wr => ∃ L : Nat, L ≤ 6 ∧ i = .int .i64 ((L + 1 : Nat) : Int) ∧ RowI w.heap.size wr o (plA zs L) ∧ Ext w wr) (fun _ i _ => 7 - (intOf i).toNat)
  case atStart => exact ⟨0, by omega, rfl, RowI.empty _ _, Ext.refl _⟩
  case round =>
    obtain ⟨L, hL, rfl, hr, hx⟩ := hrel
    have HR := Lib.hid hr
    clear hr
    obtain ⟨M, hM⟩ : ∃ M : Int, M = ((L + 1 : Nat) : Int) := ⟨_, rfl⟩
    have HM := Lib.hid hM
    rw [← hM]
    by_cases hlt : L < 6
    · have h9 : M ≤ 6 := by omega
      have h9b : ¬ (6 : Int) < M := by omega
      have h9c : 1 ≤ M := by omega
      have W1 : IntKind.i64.wrap (M + 1) = M + 1 := by simp only [IntKind.wrap_i64]; omega
      clear hM
      have HPL := Lib.hid (HLN.out L)
      have hm : L * zs.length ≤ 120 := Nat.le_trans (Nat.mul_le_mul hL hl2) (by decide)
      go_wp2
      go_loopw [3, 13] (fun o i wr => ∃ k : Nat, k ≤ zs.length ∧ i = .int .i64 k ∧ RowI w.heap.size wr o (plA zs L ++ flI (zs.take k) (L + 1)) ∧ Ext w wr) (fun _ i _ => zs.length - (intOf i).toNat)
      case atStart => exact ⟨0, Nat.zero_le _, rfl, by simp only [List.take_zero, flI, List.filter_nil, List.append_nil]; exact HR.out, hx⟩
      case round =>
        obtain ⟨k, hk, rfl, hr2, hx2⟩ := hrel
        have HR2 := Lib.hid hr2
        clear hr2
        by_cases hlt2 : k < zs.length
        · obtain ⟨b, off, ha, _, e1⟩ := (H.out.ext hx2).get2 k hlt2
          have HF := Lib.hid (flI_take zs (L + 1) k hlt2)
          rw [← HM.out] at HF
          have hfl : (plA zs L ++ flI (zs.take k) (L + 1)).length ≤ 1000000 := by
            rw [List.length_append]
            have := HPL.out
            have : (flI (zs.take k) (L + 1)).length ≤ (zs.take k).length := List.length_filter_le _ _
            rw [List.length_take] at this
            omega
          obtain ⟨z, hz⟩ : ∃ z, z = zs[k] := ⟨_, rfl⟩
          rw [← hz] at e1 HF
          clear hz
          subst ha
          by_cases he : z = M
          · have HN := Lib.hid (show plA zs L ++ flI (zs.take (k + 1)) (L + 1) = (plA zs L ++ flI (zs.take k) (L + 1)) ++ [z] by rw [HF.out, if_pos he, List.append_assoc])
            subst he
            have HHF := Lib.hid hfl
            clear hfl
            go_wp2_with (at_builtin; refine app_int rfl _ _ rfl w w.heap.size _ _ _ _ rfl (by exact HR2.out) hx2 (Nat.le_refl _) hx2.size (by exact HHF.out) rfl ?_; intro v9 w9 r9 x9)
            go_roundw
            case rel => exact ⟨k + 1, by omega, by go_num, by rw [HN.out]; exact r9, x9⟩
            case measure => simp [intOf]; omega
          · have HN := Lib.hid (show plA zs L ++ flI (zs.take (k + 1)) (L + 1) = (plA zs L ++ flI (zs.take k) (L + 1)) by rw [HF.out, if_neg he, List.append_nil])
            go_wp2
            go_roundw
            case rel => exact ⟨k + 1, by omega, by go_num, by rw [HN.out]; exact HR2.out, hx2⟩
            case measure => simp [intOf]; omega
        · have HN := Lib.hid (show plA zs (L + 1) = plA zs L ++ flI (zs.take k) (L + 1) by rw [plA, List.take_of_length_le (by omega)])
          go_wp2
          go_roundw
          case rel => exact ⟨L + 1, by omega, by rw [HM.out]; go_num, by rw [HN.out]; exact HR2.out, hx2⟩
          case measure => have := HM.out; simp [intOf]; omega
    · obtain rfl : L = 6 := by omega
      have h9 : ¬ M ≤ 6 := by omega
      have h9b : 6 < M := by omega
      clear hM
      go_wp2
      go_ret
      exact ⟨_, rfl, HR.out, hx⟩

end Go.Proofs.Ytinojlbnmnlmhab
