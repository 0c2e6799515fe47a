/- The codes of a list that a code does not begin, and others behind them, in memory of the call's own. No conditions. -/
import Derived.Test.YtinojlbnmnlmhabMpl
import Derived.Test.YtinojlbnmnlmhabParts
import Derived.Test.YtinojlbnmnlmhabShelfD
namespace Go.Proofs.Ytinojlbnmnlmhab
open Go.RowKit Go.Sort Go.Shelf Go.Lib

def keptB (c : ByteArray) (ss : List ByteArray) : List ByteArray := ss.filter fun t => !bgB c t
theorem keptB_len (c : ByteArray) (ss : List ByteArray) : (keptB c ss).length ≤ ss.length := List.length_filter_le _ _
theorem keptB_mem {c : ByteArray} {ss : List ByteArray} {t : ByteArray} (h : t ∈ keptB c ss) : t ∈ ss := (List.mem_filter.1 h).1

theorem clo_ex (c s : ByteArray) (C : Nat) (w : World) (hc : w.cell? ⟨C, 0, none⟩ = some (.string c)) : Calls Try.prog 86 #[.string s, .pointer (some ⟨C, 0, none⟩)] w fun e w' => e = .returned (.bool (bgB c s)) ∧ w = w' := by
  go_enter Try.func86, Try.ntmps86
  go_wp2_with (go_at_call 87; refine (begins_any _ _ _).mono ?_; rintro e w' ⟨rfl, rfl⟩)
  go_ret
  exact ⟨rfl, rfl⟩
theorem gives_ex (c s : ByteArray) (C : Nat) (W : World) (hc : W.cell? ⟨C, 0, none⟩ = some (.string c)) : FnGives Try.prog 86 #[.pointer (some ⟨C, 0, none⟩)] #[.string s] (.bool (bgB c s)) W := by
  show Calls Try.prog 86 #[.string s, .pointer (some ⟨C, 0, none⟩)] W _
  refine (clo_ex c s C W hc).mono ?_
  rintro e w' ⟨rfl, rfl⟩
  exact ⟨rfl, 0, rfl⟩
theorem zero_str : ∀ w, (zeroValue 9).run Try.prog w = .ok (.string ⟨#[]⟩) w := Try.zeroValue9
theorem eg_ex : ∀ args w, (callFunc 86 args).run Try.prog w = .ok (.enter 86 args) w := enters_of Try.func86 (by kernel_rfl) rfl

/-- The library's DeleteFunc on an own list. -/
theorem del_own (B g n cap C : Nat) (c : ByteArray) (l : List ByteArray) (w : World) (hl : l.length = n) (hn : n ≤ 1048576) (h : RowS B w (.slice (some ⟨g, 0, none⟩) n cap) l) (hC : C < w.heap.size) (hne : C ≠ g) (hc : w.cell? ⟨C, 0, none⟩ = some (.string c)) :
    Calls Try.prog 85 #[.slice (some ⟨g, 0, none⟩) n cap, .func (.func 86) #[] #[.pointer (some ⟨C, 0, none⟩)]] w fun e w' => ∃ v, e = .returned v ∧ RowS B w' v (keptB c l) ∧ w.grownBy w' (some g) ∧ ∃ cap', v = .slice (some ⟨g, 0, none⟩) (keptB c l).length cap' := by
  subst hl
  rcases h.2 with ⟨h0, _⟩ | ⟨g', cap', cur, hv, hB, hb, h1, h2, h3, h4⟩
  · cases h0
  injection hv with e1 e2 e3
  injection e1 with e1
  injection e1 with e1
  subst e1; subst e3
  rw [Nat.mul_one] at h4
  have hg : g < w.heap.size := heap_lt hb
  have hH : Holds Value.string w g 0 l.toArray := by
    intro j hj
    have hj' : j < l.length := by simpa using hj
    refine ⟨?_, by simp [World.frozen?, hb]⟩
    have h5 : (cur.toList.take l.length)[j]? = (l.map Value.string)[j]? := by rw [h4]
    rw [List.getElem?_take_of_lt hj', List.getElem?_map, List.getElem?_eq_getElem hj', Array.getElem?_toList] at h5
    simp only [World.cell?, hb, Nat.zero_add, h5]
    simp [hj']
  have hcon := Go.Proofs.Try.slices_DeleteFunc_string (fun s => bgB c s) 86 #[.pointer (some ⟨C, 0, none⟩)] eg_ex zero_str g 0 cap l.toArray w
    (fun W s hb2 => gives_ex c s C W ((hb2.cell (p := ⟨C, 0, none⟩) hC).trans hc))
    (fun n os dk s _ => gives_ex c s C _ (by
      unfold sortWorld
      rw [cell?_grow _ _ _ (by show C < (putRow _ _ _ _ _).heap.size; rw [size_putRow]; exact hC), cell?_putRow_other _ _ g 0 _ _ (Or.inl hne)]
      exact hc)) hH (by simp; omega) (by simpa using h1)
  have hsz : l.toArray.size = l.length := by simp
  rw [hsz] at hcon
  refine hcon.mono ?_
  rintro e w' ⟨rfl, q, rfl⟩
  have hk : (l.toArray.toList.filter fun x => !bgB c x) = keptB c l := by simp [keptB]
  rw [hk]
  have hkl := keptB_len c l
  obtain ⟨K, hK⟩ : ∃ K, K = keptB c l := ⟨_, rfl⟩
  rw [← hK] at hkl ⊢
  obtain ⟨z, hz⟩ : ∃ z, z = K ++ List.replicate (l.length - K.length) (⟨#[]⟩ : ByteArray) := ⟨_, rfl⟩
  have hzl : z.length = l.length := by rw [hz, List.length_append, List.length_replicate]; omega
  have hzk : ∀ j, j < K.length → z[j]? = K[j]? := fun j hj => by rw [hz, List.getElem?_append_left hj]
  rw [← hz]
  have hh : (putRow Value.string (Sort.ahead w q) g 0 z.toArray).heap[g]? = some (.cells (putCells Value.string 0 z.toArray cur) 9 (0, 0)) := by
    simp [putRow, mapBlock, Sort.ahead, Array.getElem?_modify, hb, onCells]
  refine ⟨_, rfl, ⟨by rw [List.length_map, Nat.mul_one], .inr ⟨g, cap, _, rfl, hB, hh, by omega, h2, by simp [putCells, h3], ?_⟩⟩, ⟨rfl, rfl, rfl, by simp [putRow, mapBlock, Sort.ahead], fun k _ hne2 => ?_⟩, cap, rfl⟩
  · rw [Nat.mul_one]
    apply List.ext_getElem?
    intro j
    by_cases hj : j < K.length
    · have hj2 : j < z.length := by omega
      have e := hzk j hj
      rw [List.getElem?_eq_getElem hj2, List.getElem?_eq_getElem hj] at e
      injection e with e
      rw [List.getElem?_take_of_lt hj, Array.getElem?_toList, List.getElem?_map, List.getElem?_eq_getElem hj]
      simp [putCells, hj2, show j < cur.size by omega, e]
    · rw [List.getElem?_take_eq_none (by omega), List.getElem?_eq_none (by simp; omega)]
  · have : g ≠ k := fun e => hne2 (by rw [e])
    simp [putRow, mapBlock, Sort.ahead, Array.getElem?_modify, this]

set_option maxRecDepth 100000 in
set_option maxHeartbeats 1000000 in
theorem exc0_any (v : Value) (ss : List ByteArray) (c : ByteArray) (w : World) (h : Strs w v ss) (h1 : 1 ≤ ss.length) (h20 : ss.length ≤ 20) : Calls Try.prog 44 #[v, .string c, .slice none 0 0] w (ResP (keptB c ss) w) := by
  have HS := Lib.hid h
  obtain ⟨a, cap, hv, _⟩ := h.at
  rw [hv] at HS ⊢
  clear hv h v
  have hcells : ∀ b off, a = some ⟨b, off, none⟩ → ∀ w', Ext w w' → ∀ j, j < ss.length → w'.cell? ⟨b, off + j, none⟩ = some (.string (ss.getD j ByteArray.empty)) := fun b off ha w' hx j hj => by
    obtain ⟨b', off', ha', e⟩ := (HS.out.ext hx).get2 j hj
    rw [ha] at ha'
    injection ha' with e1
    injection e1 with e1 e2
    subst e1; subst e2
    rw [e, List.getD_eq_getElem?_getD, List.getElem?_eq_getElem hj]
    rfl
  obtain ⟨b, off, rfl, _⟩ := HS.out.get2 0 h1
  have HCL := Lib.hid (hcells b off rfl)
  clear hcells
  have X1 := Lib.hid (show Ext w (w.alloc (.cells #[.string c] 9)) from (Ext.refl w).alloc _)
  have HB := Lib.hid (show (w.alloc (.cells #[.string c] 9)).heap.size = w.heap.size + 1 by simp)
  have HCC := Lib.hid (show (w.alloc (.cells #[.string c] 9)).cell? ⟨w.heap.size, 0, none⟩ = some (.string c) from (cell1 (heap_alloc_new w _)).1)
  have HKL := Lib.hid (keptB_len c ss)
  obtain ⟨n, hn⟩ : ∃ n, n = ss.length := ⟨_, rfl⟩
  have HNN := Lib.hid hn
  rw [← hn] at h1 h20 HS ⊢
  clear hn
  obtain ⟨i0, hi, hz0, hzs, hzb⟩ := info_parts info_strC
  have HI := Lib.hid (show Try.prog.info? 9 = some i0 ∧ i0.zero = some (.string ⟨#[]⟩) ∧ i0.size = 1 ∧ i0.bytes = 16 from ⟨hi, hz0, hzs, hzb⟩)
  clear hi hz0 hzs hzb
  go_enter Try.func44, Try.ntmps44
  go_wp2_with (first | (go_at_call 83; refine (Go.Proofs.Try.slices_Clone_string b off n cap ss _ (Nat.le_of_eq HNN.out) (by omega) (fun j hj => HCL.out _ X1.out j hj)).mono ?_; rintro e w2 ⟨v2, rfl, r2, _, x2⟩; have R2 := Lib.hid (show RowS (w.heap.size + 1) w2 v2 ss from by have r3 := (show RowS _ w2 v2 ss from by unfold RowS; rw [← HNN.out]; rw [HNN.out, List.take_length, ← HNN.out] at r2; exact r2); exact r3.down (Nat.le_of_eq HB.out.symm)); have Y2 := Lib.hid (show Ext (w.alloc (.cells #[.string c] 9)) w2 from x2); have X2 := Lib.hid (show Ext w w2 from Ext.trans X1.out x2); clear r2 x2; obtain ⟨a2, cap2, rfl⟩ := R2.out.shape; obtain ⟨g2, rfl, hB2, _⟩ := R2.out.at 0 (by rw [← HNN.out]; omega); have HG2 := Lib.hid hB2; clear hB2; rw [← HNN.out] at R2; rw [← HNN.out]) | (go_at_call 85; refine (del_own (w.heap.size + 1) g2 n cap2 w.heap.size c ss _ HNN.out.symm (by omega) R2.out (by have := Y2.out.size; have := HB.out; omega) (by have := HG2.out; omega) ((Y2.out.cell (p := ⟨w.heap.size, 0, none⟩) (by rw [HB.out]; exact Nat.lt_succ_self _)).trans HCC.out)).mono ?_; rintro e w3 ⟨v3, rfl, r3, gr3, c3, rfl⟩; have R3 := Lib.hid r3; have X3 := Lib.hid (show Ext w w3 from ext_grown X2.out gr3 (fun j hj => by cases hj; have := HG2.out; omega)); clear r3 gr3; have hk3 : (keptB c ss).length ≤ c3 := own_cap R3.out _ _ _ rfl))
  go_ret
  exact ⟨_, rfl, R3.out.down (Nat.le_succ _), X3.out⟩

set_option maxRecDepth 100000 in
set_option maxHeartbeats 1000000 in
theorem excS_any (v : Value) (ss : List ByteArray) (c : ByteArray) (a5 : Addr) (m m2 : Nat) (is : List ByteArray) (w : World) (h : Strs w v ss) (h1 : 1 ≤ ss.length) (h20 : ss.length ≤ 20) (hm : is.length = m) (hm10 : m ≤ 10) (hi5 : HoldsS w a5 is) : Calls Try.prog 44 #[v, .string c, .slice (some a5) m m2] w (ResP (keptB c ss ++ is) w) := by
  have HS := Lib.hid h
  obtain ⟨a, cap, hv, _⟩ := h.at
  rw [hv] at HS ⊢
  clear hv h v
  have hcells : ∀ b off, a = some ⟨b, off, none⟩ → ∀ w', Ext w w' → ∀ j, j < ss.length → w'.cell? ⟨b, off + j, none⟩ = some (.string (ss.getD j ByteArray.empty)) := fun b off ha w' hx j hj => by
    obtain ⟨b', off', ha', e⟩ := (HS.out.ext hx).get2 j hj
    rw [ha] at ha'
    injection ha' with e1
    injection e1 with e1 e2
    subst e1; subst e2
    rw [e, List.getD_eq_getElem?_getD, List.getElem?_eq_getElem hj]
    rfl
  obtain ⟨b, off, rfl, _⟩ := HS.out.get2 0 h1
  have HCL := Lib.hid (hcells b off rfl)
  clear hcells
  have X1 := Lib.hid (show Ext w (w.alloc (.cells #[.string c] 9)) from (Ext.refl w).alloc _)
  have HB := Lib.hid (show (w.alloc (.cells #[.string c] 9)).heap.size = w.heap.size + 1 by simp)
  have HCC := Lib.hid (show (w.alloc (.cells #[.string c] 9)).cell? ⟨w.heap.size, 0, none⟩ = some (.string c) from (cell1 (heap_alloc_new w _)).1)
  have HKL := Lib.hid (keptB_len c ss)
  obtain ⟨n, hn⟩ : ∃ n, n = ss.length := ⟨_, rfl⟩
  have HNN := Lib.hid hn
  rw [← hn] at h1 h20 HS ⊢
  clear hn
  obtain ⟨i0, hi, hz0, hzs, hzb⟩ := info_parts info_strC
  have HI := Lib.hid (show Try.prog.info? 9 = some i0 ∧ i0.zero = some (.string ⟨#[]⟩) ∧ i0.size = 1 ∧ i0.bytes = 16 from ⟨hi, hz0, hzs, hzb⟩)
  clear hi hz0 hzs hzb
  have HM5 := Lib.hid hm
  have HI5 := Lib.hid hi5
  have HSZ3 : ∀ w3 : World, RowS (w.heap.size + 1) w3 (.slice (some ⟨w.heap.size, 0, none⟩) 0 0) [] → True := fun _ _ => trivial
  clear hi5 hm HSZ3
  go_enter Try.func44, Try.ntmps44
  go_wp2_with (first | (go_at_call 83; refine (Go.Proofs.Try.slices_Clone_string b off n cap ss _ (Nat.le_of_eq HNN.out) (by omega) (fun j hj => HCL.out _ X1.out j hj)).mono ?_; rintro e w2 ⟨v2, rfl, r2, _, x2⟩; have R2 := Lib.hid (show RowS (w.heap.size + 1) w2 v2 ss from by have r3 := (show RowS _ w2 v2 ss from by unfold RowS; rw [← HNN.out]; rw [HNN.out, List.take_length, ← HNN.out] at r2; exact r2); exact r3.down (Nat.le_of_eq HB.out.symm)); have Y2 := Lib.hid (show Ext (w.alloc (.cells #[.string c] 9)) w2 from x2); have X2 := Lib.hid (show Ext w w2 from Ext.trans X1.out x2); clear r2 x2; obtain ⟨a2, cap2, rfl⟩ := R2.out.shape; obtain ⟨g2, rfl, hB2, _⟩ := R2.out.at 0 (by rw [← HNN.out]; omega); have HG2 := Lib.hid hB2; clear hB2; rw [← HNN.out] at R2; rw [← HNN.out]) | (go_at_call 85; refine (del_own (w.heap.size + 1) g2 n cap2 w.heap.size c ss _ HNN.out.symm (by omega) R2.out (by have := Y2.out.size; have := HB.out; omega) (by have := HG2.out; omega) ((Y2.out.cell (p := ⟨w.heap.size, 0, none⟩) (by rw [HB.out]; exact Nat.lt_succ_self _)).trans HCC.out)).mono ?_; rintro e w3 ⟨v3, rfl, r3, gr3, c3, rfl⟩; have R3 := Lib.hid r3; have HW3 := Lib.hid (show w.heap.size + 1 ≤ w3.heap.size from by have h1 := gr3.size; have h2 := Y2.out.size; have h3 := HB.out; omega); have X3 := Lib.hid (show Ext w w3 from ext_grown X2.out gr3 (fun j hj => by cases hj; have := HG2.out; omega)); clear r3 gr3) | (at_builtin; refine wpList_append_own _ rfl _ _ 22 rfl (w.heap.size + 1) 9 i0 (.string ⟨#[]⟩) 1 16 Try.underlying22 HI.out.1 HI.out.2.1 HI.out.2.2.1 HI.out.2.2.2 rfl (by decide) _ (keptB c ss).length ((keptB c ss).map Value.string) rfl (by exact R3.out) a5 m m2 (is.map Value.string) rfl (by rw [List.length_map, Nat.mul_one]; exact HM5.out) (by exact (HI5.out.ext X3.out).2) (oneL is) (by have := HKL.out; have := HNN.out; unfold maxLen; omega) (by have := HKL.out; have := HNN.out; omega) (by have := HW3.out; omega) ?_; intro v5 w5 own5 gr5 _; have R5 := Lib.hid (show RowS (w.heap.size + 1) w5 v5 (keptB c ss ++ is) from by unfold RowS; rw [List.length_append, HM5.out, List.map_append]; exact own5); have X5 := Lib.hid (show Ext w w5 from ext_grown X3.out gr5 (fun j hj => by have := R3.out.own_le j hj; omega)); clear own5 gr5))
  go_ret
  exact ⟨_, rfl, R5.out.down (Nat.le_succ _), X5.out⟩

end Go.Proofs.Ytinojlbnmnlmhab
