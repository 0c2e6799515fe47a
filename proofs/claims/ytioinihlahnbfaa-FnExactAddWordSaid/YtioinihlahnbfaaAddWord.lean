/- For every list of texts and text the program's AddWord answers as its model does, in memory of its own, and leaves the list alone. No conditions. -/
import Derived.Test.YtioinihlahnbfaaRows
import Derived.Test.YtioinihlahnbfaaLaw
import Derived.Test.YtioinihlahnbfaaMake
import Derived.Test.YtioinihlahnbfaaPutIn
import Derived.Test.YtioinihlahnbfaaMarks
import Derived.Test.YtioinihlahnbfaaOpenS
namespace Go.Proofs.Ytioinihlahnbfaa.addWord
open Go.ChangeShapes Go.WideShapes Go.ChangeAt Go.RowKit
open Go.ChangeMaps (open_string shut_string)

theorem has_mem {ss : List ByteArray} {s : ByteArray} : hasS ss s = true ↔ s ∈ ss := by
  constructor
  · intro h
    obtain ⟨hl, he⟩ := fx_at h
    exact he ▸ List.getElem_mem hl
  · intro h
    unfold hasS
    refine decide_eq_true ?_
    unfold fx
    exact List.findIdx_lt_length_of_exists ⟨s, h, by simp⟩
/-- A word that may be put in. -/
def okB (ss : List ByteArray) (s : ByteArray) : Bool := dicB ss && wdW s && !hasS ss s && decide (¬ ss.length = 12)
def wV (ss : List ByteArray) (s : ByteArray) : List ByteArray := if okB ss s then putL ss s else []
theorem okB_d {ss : List ByteArray} {s : ByteArray} (h : dicB ss = false) : okB ss s = false := by unfold okB; simp [h]
theorem okB_w {ss : List ByteArray} {s : ByteArray} (h : wdW s = false) : okB ss s = false := by unfold okB; simp [h]
theorem okB_h {ss : List ByteArray} {s : ByteArray} (h : hasS ss s = true) : okB ss s = false := by unfold okB; simp [h]
theorem okB_12 {ss : List ByteArray} {s : ByteArray} (h : ss.length = 12) : okB ss s = false := by unfold okB; simp [h]
theorem okB_yes {ss : List ByteArray} {s : ByteArray} (h : dicB ss = true) (h1 : wdW s = true) (h2 : hasS ss s = false) (h3 : ¬ ss.length = 12) : okB ss s = true := by unfold okB; simp [h, h1, h2, h3]
theorem okB_of {ss : List ByteArray} {s : ByteArray} (h : okB ss s = true) : dicB ss = true ∧ wdW s = true ∧ hasS ss s = false ∧ ¬ ss.length = 12 := by
  unfold okB at h
  simp only [Bool.and_eq_true, Bool.not_eq_true', decide_eq_true_eq] at h
  exact ⟨h.1.1.1, h.1.1.2, h.1.2, h.2⟩
theorem wV_no {ss : List ByteArray} {s : ByteArray} (h : okB ss s = false) : wV ss s = [] := by unfold wV; simp [h]
theorem wV_yes {ss : List ByteArray} {s : ByteArray} (h : okB ss s = true) : wV ss s = putL ss s := by unfold wV; simp [h]
theorem wV_len (ss : List ByteArray) (s : ByteArray) : (wV ss s).length ≤ 1048576 := by
  cases h : okB ss s
  · rw [wV_no h]; simp
  · rw [wV_yes h]
    have := putL_len ss s
    have := dicB_len (okB_of h).1
    omega
theorem wV_mem (ss : List ByteArray) (s : ByteArray) : ∀ t ∈ wV ss s, t.size ≤ maxLen := by
  intro t ht
  cases h : okB ss s
  · rw [wV_no h] at ht; cases ht
  · rw [wV_yes h] at ht
    have : t.size ≤ 10 := ((putL_mem ss s t).1 ht).elim (fun hm => wdW_size (dicB_mem (okB_of h).1 t hm)) (fun e => e ▸ wdW_size (okB_of h).2.1)
    unfold maxLen
    omega
theorem mOk_add {ss : List ByteArray} {s : ByteArray} (hd : dicB ss = true) (hh : hasS ss s = false) : mOk (ss ++ [s]) = okB ss s ∧ mV (ss ++ [s]) = wV ss s := by
  have hl := dicB_len hd
  cases h : okB ss s
  · have h1 : mOk (ss ++ [s]) = false := mOk_no fun hm => by
      have h12 : ¬ ss.length = 12 := by have := hm.2.1; rw [List.length_append] at this; simp at this; omega
      rw [okB_yes hd (hm.2.2 s (by simp)) hh h12] at h
      cases h
    exact ⟨h1, by rw [mV_no h1, wV_no h]⟩
  · obtain ⟨_, hw, _, h12⟩ := okB_of h
    have h3 : mOk (ss ++ [s]) = true := mOk_yes (by simp) (by simp; omega) fun t ht => by
      rcases List.mem_append.1 ht with hm | hm
      · exact dicB_mem hd t hm
      · rw [List.mem_singleton] at hm; exact hm ▸ hw
    exact ⟨h3, by rw [mV_yes h3, wV_yes h, putAll_snoc, putAll_dic hd]⟩

set_option maxHeartbeats 2000000 in
theorem spec_any (v : Value) (ss : List ByteArray) (s : ByteArray) (w : World) (h : Strs w v ss) (hs : s.size ≤ maxLen) (B : Nat) (hr : RowS B w v ss) (hB : B ≤ w.heap.size) : Calls Try.prog 13 #[v, .string s] w (ResS (wV ss s) (okB ss s) w) := by
  have HS := Lib.hid h
  have HR := Lib.hid hr
  obtain ⟨a, cap, hv, _⟩ := h.at
  rw [hv] at HS HR ⊢
  clear hv h hr v
  cases hd : dicB ss
  · have H := Lib.hid (okB_d (s := s) hd)
    go_enter Try.func13, Try.ntmps13
    go_wp2_with (go_at_call 28; refine (wdGood_any _ _ _ HS.out).mono ?_; rintro e w1 ⟨rfl, x1⟩)
    go_ret2
    exact ⟨_, ret_vb H.out.symm, by rw [wV_no H.out]; exact RowS.nil _ _, x1⟩
  have HD := Lib.hid hd
  obtain ⟨hl1, hl2⟩ := dicB_len hd
  cases hw : wdW s
  · have H := Lib.hid (okB_w (ss := ss) hw)
    go_enter Try.func13, Try.ntmps13
    go_wp2_with (first | (go_at_call 28; refine (wdGood_any _ _ _ HS.out).mono ?_; rintro e w1 ⟨rfl, x1⟩) | (go_at_call 22; refine (wdWord_any _ _ hs).mono ?_; rintro e w' ⟨rfl, rfl⟩))
    go_ret2
    exact ⟨_, ret_vb H.out.symm, by rw [wV_no H.out]; exact RowS.nil _ _, x1⟩
  have HW := Lib.hid hw
  cases hh : hasS ss s
  · by_cases h12 : ss.length = 12
    · have H := Lib.hid (okB_12 (s := s) h12)
      have t1 : ((ss.length : Int) == 12) = true := by simp [h12]
      clear h12
      go_enter Try.func13, Try.ntmps13
      go_wp2_with (first | (go_at_call 28; refine (wdGood_any _ _ _ HS.out).mono ?_; rintro e w1 ⟨rfl, x1⟩) | (go_at_call 22; refine (wdWord_any _ _ hs).mono ?_; rintro e w' ⟨rfl, rfl⟩) | (go_at_call 29; refine (l1Has_any _ _ _ _ (HS.out.ext x1)).mono ?_; rintro e w2 ⟨rfl, x2⟩))
      go_ret2
      exact ⟨_, ret_vb H.out.symm, by rw [wV_no H.out]; exact RowS.nil _ _, x1.trans x2⟩
    · have H := Lib.hid (okB_yes hd hw hh h12)
      have t1 : ((ss.length : Int) == 12) = false := by simp; omega
      have HNS := Lib.hid (show ¬ s ∈ ss from fun hm => by rw [has_mem.2 hm] at hh; cases hh)
      clear h12
      go_enter Try.func13, Try.ntmps13
      go_wp2_with (first | (go_at_call 28; refine (wdGood_any _ _ _ HS.out).mono ?_; rintro e w1 ⟨rfl, x1⟩) | (go_at_call 22; refine (wdWord_any _ _ hs).mono ?_; rintro e w' ⟨rfl, rfl⟩) | (go_at_call 29; refine (l1Has_any _ _ _ _ (HS.out.ext x1)).mono ?_; rintro e w2 ⟨rfl, x2⟩) | (go_at_call 23; refine (wdPut_any B _ _ _ _ (HR.out.ext (x1.trans x2)) (Nat.le_trans hB (x1.trans x2).size) (by omega) HS.out.2.1 hl1).mono ?_; rintro e w9 ⟨v9, rfl, _, x9, r9⟩))
      go_ret2
      exact ⟨_, ret_vb H.out.symm, by rw [wV_yes H.out]; exact (r9 HNS.out).down (x1.trans x2).size, (x1.trans x2).trans x9⟩
  · have H := Lib.hid (okB_h hh)
    go_enter Try.func13, Try.ntmps13
    go_wp2_with (first | (go_at_call 28; refine (wdGood_any _ _ _ HS.out).mono ?_; rintro e w1 ⟨rfl, x1⟩) | (go_at_call 22; refine (wdWord_any _ _ hs).mono ?_; rintro e w' ⟨rfl, rfl⟩) | (go_at_call 29; refine (l1Has_any _ _ _ _ (HS.out.ext x1)).mono ?_; rintro e w2 ⟨rfl, x2⟩))
    go_ret2
    exact ⟨_, ret_vb H.out.symm, by rw [wV_no H.out]; exact RowS.nil _ _, x1.trans x2⟩

set_option maxRecDepth 100000 in
set_option maxHeartbeats 2000000 in
theorem impl_any (v : Value) (ss : List ByteArray) (s : ByteArray) (w : World) (h : Strs w v ss) (hs : s.size ≤ maxLen) : Calls Try.prog 14 #[v, .string s] w (ResS (wV ss s) (okB ss s) w) := by
  have HS := Lib.hid h
  obtain ⟨a, cap, hv, _⟩ := h.at
  rw [hv] at HS ⊢
  clear hv h v
  cases hd : dicB ss
  · have H := Lib.hid (okB_d (s := s) hd)
    go_enter Try.func14, Try.ntmps14
    go_wp2_with (go_at_call 26; refine (dict_any _ _ _ HS.out).mono ?_; rintro e w1 ⟨rfl, x1⟩)
    go_ret2
    exact ⟨_, ret_vb H.out.symm, by rw [wV_no H.out]; exact RowS.nil _ _, x1⟩
  obtain ⟨hl1, hl2⟩ := dicB_len hd
  have HD := Lib.hid hd
  have HC := Lib.hid (show Strs w (.slice a ss.length cap) ss from HS.out)
  cases hh : hasS ss s
  rotate_left
  · have H := Lib.hid (okB_h hh)
    go_enter Try.func14, Try.ntmps14
    go_wp2_with (first | (go_at_call 26; refine (dict_any _ _ _ HS.out).mono ?_; rintro e w1 ⟨rfl, x1⟩) | (go_at_call 30; refine (contains_any _ _ _ _ (HS.out.ext x1)).mono ?_; rintro e w2 ⟨rfl, x2⟩))
    go_ret2
    exact ⟨_, ret_vb H.out.symm, by rw [wV_no H.out]; exact RowS.nil _ _, x1.trans x2⟩
  have HA := Lib.hid (mOk_add (s := s) hd hh)
  obtain ⟨b, off, hb, hcells, rfl⟩ : ∃ b off, b < w.heap.size ∧ (∀ j (h : j < ss.length), w.cell? ⟨b, off + j, none⟩ = some (.string ss[j])) ∧ a = some ⟨b, off, none⟩ := by
    rcases HS.out.2.2 with ⟨h3, _⟩ | ⟨b, off, cap', h4, hb, hc⟩
    · rw [h3] at hl1; exact absurd hl1 (by simp)
    · exact ⟨b, off, hb, hc, by injection h4⟩
  have HH := Lib.hid (show HoldsS w ⟨b, off, none⟩ ss from by have := holds_drop hb hcells 0; rw [Nat.add_zero, List.drop_zero] at this; exact this)
  have HM := Lib.hid HS.out.2.1
  clear hcells
  obtain ⟨l, hl⟩ : ∃ l, l = ss ++ [s] := ⟨_, rfl⟩
  have HL := Lib.hid hl
  have hll : l.length = ss.length + 1 := by rw [hl, List.length_append]; rfl
  have HZ := Lib.hid (show ∀ t ∈ l, t.size ≤ maxLen from fun t ht => by
    rw [hl] at ht
    rcases List.mem_append.1 ht with h1 | h1
    · exact HM.out t h1
    · rw [List.mem_singleton] at h1; exact h1 ▸ hs)
  rw [← hl] at HA
  have HLL := Lib.hid hll
  have hl13 : l.length ≤ 13 := by omega
  have hl0 : 1 ≤ l.length := by omega
  clear hl hll
  have HONE := Lib.hid (show ∀ w1 : World, HoldsS (w1.alloc (.cells #[.string s] 9)) ⟨w1.heap.size, 0, none⟩ [s] from fun w1 => ⟨by simp, fun j u hu => cell_one_new w1 (.string s) 9 j u (by simpa using hu)⟩)
  go_enter Try.func14, Try.ntmps14
  go_wp2_with (first | (go_at_call 26; refine (dict_any _ _ _ HS.out).mono ?_; rintro e w1 ⟨rfl, x1⟩) | (go_at_call 30; refine (contains_any _ _ _ _ (HS.out.ext x1)).mono ?_; rintro e w2 ⟨rfl, x2⟩; have X2 : Ext w w2 := x1.trans x2) | (go_at_call 31; refine (concat_any (w2.heap.size + 1) ⟨b, off, none⟩ ⟨w2.heap.size, 0, none⟩ cap 1 ss [s] _ (by simp) (by simp [go_sem]) (by simp [go_sem]) (HH.out.ext ((X2.alloc _).alloc _)) ((HONE.out w2).ext ((Ext.refl _).alloc _)) (by show ss.length + 1 ≤ 1048576; omega)).mono ?_; rintro e w3 ⟨v3, rfl, r3, x3⟩; rw [← HL.out] at r3; have R3 := Lib.hid r3; clear r3; obtain ⟨a3, cap3, rfl⟩ := R3.out.shape) | (go_at_call 9; refine (make_any _ l _ (R3.out.strs (by unfold maxLen; omega) HZ.out)).mono ?_; rintro e w9 ⟨v9, rfl, r9, x9⟩; have R9 := Lib.hid r9; clear r9))
  have XX : Ext w w3 := ((X2.alloc _).alloc _).trans x3
  go_ret2
  exact ⟨_, ret_vb HA.out.1, by rw [← HA.out.2]; exact R9.out.down XX.size, XX.trans x9⟩

set_option maxHeartbeats 4000000 in
theorem walk (w : World) (v : Value) (ss : List ByteArray) (h : Strs w v ss) (s1 : ByteArray) (hs1 : s1.size ≤ maxLen) : Calls Try.prog 4 #[v, .string s1] w fun e w' => e = .returned (.bool true) ∧ Ext w w' := by
  have H := Lib.hid h
  clear h
  have h63_1 : s1.size ≤ 9223372036854775807 := hs1
  have hzl : (wV ss s1).length ≤ 1048576 := wV_len ss s1
  have hzm := Lib.hid (wV_mem ss s1)
  obtain ⟨zs, hzs⟩ : ∃ zs, zs = wV ss s1 := ⟨_, rfl⟩
  have HZ := Lib.hid hzs
  rw [← hzs] at hzl hzm
  clear hzs
  by_cases hbig1 : 1048576 < s1.size
  · go_enter Try.func4, Try.ntmps4
    go_wp2
    go_ret
    exact ⟨rfl, Ext.refl _⟩
  go_enter Try.func4, Try.ntmps4
  go_wp2_with (first | (go_at_call 6; refine (szS_any _ _ _ H.out).mono ?_; rintro e w' ⟨r, hr, rfl, rfl⟩))
  · go_ret
    exact ⟨rfl, Ext.refl _⟩
  · have hf := hr (by assumption)
    obtain ⟨hn, hb⟩ := hf
    clear hr
    refine (toS_any _ _ _ (H.out) hn).mono ?_
    rintro e w1 ⟨u1, rfl, hu1, x1, gx1, cx1, rfl, hgx1, hox1⟩
    have H1 := Lib.hid hu1
    have O1 := Lib.hid hox1
    have hg1 : gx1 < w1.heap.size := by
      rcases hox1.2 with ⟨h3, _⟩ | ⟨g', c, cur, h3, _, hg, _⟩
      · cases h3
      · cases h3
        exact heap_lt hg
    clear hu1 hox1
    have X1 : Ext w w1 := x1
    go_wp2_with fail
    refine (spec_any _ _ _ _ H1.out hs1 _ O1.out X1.size).mono ?_
    rintro e w2 ⟨g2, rfl, r2, x2⟩
    rw [← HZ.out] at r2
    have R2 := Lib.hid r2
    clear r2
    have X2 : Ext w w2 := X1.trans x2
    go_wp2_with fail
    refine (toS_any _ _ _ (H.out.ext X2) hn).mono ?_
    rintro e w3 ⟨u3, rfl, hu3, x3, gx3, cx3, rfl, hgx3, hox3⟩
    have H3 := Lib.hid hu3
    have O3 := Lib.hid hox3
    have hg3 : gx3 < w3.heap.size := by
      rcases hox3.2 with ⟨h3, _⟩ | ⟨g', c, cur, h3, _, hg, _⟩
      · cases h3
      · cases h3
        exact heap_lt hg
    clear hu3 hox3
    have X3 : Ext w w3 := X2.trans x3
    go_wp2_with fail
    refine (impl_any _ _ _ _ H3.out hs1).mono ?_
    rintro e w4 ⟨g4, rfl, r4, x4⟩
    rw [← HZ.out] at r4
    have R4 := Lib.hid r4
    clear r4
    have X4 : Ext w w4 := X3.trans x4
    go_wp2_with fail
    refine (eqS_any _ _ _ _ ((R4.out).strs (by unfold maxLen; omega) hzm.out) ((R2.out.ext (x3.trans x4)).strs (by unfold maxLen; omega) hzm.out) hzl).mono ?_
    rintro e w5 ⟨rfl, x5⟩
    have X5 : Ext w w5 := X4.trans x5
    go_wp2_with fail
    refine (toS_any _ _ _ (H.out.ext X5) hn).mono ?_
    rintro e w6 ⟨u6, rfl, hu6, x6, gx6, cx6, rfl, hgx6, hox6⟩
    have H6 := Lib.hid hu6
    have O6 := Lib.hid hox6
    have hg6 : gx6 < w6.heap.size := by
      rcases hox6.2 with ⟨h3, _⟩ | ⟨g', c, cur, h3, _, hg, _⟩
      · cases h3
      · cases h3
        exact heap_lt hg
    clear hu6 hox6
    have X6 : Ext w w6 := X5.trans x6
    go_wp2_with fail
    refine (eqS_any _ _ _ _ (H3.out.ext ((x4.trans x5).trans x6)) (H6.out) hn).mono ?_
    rintro e w7 ⟨rfl, x7⟩
    have X7 : Ext w w7 := X6.trans x7
    go_wp2_with fail
    refine (markS_any _ _ _ gx3 _ _ _ rfl (row_ext O3.out (((x4.trans x5).trans x6).trans x7)) hn).mono ?_
    rintro e w8 ⟨rfl, hg8⟩
    have X8 : Ext w w8 := ext_grown X7 hg8 (fun j hj => by cases hj; exact Nat.le_trans X2.size hgx3)
    have S8 := Lib.hid (RowS.kept (R2.out.ext ((((x3.trans x4).trans x5).trans x6).trans x7)) hg8 (R2.out.apart gx3 (.inr (Nat.le_trans (Nat.le_refl _) hgx3))))
    have G8 := Lib.hid (RowS.kept (R4.out.ext ((x5.trans x6).trans x7)) hg8 (R4.out.apart gx3 (.inl hg3)))
    clear hg8
    go_wp2_with fail
    refine (eqS_any _ _ _ _ ((G8.out).strs (by unfold maxLen; omega) hzm.out) ((S8.out).strs (by unfold maxLen; omega) hzm.out) hzl).mono ?_
    rintro e w9 ⟨rfl, x9⟩
    have X9 : Ext w w9 := X8.trans x9
    go_wp2_with fail
    refine (markR_any _ _ _ _ (G8.out.ext x9) hzl).mono ?_
    rintro e w10 ⟨rfl, m10, hg10⟩
    have M10 := Lib.hid m10
    have X10 : Ext w w10 := ext_grown X9 hg10 (fun j hj => Nat.le_trans X3.size (R4.out.own_le j hj))
    have S10 := Lib.hid (RowS.kept (S8.out.ext x9) hg10 (R2.out.apart2 (w2 := w4) R4.out (x3).size))
    clear m10 hg10
    go_wp2_with fail
    refine (heldR_any _ _ _ _ M10.out hzl).mono ?_
    rintro e w11 ⟨rfl, x11⟩
    have X11 : Ext w w11 := X10.trans x11
    go_wp2_with fail
    refine (toS_any _ _ _ (H.out.ext X11) hn).mono ?_
    rintro e w12 ⟨u12, rfl, hu12, x12, gx12, cx12, rfl, hgx12, hox12⟩
    have H12 := Lib.hid hu12
    have O12 := Lib.hid hox12
    have hg12 : gx12 < w12.heap.size := by
      rcases hox12.2 with ⟨h3, _⟩ | ⟨g', c, cur, h3, _, hg, _⟩
      · cases h3
      · cases h3
        exact heap_lt hg
    clear hu12 hox12
    have X12 : Ext w w12 := X11.trans x12
    go_wp2_with fail
    refine (impl_any _ _ _ _ H12.out hs1).mono ?_
    rintro e w13 ⟨g13, rfl, r13, x13⟩
    rw [← HZ.out] at r13
    have R13 := Lib.hid r13
    clear r13
    have X13 : Ext w w13 := X12.trans x13
    go_wp2_with fail
    refine (eqS_any _ _ _ _ ((R13.out).strs (by unfold maxLen; omega) hzm.out) ((S10.out.ext ((x11.trans x12).trans x13)).strs (by unfold maxLen; omega) hzm.out) hzl).mono ?_
    rintro e w14 ⟨rfl, x14⟩
    have X14 : Ext w w14 := X13.trans x14
    go_wp2_with fail
    refine (heldR_any _ _ _ _ (M10.out.ext (((x11.trans x12).trans x13).trans x14)) hzl).mono ?_
    rintro e w15 ⟨rfl, x15⟩
    have X15 : Ext w w15 := X14.trans x15
    go_wp2_with fail
    go_ret
    exact ⟨rfl, X15⟩

set_option maxRecDepth 100000 in
theorem contract (H : Type) (enc : TypeId × Value → H) (W : World) (base : Nat) (args : Array Value) (ds gs : List (DataW H)) (before : List MemPlace)
    (hval : ∀ (j : Nat) t v, Try.f4.params[j]? = some t → args[j]? = some v → Value.okWide Try.prog W .any base t v)
    (hW : DataW.Whole enc Try.prog Try.f4.params.toList Rows.fnExactAddWordSpec.vars false W args.toList ds gs before) :
    Calls Try.prog 4 args W fun e W' => ∃ v, e = .returned v ∧ Rows.fnExactAddWordSpec.post enc Try.prog Try.f4 false true false false W args v W' := by
  have hW' := hW
  obtain ⟨p, q, hA0, hV, rfl, hfz, hnd⟩ := hW
  have hA : DataW.TrodAll enc Try.prog W 0 (fun _ => true) true Try.f4.params.toList args.toList ds p := hA0
  rw [Try.params4] at hA hval
  obtain ⟨v0, vs0, d0, ds0, p0, q0, hargs0, rfl, rfl, h0, r0⟩ := trodAll_cons hA
  obtain ⟨v1, vs1, d1, ds1, p1, q1, hargs1, rfl, rfl, h1, r1⟩ := trodAll_cons r0
  obtain ⟨rfl, rfl, rfl⟩ := trodAll_nil r1
  subst hargs1
  obtain rfl : args = #[v0, v1] := Array.toList_inj.1 hargs0
  obtain ⟨s0, z0⟩ := strs_of (hval 0 22 v0 rfl rfl) h0
  obtain ⟨s1, rfl, rfl, rfl, z1⟩ := open_string Try.underlying9 (hval 1 9 v1 rfl rfl) h1
  clear hA0
  refine (walk W v0 s0 z0 s1 z1).mono fun e W' ⟨he, hx⟩ => ?_
  subst he
  exact ⟨_, rfl, post_true (tb := 4) laidOut (by rw [Try.params4]; intro t ht; simp at ht; rcases ht with rfl | rfl <;> exact ⟨by kernel_rfl, of_decide_eq_true (by kernel_rfl)⟩) (by kernel_rfl) hW' hx (by obtain ⟨rfl, rfl⟩ := trodVars_none hV; rfl) rfl Try.underlying4⟩

set_option maxRecDepth 100000 in
theorem lifted (os : Os) (started : os.Started) (H : Type) (enc : TypeId × Value → H) :
    ReturnsInHanded {} Try.checked os 4 .any (Rows.fnExactAddWordSpec.pre6 enc Try.prog Try.f4 Rows.fnExactAddWordRow.domain false) (Rows.fnExactAddWordSpec.post enc Try.prog Try.f4 false true false false) := by
  refine returnsInHanded_of_change (C := Try.checked) own started (by kernel_rfl) Try.func4
    (ChangeSpec.witness6 (enc := enc) (C := Try.checked) false ⟨#[], #[.slice none 0 0, .string ByteArray.empty], []⟩ 8 (by kernel_rfl) (by kernel_rfl) (by kernel_rfl) (by kernel_rfl)) ?_
  intro W base args ds gs before hval hW _ _
  exact contract H enc W base args ds gs before hval hW

theorem said : Rows.FnExactAddWordSaid :=
  OpenClaim.holds_of_wide 4 Try.f4 rfl rfl rfl rfl rfl rfl rfl ⟨rfl, rfl, rfl, rfl, rfl⟩ rfl rfl rfl rfl rfl (by kernel_rfl) Try.func4 (by kernel_rfl)
    (of_decide_eq_true (by kernel_rfl)) (by unfold Func.isWrapper; first | (rw [if_pos (by decide +kernel)]; kernel_rfl) | (rw [if_neg (by decide +kernel)]; exact ⟨rfl, rfl⟩))
    (fun os started H enc _ => lifted os started H enc)
end Go.Proofs.Ytioinihlahnbfaa.addWord
