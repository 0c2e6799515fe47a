/- For every list of texts and text the program's AddWord answers as its model does, in memory of its own, and leaves the list alone. No conditions. -/
import Derived.Test.YtamjhhdggdfjiaaRows
import Derived.Test.YtamjhhdggdfjiaaLaw
import Derived.Test.YtamjhhdggdfjiaaSorted
import Derived.Test.YtamjhhdggdfjiaaPutIn
import Derived.Test.YtamjhhdggdfjiaaMarks
import Derived.Test.YtamjhhdggdfjiaaOpenS
namespace Go.Proofs.Ytamjhhdggdfjiaa.addWord
open Go.ChangeShapes Go.WideShapes Go.ChangeAt Go.RowKit
open Go.ChangeMaps (open_string shut_string)

def ResS (ts : List ByteArray) (ok : Bool) (w : World) (e : Ending) (w' : World) : Prop := ∃ v, e = .returned (.tuple #[v, .bool ok]) ∧ RowS w.heap.size w' v ts ∧ Ext w w'
theorem ret_vb {v : Value} {b b' : Bool} (h : b = b') : Ending.returned (.tuple #[v, .bool b]) = .returned (.tuple #[v, .bool b']) := by rw [h]
/-- The texts sorted. -/
def srt (l : List ByteArray) : List ByteArray := (sortB (l.map (·.data.toList))).map bytesOf
theorem srt_perm (l : List ByteArray) : (srt l).Perm l := by
  have h1 : (sortB (l.map (·.data.toList))).Perm (l.map (·.data.toList)) := List.mergeSort_perm _ _
  have h2 := h1.map bytesOf
  have h3 : (l.map (·.data.toList)).map bytesOf = l := by
    rw [List.map_map]
    exact List.map_id'' (fun s => rfl) l
  rw [h3] at h2
  exact h2
theorem srt_len (l : List ByteArray) : (srt l).length = l.length := (srt_perm l).length_eq
theorem srt_inc {l : List ByteArray} (h : l.Nodup) : Inc (srt l) := by
  have h1 : (srt l).Pairwise fun x y => lessB y x = false := by
    unfold srt
    rw [List.pairwise_map]
    refine (sortB_le _).imp fun {a b} hab => ?_
    unfold lessB
    have hl : ∀ x : List UInt8, (bytesOf x).toList = x := fun x => by rw [Lib.toList_data]; rfl
    rw [hl, hl]
    exact hab
  have h2 : (srt l).Nodup := (srt_perm l).nodup_iff.2 h
  unfold Inc
  rw [List.pairwise_iff_getElem] at h1 ⊢
  intro i j hi hj hij
  cases hx : lessB (srt l)[i] (srt l)[j]
  · have := less_tri hx (h1 i j hi hj hij)
    exact absurd ((List.getElem_inj h2).1 this) (by omega)
  · rfl
theorem inc_dic {l : List ByteArray} (h : Inc l) (h1 : 1 ≤ l.length) (h2 : l.length ≤ 12) (hw : ∀ s ∈ l, wdW s = true) : dicB l = true := by
  refine dicB_yes h1 h2 fun j hj => ?_
  by_cases h0 : j = 0
  · subst h0
    rw [okAt_zero l hj]
    exact hw _ (List.getElem_mem hj)
  · rw [okAt_eq l j hj (by omega), hw _ (List.getElem_mem hj), inc_at h (j - 1) j (by omega) hj]
    rfl
theorem dic_inc {l : List ByteArray} (h : dicB l = true) : Inc l := List.pairwise_iff_getElem.2 fun i j _ hj hij => dicB_lt h i j hij hj
theorem dic_nodup {l : List ByteArray} (h : dicB l = true) : l.Nodup := List.pairwise_iff_getElem.2 fun i j hi hj hij he => absurd (dicB_inj h i j hi hj he) (by omega)
theorem has_mem {ss : List ByteArray} {s : ByteArray} : hasS ss s = true ↔ s ∈ ss := by
  constructor
  · intro h
    obtain ⟨hl, he⟩ := fx_at h
    exact he ▸ List.getElem_mem hl
  · intro h
    unfold hasS
    refine decide_eq_true ?_
    unfold fx
    exact List.findIdx_lt_length_of_exists ⟨s, h, by simp⟩
/-- A word that may be put in. -/
def okB (ss : List ByteArray) (s : ByteArray) : Bool := dicB ss && wdW s && !hasS ss s && decide (¬ ss.length = 12)
def wV (ss : List ByteArray) (s : ByteArray) : List ByteArray := if okB ss s then putL ss s else []
theorem okB_d {ss : List ByteArray} {s : ByteArray} (h : dicB ss = false) : okB ss s = false := by unfold okB; simp [h]
theorem okB_w {ss : List ByteArray} {s : ByteArray} (h : wdW s = false) : okB ss s = false := by unfold okB; simp [h]
theorem okB_h {ss : List ByteArray} {s : ByteArray} (h : hasS ss s = true) : okB ss s = false := by unfold okB; simp [h]
theorem okB_12 {ss : List ByteArray} {s : ByteArray} (h : ss.length = 12) : okB ss s = false := by unfold okB; simp [h]
theorem okB_yes {ss : List ByteArray} {s : ByteArray} (h : dicB ss = true) (h1 : wdW s = true) (h2 : hasS ss s = false) (h3 : ¬ ss.length = 12) : okB ss s = true := by unfold okB; simp [h, h1, h2, h3]
theorem okB_of {ss : List ByteArray} {s : ByteArray} (h : okB ss s = true) : dicB ss = true ∧ wdW s = true ∧ hasS ss s = false ∧ ¬ ss.length = 12 := by
  unfold okB at h
  simp only [Bool.and_eq_true, Bool.not_eq_true', decide_eq_true_eq] at h
  exact ⟨h.1.1.1, h.1.1.2, h.1.2, h.2⟩
theorem wV_no {ss : List ByteArray} {s : ByteArray} (h : okB ss s = false) : wV ss s = [] := by unfold wV; simp [h]
theorem wV_yes {ss : List ByteArray} {s : ByteArray} (h : okB ss s = true) : wV ss s = putL ss s := by unfold wV; simp [h]
theorem wV_len (ss : List ByteArray) (s : ByteArray) : (wV ss s).length ≤ 1048576 := by
  cases h : okB ss s
  · rw [wV_no h]; simp
  · rw [wV_yes h]
    have := putL_len ss s
    have := dicB_len (okB_of h).1
    omega
theorem wV_mem (ss : List ByteArray) (s : ByteArray) : ∀ t ∈ wV ss s, t.size ≤ maxLen := by
  intro t ht
  cases h : okB ss s
  · rw [wV_no h] at ht; cases ht
  · rw [wV_yes h] at ht
    have : t.size ≤ 10 := ((putL_mem ss s t).1 ht).elim (fun hm => wdW_size (dicB_mem (okB_of h).1 t hm)) (fun e => e ▸ wdW_size (okB_of h).2.1)
    unfold maxLen
    omega
/-- The sorted list is a dictionary just where the word may be put in; and then it is the list with it. -/
theorem srt_ok {ss : List ByteArray} {s : ByteArray} (h : okB ss s = true) : dicB (srt (ss ++ [s])) = true ∧ srt (ss ++ [s]) = putL ss s := by
  obtain ⟨hd, hw, hh, h12⟩ := okB_of h
  have hns : ¬ s ∈ ss := fun hm => by rw [has_mem.2 hm] at hh; cases hh
  have hnd : (ss ++ [s]).Nodup := by
    refine List.nodup_append.2 ⟨dic_nodup hd, by simp, fun a ha b hb => ?_⟩
    rw [List.mem_singleton] at hb
    subst hb
    intro e
    exact hns (e ▸ ha)
  have hi := srt_inc hnd
  have hl := dicB_len hd
  refine ⟨inc_dic hi (by rw [srt_len]; simp) (by rw [srt_len]; simp; omega) fun t ht => ?_, inc_ext _ _ hi (putL_inc s (dic_inc hd)) fun x => ?_⟩
  · have := (srt_perm _).mem_iff.1 ht
    rcases List.mem_append.1 this with hm | hm
    · exact dicB_mem hd t hm
    · rw [List.mem_singleton] at hm; exact hm ▸ hw
  · rw [putL_mem, (srt_perm _).mem_iff, List.mem_append, List.mem_singleton]
theorem srt_no {ss : List ByteArray} {s : ByteArray} (hd : dicB ss = true) (h : okB ss s = false) : 12 < ss.length + 1 ∨ dicB (srt (ss ++ [s])) = false := by
  by_cases h12 : ss.length = 12
  · exact .inl (by omega)
  right
  cases hs : dicB (srt (ss ++ [s]))
  · rfl
  exfalso
  have hm : s ∈ srt (ss ++ [s]) := (srt_perm _).mem_iff.2 (by simp)
  have hw := dicB_mem hs s hm
  have hnd : (ss ++ [s]).Nodup := (srt_perm _).nodup_iff.1 (dic_nodup hs)
  have hh : hasS ss s = false := by
    cases hx : hasS ss s
    · rfl
    · exfalso
      have := (List.nodup_append.1 hnd).2.2 s (has_mem.1 hx) s (by simp)
      exact this rfl
  rw [okB_yes hd hw hh h12] at h
  cases h

def mOk (l : List ByteArray) : Bool := decide (l.length ≤ 12) && dicB (srt l)
def mV (l : List ByteArray) : List ByteArray := if mOk l then srt l else []
theorem mV_no {l : List ByteArray} (h : mOk l = false) : mV l = [] := by unfold mV; simp [h]
theorem mV_yes {l : List ByteArray} (h : mOk l = true) : mV l = srt l := by unfold mV; simp [h]
theorem mOk_add {ss : List ByteArray} {s : ByteArray} (hd : dicB ss = true) : mOk (ss ++ [s]) = okB ss s ∧ mV (ss ++ [s]) = wV ss s := by
  cases h : okB ss s
  · have h1 : mOk (ss ++ [s]) = false := by
      unfold mOk
      rcases srt_no hd h with h2 | h2
      · rw [decide_eq_false (by rw [List.length_append]; simp; omega), Bool.false_and]
      · rw [h2, Bool.and_false]
    exact ⟨h1, by rw [mV_no h1, wV_no h]⟩
  · obtain ⟨h1, h2⟩ := srt_ok h
    have hl := dicB_len (okB_of h).1
    have h12 := (okB_of h).2.2.2
    have h3 : mOk (ss ++ [s]) = true := by
      unfold mOk
      rw [h1, decide_eq_true (by rw [List.length_append]; simp; omega)]
      rfl
    exact ⟨h3, by rw [mV_yes h3, wV_yes h, h2]⟩

set_option maxHeartbeats 4000000 in
theorem make_any (B g cap : Nat) (l : List ByteArray) (w : World) (h : RowS B w (.slice (some ⟨g, 0, none⟩) l.length cap) l) (h1 : 1 ≤ l.length) (h2 : l.length ≤ 100) (hsz : ∀ t ∈ l, t.size ≤ maxLen) :
    Calls Try.prog 34 #[.slice (some ⟨g, 0, none⟩) l.length cap] w (ResS (mV l) (mOk l) w) := by
  have HR := Lib.hid h
  have HZ := Lib.hid hsz
  clear h hsz
  have HM := Lib.hid (show mOk l = (decide (l.length ≤ 12) && dicB (srt l)) from rfl)
  obtain ⟨n, hn⟩ : ∃ n, n = l.length := ⟨_, rfl⟩
  have HN := Lib.hid hn
  rw [← hn] at h1 h2 ⊢
  clear hn
  by_cases h12 : 12 < n
  · have H := Lib.hid (show mOk l = false by rw [HM.out, decide_eq_false (by rw [← HN.out]; omega), Bool.false_and])
    go_enter Try.func34, Try.ntmps34
    go_wp2
    go_ret2
    exact ⟨_, ret_vb H.out.symm, by rw [mV_no H.out]; exact RowS.nil _ _, Ext.refl _⟩
  have HD := Lib.hid (show mOk l = dicB (srt l) by rw [HM.out, decide_eq_true (by rw [← HN.out]; omega), Bool.true_and])
  have HCL := Lib.hid (show ∀ j, j < l.length → w.cell? ⟨g, 0 + j, none⟩ = some (.string (l.getD j ByteArray.empty)) from fun j hj => by
    obtain ⟨g', e, _, _, hc, _⟩ := HR.out.at j hj
    injection e with e
    injection e with e
    subst e
    rw [Nat.zero_add, hc, List.getD_eq_getElem?_getD, List.getElem?_eq_getElem hj]
    rfl)
  cases hs : dicB (srt l)
  · have HS := Lib.hid hs
    have H := Lib.hid (show mOk l = false by rw [HD.out, hs])
    clear hs
    go_enter Try.func34, Try.ntmps34
    go_wp2_with (first | (go_at_call 52; refine (Go.Proofs.Try.slices_Clone_string g 0 n cap l _ (Nat.le_of_eq HN.out) (by omega) HCL.out).mono ?_; rintro e w2 ⟨v2, rfl, r2, _, x2⟩; have r2' : RowS w.heap.size w2 v2 l := (by unfold RowS; rw [← HN.out]; rw [HN.out, List.take_length, ← HN.out] at r2; exact r2); have R2 := Lib.hid r2'; clear r2 r2'; obtain ⟨a2, cap2, rfl⟩ := R2.out.shape; obtain ⟨g2, rfl, hB2, _⟩ := R2.out.at 0 (by rw [← HN.out]; omega)) | (go_at_call 53; rw [← HN.out]; refine (sort_own w.heap.size g2 n cap2 l _ HN.out.symm (by omega) (by have := R2.out; unfold RowS at this; rw [← HN.out] at this; exact this)).mono ?_; rintro e w4 ⟨rfl, r4, g4⟩; have r4' : RowS w.heap.size w4 (.slice (some ⟨g2, 0, none⟩) n cap2) (srt l) := (by unfold RowS; rw [srt_len, ← HN.out]; rw [enc_back] at r4; exact r4); have R4 := Lib.hid r4'; have X4 : Ext w w4 := ext_grown x2 g4 (fun j hj => by cases hj; exact hB2); clear r4 r4' g4) | (go_at_call 11; refine (dict_any _ (srt l) _ (R4.out.strs (by rw [srt_len, ← HN.out]; unfold maxLen; omega) (fun t ht => HZ.out t ((srt_perm l).mem_iff.1 ht)))).mono ?_; rintro e w5 ⟨rfl, x5⟩; rw [HS.out]))
    go_ret2
    exact ⟨_, ret_vb H.out.symm, by rw [mV_no H.out]; exact RowS.nil _ _, (X4).trans x5⟩
  · have HS := Lib.hid hs
    have H := Lib.hid (show mOk l = true by rw [HD.out, hs])
    clear hs
    go_enter Try.func34, Try.ntmps34
    go_wp2_with (first | (go_at_call 52; refine (Go.Proofs.Try.slices_Clone_string g 0 n cap l _ (Nat.le_of_eq HN.out) (by omega) HCL.out).mono ?_; rintro e w2 ⟨v2, rfl, r2, _, x2⟩; have r2' : RowS w.heap.size w2 v2 l := (by unfold RowS; rw [← HN.out]; rw [HN.out, List.take_length, ← HN.out] at r2; exact r2); have R2 := Lib.hid r2'; clear r2 r2'; obtain ⟨a2, cap2, rfl⟩ := R2.out.shape; obtain ⟨g2, rfl, hB2, _⟩ := R2.out.at 0 (by rw [← HN.out]; omega)) | (go_at_call 53; rw [← HN.out]; refine (sort_own w.heap.size g2 n cap2 l _ HN.out.symm (by omega) (by have := R2.out; unfold RowS at this; rw [← HN.out] at this; exact this)).mono ?_; rintro e w4 ⟨rfl, r4, g4⟩; have r4' : RowS w.heap.size w4 (.slice (some ⟨g2, 0, none⟩) n cap2) (srt l) := (by unfold RowS; rw [srt_len, ← HN.out]; rw [enc_back] at r4; exact r4); have R4 := Lib.hid r4'; have X4 : Ext w w4 := ext_grown x2 g4 (fun j hj => by cases hj; exact hB2); clear r4 r4' g4) | (go_at_call 11; refine (dict_any _ (srt l) _ (R4.out.strs (by rw [srt_len, ← HN.out]; unfold maxLen; omega) (fun t ht => HZ.out t ((srt_perm l).mem_iff.1 ht)))).mono ?_; rintro e w5 ⟨rfl, x5⟩; rw [HS.out]))
    go_ret2
    exact ⟨_, ret_vb H.out.symm, by rw [mV_yes H.out]; exact R4.out.ext x5, (X4).trans x5⟩

set_option maxHeartbeats 2000000 in
theorem spec_any (v : Value) (ss : List ByteArray) (s : ByteArray) (w : World) (h : Strs w v ss) (hs : s.size ≤ maxLen) (B : Nat) (hr : RowS B w v ss) (hB : B ≤ w.heap.size) : Calls Try.prog 15 #[v, .string s] w (ResS (wV ss s) (okB ss s) w) := by
  have HS := Lib.hid h
  have HR := Lib.hid hr
  obtain ⟨a, cap, hv, _⟩ := h.at
  rw [hv] at HS HR ⊢
  clear hv h hr v
  cases hd : dicB ss
  · have H := Lib.hid (okB_d (s := s) hd)
    go_enter Try.func15, Try.ntmps15
    go_wp2_with (go_at_call 27; refine (wdGood_any _ _ _ HS.out).mono ?_; rintro e w1 ⟨rfl, x1⟩)
    go_ret2
    exact ⟨_, ret_vb H.out.symm, by rw [wV_no H.out]; exact RowS.nil _ _, x1⟩
  have HD := Lib.hid hd
  obtain ⟨hl1, hl2⟩ := dicB_len hd
  cases hw : wdW s
  · have H := Lib.hid (okB_w (ss := ss) hw)
    go_enter Try.func15, Try.ntmps15
    go_wp2_with (first | (go_at_call 27; refine (wdGood_any _ _ _ HS.out).mono ?_; rintro e w1 ⟨rfl, x1⟩) | (go_at_call 31; refine (wdWord_any _ _ hs).mono ?_; rintro e w' ⟨rfl, rfl⟩))
    go_ret2
    exact ⟨_, ret_vb H.out.symm, by rw [wV_no H.out]; exact RowS.nil _ _, x1⟩
  have HW := Lib.hid hw
  cases hh : hasS ss s
  · by_cases h12 : ss.length = 12
    · have H := Lib.hid (okB_12 (s := s) h12)
      have t1 : ((ss.length : Int) == 12) = true := by simp [h12]
      clear h12
      go_enter Try.func15, Try.ntmps15
      go_wp2_with (first | (go_at_call 27; refine (wdGood_any _ _ _ HS.out).mono ?_; rintro e w1 ⟨rfl, x1⟩) | (go_at_call 31; refine (wdWord_any _ _ hs).mono ?_; rintro e w' ⟨rfl, rfl⟩) | (go_at_call 32; refine (l1Has_any _ _ _ _ (HS.out.ext x1)).mono ?_; rintro e w2 ⟨rfl, x2⟩))
      go_ret2
      exact ⟨_, ret_vb H.out.symm, by rw [wV_no H.out]; exact RowS.nil _ _, x1.trans x2⟩
    · have H := Lib.hid (okB_yes hd hw hh h12)
      have t1 : ((ss.length : Int) == 12) = false := by simp; omega
      have HNS := Lib.hid (show ¬ s ∈ ss from fun hm => by rw [has_mem.2 hm] at hh; cases hh)
      clear h12
      go_enter Try.func15, Try.ntmps15
      go_wp2_with (first | (go_at_call 27; refine (wdGood_any _ _ _ HS.out).mono ?_; rintro e w1 ⟨rfl, x1⟩) | (go_at_call 31; refine (wdWord_any _ _ hs).mono ?_; rintro e w' ⟨rfl, rfl⟩) | (go_at_call 32; refine (l1Has_any _ _ _ _ (HS.out.ext x1)).mono ?_; rintro e w2 ⟨rfl, x2⟩) | (go_at_call 33; refine (wdPut_any B _ _ _ _ (HR.out.ext (x1.trans x2)) (Nat.le_trans hB (x1.trans x2).size) (by omega) HS.out.2.1 hl1).mono ?_; rintro e w9 ⟨v9, rfl, _, x9, r9⟩))
      go_ret2
      exact ⟨_, ret_vb H.out.symm, by rw [wV_yes H.out]; exact (r9 HNS.out).down (x1.trans x2).size, (x1.trans x2).trans x9⟩
  · have H := Lib.hid (okB_h hh)
    go_enter Try.func15, Try.ntmps15
    go_wp2_with (first | (go_at_call 27; refine (wdGood_any _ _ _ HS.out).mono ?_; rintro e w1 ⟨rfl, x1⟩) | (go_at_call 31; refine (wdWord_any _ _ hs).mono ?_; rintro e w' ⟨rfl, rfl⟩) | (go_at_call 32; refine (l1Has_any _ _ _ _ (HS.out.ext x1)).mono ?_; rintro e w2 ⟨rfl, x2⟩))
    go_ret2
    exact ⟨_, ret_vb H.out.symm, by rw [wV_no H.out]; exact RowS.nil _ _, x1.trans x2⟩

set_option maxRecDepth 100000 in
set_option maxHeartbeats 2000000 in
theorem impl_any (v : Value) (ss : List ByteArray) (s : ByteArray) (w : World) (h : Strs w v ss) (hs : s.size ≤ maxLen) : Calls Try.prog 16 #[v, .string s] w (ResS (wV ss s) (okB ss s) w) := by
  have HS := Lib.hid h
  obtain ⟨a, cap, hv, _⟩ := h.at
  rw [hv] at HS ⊢
  clear hv h v
  cases hd : dicB ss
  · have H := Lib.hid (okB_d (s := s) hd)
    go_enter Try.func16, Try.ntmps16
    go_wp2_with (go_at_call 11; refine (dict_any _ _ _ HS.out).mono ?_; rintro e w1 ⟨rfl, x1⟩)
    go_ret2
    exact ⟨_, ret_vb H.out.symm, by rw [wV_no H.out]; exact RowS.nil _ _, x1⟩
  obtain ⟨hl1, hl2⟩ := dicB_len hd
  have HA := Lib.hid (mOk_add (s := s) hd)
  obtain ⟨b, off, hb, hcells, rfl⟩ : ∃ b off, b < w.heap.size ∧ (∀ j (h : j < ss.length), w.cell? ⟨b, off + j, none⟩ = some (.string ss[j])) ∧ a = some ⟨b, off, none⟩ := by
    rcases HS.out.2.2 with ⟨h3, _⟩ | ⟨b, off, cap', h4, hb, hc⟩
    · rw [h3] at hl1; exact absurd hl1 (by simp)
    · exact ⟨b, off, hb, hc, by injection h4⟩
  have HH := Lib.hid (show HoldsS w ⟨b, off, none⟩ ss from by have := holds_drop hb hcells 0; rw [Nat.add_zero, List.drop_zero] at this; exact this)
  have HM := Lib.hid HS.out.2.1
  clear hcells
  obtain ⟨l, hl⟩ : ∃ l, l = ss ++ [s] := ⟨_, rfl⟩
  have HL := Lib.hid hl
  have hll : l.length = ss.length + 1 := by rw [hl, List.length_append]; rfl
  have HZ := Lib.hid (show ∀ t ∈ l, t.size ≤ maxLen from fun t ht => by
    rw [hl] at ht
    rcases List.mem_append.1 ht with h1 | h1
    · exact HM.out t h1
    · rw [List.mem_singleton] at h1; exact h1 ▸ hs)
  rw [← hl] at HA
  have HLL := Lib.hid hll
  have hl13 : l.length ≤ 13 := by omega
  have hl0 : 1 ≤ l.length := by omega
  clear hl hll
  have HONE := Lib.hid (show ∀ w1 : World, HoldsS (w1.alloc (.cells #[.string s] 9)) ⟨w1.heap.size, 0, none⟩ [s] from fun w1 => ⟨by simp, fun j u hu => cell_one_new w1 (.string s) 9 j u (by simpa using hu)⟩)
  go_enter Try.func16, Try.ntmps16
  go_wp2_with (first | (go_at_call 11; refine (dict_any _ _ _ HS.out).mono ?_; rintro e w1 ⟨rfl, x1⟩) | (go_at_call 35; refine (concat_any (w1.heap.size + 1) ⟨b, off, none⟩ ⟨w1.heap.size, 0, none⟩ cap 1 ss [s] _ (by simp) (by simp [go_sem]) (by simp [go_sem]) (HH.out.ext ((x1.alloc _).alloc _)) ((HONE.out w1).ext ((Ext.refl _).alloc _)) (by show ss.length + 1 ≤ 1048576; omega)).mono ?_; rintro e w3 ⟨v3, rfl, r3, x3⟩; rw [← HL.out] at r3; have R3 := Lib.hid r3; clear r3; obtain ⟨a3, cap3, rfl⟩ := R3.out.shape; obtain ⟨g3, rfl, _, _⟩ := R3.out.at 0 (by omega)) | (go_at_call 34; refine (make_any _ g3 cap3 l _ R3.out hl0 (by omega) HZ.out).mono ?_; rintro e w9 ⟨v9, rfl, r9, x9⟩; have R9 := Lib.hid r9; clear r9))
  have XX : Ext w w3 := ((x1.alloc _).alloc _).trans x3
  go_ret2
  exact ⟨_, ret_vb HA.out.1, by rw [← HA.out.2]; exact R9.out.down XX.size, XX.trans x9⟩

set_option maxHeartbeats 4000000 in
theorem walk (w : World) (v : Value) (ss : List ByteArray) (h : Strs w v ss) (s1 : ByteArray) (hs1 : s1.size ≤ maxLen) : Calls Try.prog 5 #[v, .string s1] w fun e w' => e = .returned (.bool true) ∧ Ext w w' := by
  have H := Lib.hid h
  clear h
  have h63_1 : s1.size ≤ 9223372036854775807 := hs1
  have hzl : (wV ss s1).length ≤ 1048576 := wV_len ss s1
  have hzm := Lib.hid (wV_mem ss s1)
  obtain ⟨zs, hzs⟩ : ∃ zs, zs = wV ss s1 := ⟨_, rfl⟩
  have HZ := Lib.hid hzs
  rw [← hzs] at hzl hzm
  clear hzs
  by_cases hbig1 : 1048576 < s1.size
  · go_enter Try.func5, Try.ntmps5
    go_wp2
    go_ret
    exact ⟨rfl, Ext.refl _⟩
  go_enter Try.func5, Try.ntmps5
  go_wp2_with (first | (go_at_call 8; refine (szS_any _ _ _ H.out).mono ?_; rintro e w' ⟨r, hr, rfl, rfl⟩))
  · go_ret
    exact ⟨rfl, Ext.refl _⟩
  · have hf := hr (by assumption)
    obtain ⟨hn, hb⟩ := hf
    clear hr
    refine (toS_any _ _ _ (H.out) hn).mono ?_
    rintro e w1 ⟨u1, rfl, hu1, x1, gx1, cx1, rfl, hgx1, hox1⟩
    have H1 := Lib.hid hu1
    have O1 := Lib.hid hox1
    have hg1 : gx1 < w1.heap.size := by
      rcases hox1.2 with ⟨h3, _⟩ | ⟨g', c, cur, h3, _, hg, _⟩
      · cases h3
      · cases h3
        exact heap_lt hg
    clear hu1 hox1
    have X1 : Ext w w1 := x1
    go_wp2_with fail
    refine (spec_any _ _ _ _ H1.out hs1 _ O1.out X1.size).mono ?_
    rintro e w2 ⟨g2, rfl, r2, x2⟩
    rw [← HZ.out] at r2
    have R2 := Lib.hid r2
    clear r2
    have X2 : Ext w w2 := X1.trans x2
    go_wp2_with fail
    refine (toS_any _ _ _ (H.out.ext X2) hn).mono ?_
    rintro e w3 ⟨u3, rfl, hu3, x3, gx3, cx3, rfl, hgx3, hox3⟩
    have H3 := Lib.hid hu3
    have O3 := Lib.hid hox3
    have hg3 : gx3 < w3.heap.size := by
      rcases hox3.2 with ⟨h3, _⟩ | ⟨g', c, cur, h3, _, hg, _⟩
      · cases h3
      · cases h3
        exact heap_lt hg
    clear hu3 hox3
    have X3 : Ext w w3 := X2.trans x3
    go_wp2_with fail
    refine (impl_any _ _ _ _ H3.out hs1).mono ?_
    rintro e w4 ⟨g4, rfl, r4, x4⟩
    rw [← HZ.out] at r4
    have R4 := Lib.hid r4
    clear r4
    have X4 : Ext w w4 := X3.trans x4
    go_wp2_with fail
    refine (eqS_any _ _ _ _ ((R4.out).strs (by unfold maxLen; omega) hzm.out) ((R2.out.ext (x3.trans x4)).strs (by unfold maxLen; omega) hzm.out) hzl).mono ?_
    rintro e w5 ⟨rfl, x5⟩
    have X5 : Ext w w5 := X4.trans x5
    go_wp2_with fail
    refine (toS_any _ _ _ (H.out.ext X5) hn).mono ?_
    rintro e w6 ⟨u6, rfl, hu6, x6, gx6, cx6, rfl, hgx6, hox6⟩
    have H6 := Lib.hid hu6
    have O6 := Lib.hid hox6
    have hg6 : gx6 < w6.heap.size := by
      rcases hox6.2 with ⟨h3, _⟩ | ⟨g', c, cur, h3, _, hg, _⟩
      · cases h3
      · cases h3
        exact heap_lt hg
    clear hu6 hox6
    have X6 : Ext w w6 := X5.trans x6
    go_wp2_with fail
    refine (eqS_any _ _ _ _ (H3.out.ext ((x4.trans x5).trans x6)) (H6.out) hn).mono ?_
    rintro e w7 ⟨rfl, x7⟩
    have X7 : Ext w w7 := X6.trans x7
    go_wp2_with fail
    refine (markS_any _ _ _ gx3 _ _ _ rfl (row_ext O3.out (((x4.trans x5).trans x6).trans x7)) hn).mono ?_
    rintro e w8 ⟨rfl, hg8⟩
    have X8 : Ext w w8 := ext_grown X7 hg8 (fun j hj => by cases hj; exact Nat.le_trans X2.size hgx3)
    have S8 := Lib.hid (RowS.kept (R2.out.ext ((((x3.trans x4).trans x5).trans x6).trans x7)) hg8 (R2.out.apart gx3 (.inr (Nat.le_trans (Nat.le_refl _) hgx3))))
    have G8 := Lib.hid (RowS.kept (R4.out.ext ((x5.trans x6).trans x7)) hg8 (R4.out.apart gx3 (.inl hg3)))
    clear hg8
    go_wp2_with fail
    refine (eqS_any _ _ _ _ ((G8.out).strs (by unfold maxLen; omega) hzm.out) ((S8.out).strs (by unfold maxLen; omega) hzm.out) hzl).mono ?_
    rintro e w9 ⟨rfl, x9⟩
    have X9 : Ext w w9 := X8.trans x9
    go_wp2_with fail
    refine (markR_any _ _ _ _ (G8.out.ext x9) hzl).mono ?_
    rintro e w10 ⟨rfl, m10, hg10⟩
    have M10 := Lib.hid m10
    have X10 : Ext w w10 := ext_grown X9 hg10 (fun j hj => Nat.le_trans X3.size (R4.out.own_le j hj))
    have S10 := Lib.hid (RowS.kept (S8.out.ext x9) hg10 (R2.out.apart2 (w2 := w4) R4.out (x3).size))
    clear m10 hg10
    go_wp2_with fail
    refine (heldR_any _ _ _ _ M10.out hzl).mono ?_
    rintro e w11 ⟨rfl, x11⟩
    have X11 : Ext w w11 := X10.trans x11
    go_wp2_with fail
    refine (toS_any _ _ _ (H.out.ext X11) hn).mono ?_
    rintro e w12 ⟨u12, rfl, hu12, x12, gx12, cx12, rfl, hgx12, hox12⟩
    have H12 := Lib.hid hu12
    have O12 := Lib.hid hox12
    have hg12 : gx12 < w12.heap.size := by
      rcases hox12.2 with ⟨h3, _⟩ | ⟨g', c, cur, h3, _, hg, _⟩
      · cases h3
      · cases h3
        exact heap_lt hg
    clear hu12 hox12
    have X12 : Ext w w12 := X11.trans x12
    go_wp2_with fail
    refine (impl_any _ _ _ _ H12.out hs1).mono ?_
    rintro e w13 ⟨g13, rfl, r13, x13⟩
    rw [← HZ.out] at r13
    have R13 := Lib.hid r13
    clear r13
    have X13 : Ext w w13 := X12.trans x13
    go_wp2_with fail
    refine (eqS_any _ _ _ _ ((R13.out).strs (by unfold maxLen; omega) hzm.out) ((S10.out.ext ((x11.trans x12).trans x13)).strs (by unfold maxLen; omega) hzm.out) hzl).mono ?_
    rintro e w14 ⟨rfl, x14⟩
    have X14 : Ext w w14 := X13.trans x14
    go_wp2_with fail
    refine (heldR_any _ _ _ _ (M10.out.ext (((x11.trans x12).trans x13).trans x14)) hzl).mono ?_
    rintro e w15 ⟨rfl, x15⟩
    have X15 : Ext w w15 := X14.trans x15
    go_wp2_with fail
    go_ret
    exact ⟨rfl, X15⟩

set_option maxRecDepth 100000 in
theorem contract (H : Type) (enc : TypeId × Value → H) (W : World) (base : Nat) (args : Array Value) (ds gs : List (DataW H)) (before : List MemPlace)
    (hval : ∀ (j : Nat) t v, Try.f5.params[j]? = some t → args[j]? = some v → Value.okWide Try.prog W .any base t v)
    (hW : DataW.Whole enc Try.prog Try.f5.params.toList Rows.fnExactAddWordSpec.vars false W args.toList ds gs before) :
    Calls Try.prog 5 args W fun e W' => ∃ v, e = .returned v ∧ Rows.fnExactAddWordSpec.post enc Try.prog Try.f5 false true false false W args v W' := by
  have hW' := hW
  obtain ⟨p, q, hA0, hV, rfl, hfz, hnd⟩ := hW
  have hA : DataW.TrodAll enc Try.prog W 0 (fun _ => true) true Try.f5.params.toList args.toList ds p := hA0
  rw [Try.params5] at hA hval
  obtain ⟨v0, vs0, d0, ds0, p0, q0, hargs0, rfl, rfl, h0, r0⟩ := trodAll_cons hA
  obtain ⟨v1, vs1, d1, ds1, p1, q1, hargs1, rfl, rfl, h1, r1⟩ := trodAll_cons r0
  obtain ⟨rfl, rfl, rfl⟩ := trodAll_nil r1
  subst hargs1
  obtain rfl : args = #[v0, v1] := Array.toList_inj.1 hargs0
  obtain ⟨s0, z0⟩ := strs_of (hval 0 22 v0 rfl rfl) h0
  obtain ⟨s1, rfl, rfl, rfl, z1⟩ := open_string Try.underlying9 (hval 1 9 v1 rfl rfl) h1
  clear hA0
  refine (walk W v0 s0 z0 s1 z1).mono fun e W' ⟨he, hx⟩ => ?_
  subst he
  exact ⟨_, rfl, post_true (tb := 4) laidOut (by rw [Try.params5]; intro t ht; simp at ht; rcases ht with rfl | rfl <;> exact ⟨by kernel_rfl, of_decide_eq_true (by kernel_rfl)⟩) (by kernel_rfl) hW' hx (by obtain ⟨rfl, rfl⟩ := trodVars_none hV; rfl) rfl Try.underlying4⟩

set_option maxRecDepth 100000 in
theorem lifted (os : Os) (started : os.Started) (H : Type) (enc : TypeId × Value → H) :
    ReturnsInHanded {} Try.checked os 5 .any (Rows.fnExactAddWordSpec.pre6 enc Try.prog Try.f5 Rows.fnExactAddWordRow.domain false) (Rows.fnExactAddWordSpec.post enc Try.prog Try.f5 false true false false) := by
  refine returnsInHanded_of_change (C := Try.checked) own started (by kernel_rfl) Try.func5
    (ChangeSpec.witness6 (enc := enc) (C := Try.checked) false ⟨#[], #[.slice none 0 0, .string ByteArray.empty], []⟩ 8 (by kernel_rfl) (by kernel_rfl) (by kernel_rfl) (by kernel_rfl)) ?_
  intro W base args ds gs before hval hW _ _
  exact contract H enc W base args ds gs before hval hW

theorem said : Rows.FnExactAddWordSaid :=
  OpenClaim.holds_of_wide 5 Try.f5 rfl rfl rfl rfl rfl rfl rfl ⟨rfl, rfl, rfl, rfl, rfl⟩ rfl rfl rfl rfl rfl (by kernel_rfl) Try.func5 (by kernel_rfl)
    (of_decide_eq_true (by kernel_rfl)) (by unfold Func.isWrapper; first | (rw [if_pos (by decide +kernel)]; kernel_rfl) | (rw [if_neg (by decide +kernel)]; exact ⟨rfl, rfl⟩))
    (fun os started H enc _ => lifted os started H enc)
end Go.Proofs.Ytamjhhdggdfjiaa.addWord
