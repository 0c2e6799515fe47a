/- The program's dictionary of texts in any order, each once: the texts put in one after the other, where they are words and not too many. No conditions. -/
import Derived.Test.YtioinihlahnbfaaOnce
namespace Go.Proofs.Ytioinihlahnbfaa
open Go.RowKit Go.Sort

def ResS (ts : List ByteArray) (ok : Bool) (w : World) (e : Ending) (w' : World) : Prop := ∃ v, e = .returned (.tuple #[v, .bool ok]) ∧ RowS w.heap.size w' v ts ∧ Ext w w'
theorem ret_vb {v : Value} {b b' : Bool} (h : b = b') : Ending.returned (.tuple #[v, .bool b]) = .returned (.tuple #[v, .bool b']) := by rw [h]
theorem inc_dic {l : List ByteArray} (h : Inc l) (h1 : 1 ≤ l.length) (h2 : l.length ≤ 12) (hw : ∀ s ∈ l, wdW s = true) : dicB l = true := by
  refine dicB_yes h1 h2 fun j hj => ?_
  by_cases h0 : j = 0
  · subst h0
    rw [okAt_zero l hj]
    exact hw _ (List.getElem_mem hj)
  · rw [okAt_eq l j hj (by omega), hw _ (List.getElem_mem hj), inc_at h (j - 1) j (by omega) hj]
    rfl
theorem dic_inc {l : List ByteArray} (h : dicB l = true) : Inc l := List.pairwise_iff_getElem.2 fun i j _ hj hij => dicB_lt h i j hij hj
theorem dic_nodup {l : List ByteArray} (h : dicB l = true) : l.Nodup := List.pairwise_iff_getElem.2 fun i j hi hj hij he => absurd (dicB_inj h i j hi hj he) (by omega)
def mOk (l : List ByteArray) : Bool := decide (1 ≤ l.length) && decide (l.length ≤ 12) && l.all wdW
def mV (l : List ByteArray) : List ByteArray := if mOk l then putAll l else []
theorem mV_no {l : List ByteArray} (h : mOk l = false) : mV l = [] := by unfold mV; simp [h]
theorem mV_yes {l : List ByteArray} (h : mOk l = true) : mV l = putAll l := by unfold mV; simp [h]
theorem mOk_of {l : List ByteArray} (h : mOk l = true) : 1 ≤ l.length ∧ l.length ≤ 12 ∧ ∀ s ∈ l, wdW s = true := by
  unfold mOk at h
  simp only [Bool.and_eq_true, decide_eq_true_eq, List.all_eq_true] at h
  exact ⟨h.1.1, h.1.2, h.2⟩
theorem mOk_yes {l : List ByteArray} (h1 : 1 ≤ l.length) (h2 : l.length ≤ 12) (h3 : ∀ s ∈ l, wdW s = true) : mOk l = true := by
  unfold mOk
  rw [decide_eq_true h1, decide_eq_true h2, List.all_eq_true.2 h3]; rfl
theorem mOk_no {l : List ByteArray} (h : ¬ (1 ≤ l.length ∧ l.length ≤ 12 ∧ ∀ s ∈ l, wdW s = true)) : mOk l = false := by
  cases hm : mOk l
  · rfl
  · exact absurd (mOk_of hm) h
theorem all_len (l : List ByteArray) : (putAll l).length ≤ l.length := by
  have := putAll_len l []
  simpa [putAll] using this
theorem mOk_dic {l : List ByteArray} (h : l.length ≤ 12) : dicB (putAll l) = mOk l := by
  have hl := all_len l
  cases hm : mOk l
  · cases hd : dicB (putAll l)
    · rfl
    · exfalso
      have h1 := (dicB_len hd).1
      have := mOk_yes (l := l) (by omega) h fun s hs => dicB_mem hd s ((putAll_mem l s).2 hs)
      rw [hm] at this
      cases this
  · obtain ⟨h1, _, h3⟩ := mOk_of hm
    have hp : (l[0]'(by omega)) ∈ putAll l := (putAll_mem l _).2 (List.getElem_mem _)
    exact inc_dic (putAll_inc l) (List.length_pos_of_mem hp) (by omega) fun s hs => h3 s ((putAll_mem l s).1 hs)
theorem putAll_dic {l : List ByteArray} (h : dicB l = true) : putAll l = l := inc_ext _ _ (putAll_inc l) (dic_inc h) (putAll_mem l)
theorem mV_len (l : List ByteArray) : (mV l).length ≤ 1048576 := by
  cases h : mOk l
  · rw [mV_no h]; simp
  · rw [mV_yes h]
    have := all_len l
    have := mOk_of h
    omega
theorem mV_sz (l : List ByteArray) : ∀ t ∈ mV l, t.size ≤ maxLen := by
  intro t ht
  cases h : mOk l
  · rw [mV_no h] at ht; cases ht
  · rw [mV_yes h] at ht
    have := wdW_size ((mOk_of h).2.2 t ((putAll_mem l t).1 ht))
    unfold maxLen
    omega

set_option maxHeartbeats 4000000 in
theorem make_any (v : Value) (l : List ByteArray) (w : World) (h : Strs w v l) : Calls Try.prog 9 #[v] w (ResS (mV l) (mOk l) w) := by
  have HS := Lib.hid h
  have hlm := h.1
  unfold maxLen at hlm
  obtain ⟨a, cap, hv, hnil⟩ := h.at
  rw [hv] at HS ⊢
  clear hv h v
  have HN := Lib.hid hnil
  clear hnil
  by_cases h12 : 12 < l.length
  · have H := Lib.hid (show mOk l = false from mOk_no (by omega))
    go_enter Try.func9, Try.ntmps9
    go_wp2
    go_ret2
    exact ⟨_, ret_vb H.out.symm, by rw [mV_no H.out]; exact RowS.nil _ _, Ext.refl _⟩
  by_cases h0 : l.length = 0
  · have H := Lib.hid (show mOk l = false from mOk_no (by omega))
    have HE := Lib.hid (show dicB [] = false from dicB_short (by simp))
    rw [h0]
    clear h12 h0 HS HN
    rcases a with _ | a
    · go_enter Try.func9, Try.ntmps9
      go_wp2_with (first | (go_at_call 25; refine (Go.Proofs.Try.slices_Clone_string_nil 0 cap _).mono ?_; rintro e w2 ⟨rfl, rfl⟩) | (go_at_call 24; refine (once_zero _ _ _).mono ?_; rintro e w3 ⟨rfl, rfl⟩) | (go_at_call 26; refine (dict_any _ [] _ ((RowS.nil 0 _).strs (by simp) (fun t ht => by cases ht))).mono ?_; rintro e w5 ⟨rfl, x5⟩; rw [HE.out]))
      go_ret2
      exact ⟨_, ret_vb H.out.symm, by rw [mV_no H.out]; exact RowS.nil _ _, x5⟩
    · go_enter Try.func9, Try.ntmps9
      go_wp2_with (first | (go_at_call 25; refine (Go.Proofs.Try.slices_Clone_string_zero a cap _).mono ?_; rintro e w2 ⟨v2, rfl, r2, _, x2⟩; have R2 := Lib.hid (show RowS w.heap.size w2 v2 [] from r2); clear r2; obtain ⟨a2, cap2, rfl⟩ := R2.out.shape) | (go_at_call 24; refine (once_zero _ _ _).mono ?_; rintro e w3 ⟨rfl, rfl⟩) | (go_at_call 26; refine (dict_any _ [] _ (R2.out.strs (by simp) (fun t ht => by cases ht))).mono ?_; rintro e w5 ⟨rfl, x5⟩; rw [HE.out]))
      go_ret2
      exact ⟨_, ret_vb H.out.symm, by rw [mV_no H.out]; exact RowS.nil _ _, Ext.trans x2 x5⟩
  obtain ⟨b, off, hb, hcells, rfl⟩ : ∃ b off, b < w.heap.size ∧ (∀ j (h : j < l.length), w.cell? ⟨b, off + j, none⟩ = some (.string l[j])) ∧ a = some ⟨b, off, none⟩ := by
    rcases HS.out.2.2 with ⟨h3, _⟩ | ⟨b, off, cap', h4, hb, hc⟩
    · rw [h3] at h0; exact absurd rfl h0
    · exact ⟨b, off, hb, hc, by injection h4⟩
  have HCL := Lib.hid (show ∀ j, j < l.length → w.cell? ⟨b, off + j, none⟩ = some (.string (l.getD j ByteArray.empty)) from fun j hj => by
    rw [hcells j hj, List.getD_eq_getElem?_getD, List.getElem?_eq_getElem hj]
    rfl)
  clear hcells
  have HM := Lib.hid HS.out.2.1
  have HD := Lib.hid (mOk_dic (l := l) (by omega))
  obtain ⟨n, hn⟩ : ∃ n, n = l.length := ⟨_, rfl⟩
  have HNN := Lib.hid hn
  have HAL := Lib.hid (all_len l)
  rw [← hn] at h12 h0 hlm HAL ⊢
  clear hn
  cases hs : mOk l
  all_goals
    have HK := Lib.hid hs
    rw [hs] at HD
    clear hs
    go_enter Try.func9, Try.ntmps9
    go_wp2_with (first | (go_at_call 25; refine (Go.Proofs.Try.slices_Clone_string b off n cap l _ (Nat.le_of_eq HNN.out) (by omega) HCL.out).mono ?_; rintro e w2 ⟨v2, rfl, r2, _, x2⟩; have r2' : RowS w.heap.size w2 v2 l := (by unfold RowS; rw [← HNN.out]; rw [HNN.out, List.take_length, ← HNN.out] at r2; exact r2); have R2 := Lib.hid r2'; clear r2 r2'; obtain ⟨a2, cap2, rfl⟩ := R2.out.shape; obtain ⟨g2, rfl, hB2, _⟩ := R2.out.at 0 (by rw [← HNN.out]; omega)) | (go_at_call 24; rw [← HNN.out]; refine (once_any w.heap.size g2 n cap2 l _ HNN.out.symm (by omega) (by have := R2.out; unfold RowS at this; rw [← HNN.out] at this; exact this)).mono ?_; rintro e w4 ⟨v4, rfl, r4, x4⟩; have R4 := Lib.hid r4; have X4 : Ext w w4 := x4 w x2 hB2; clear r4 x4; obtain ⟨a4, cap4, rfl⟩ := R4.out.shape) | (go_at_call 26; refine (dict_any _ (putAll l) _ (R4.out.strs (by unfold maxLen; have := HAL.out; omega) (fun t ht => HM.out t ((putAll_mem l t).1 ht)))).mono ?_; rintro e w5 ⟨rfl, x5⟩; rw [HD.out]))
    go_ret2
    first
      | exact ⟨_, rfl, by rw [mV_no HK.out]; exact RowS.nil _ _, X4.trans x5⟩
      | exact ⟨_, rfl, by rw [mV_yes HK.out]; exact R4.out.ext x5, X4.trans x5⟩

end Go.Proofs.Ytioinihlahnbfaa
