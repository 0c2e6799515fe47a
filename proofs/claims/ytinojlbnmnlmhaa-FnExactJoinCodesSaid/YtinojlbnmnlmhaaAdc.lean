/- AddCode: a code more, made a plan of, or put where it belongs. No conditions. -/
import Derived.Test.YtinojlbnmnlmhaaMpl
import Derived.Test.YtinojlbnmnlmhaaParts
namespace Go.Proofs.Ytinojlbnmnlmhaa
open Go.RowKit

theorem putAll_of {ss : List ByteArray} (h : Inc ss) : putAll ss = ss := inc_ext _ _ (putAll_inc ss) h (putAll_mem ss)
theorem putL_in {ss : List ByteArray} {s : ByteArray} (h : Inc ss) (hs : s ∈ ss) : putL ss s = ss :=
  inc_ext _ _ (putL_inc s h) h fun x => by rw [putL_mem]; exact ⟨fun h => h.elim id fun e => e ▸ hs, .inl⟩
theorem putL_out {ss : List ByteArray} {s : ByteArray} (hs : ¬ s ∈ ss) : (putL ss s).length = ss.length + 1 := by
  rw [putL_new (ts := ss) (s := s) fun h he => hs (by rw [← he]; exact List.getElem_mem h)]
  have := pf_le ss s ss.length
  simp only [List.length_append, List.length_cons, List.length_take, List.length_drop]
  omega
theorem putAll_add {ss : List ByteArray} (s : ByteArray) (h : Inc ss) : putAll (ss ++ [s]) = putL ss s := by rw [putAll_snoc, putAll_of h]
theorem add_bad {ss : List ByteArray} {s : ByteArray} (hs : isDg 1 6 s = false) : mpB (ss ++ [s]) = false := by
  refine mpB_c ?_
  cases hc : cdB (ss ++ [s])
  · rfl
  · have := (cdB_parts hc).2.2 s (by simp)
    rw [hs] at this; cases this
theorem add_in {ss : List ByteArray} {s : ByteArray} (h : Inc ss) (hs : s ∈ ss) : mpB (ss ++ [s]) = false := by
  cases hc : cdB (ss ++ [s])
  · exact mpB_c hc
  · refine mpB_len hc ?_
    rw [putAll_add s h, putL_in h hs, List.length_append]
    simp
theorem add_out {ss : List ByteArray} {s : ByteArray} (h : Inc ss) (hd : ∀ t ∈ ss, isDg 1 6 t = true) (hg : isDg 1 6 s = true) (hs : ¬ s ∈ ss) : mpB (ss ++ [s]) = plB (putL ss s) := by
  have hl := putL_out hs
  cases hc : cdB (ss ++ [s])
  · rw [mpB_c hc]
    refine (plB_no ?_).symm
    cases hc2 : cdB (putL ss s)
    · rfl
    · obtain ⟨a1, a2, a3⟩ := cdB_parts hc2
      rw [← hc]
      refine (cdB_of (by simp) (by rw [List.length_append]; simp; omega) fun t ht => ?_).symm
      rcases List.mem_append.1 ht with h1 | h1
      · exact hd t h1
      · rw [List.mem_singleton] at h1; exact h1 ▸ hg
  · rw [mpB_put hc (by rw [putAll_add s h, hl, List.length_append]; rfl), putAll_add s h]

def okD (ss : List ByteArray) (s : ByteArray) : Bool := plB ss && mpB (ss ++ [s])
def vD (ss : List ByteArray) (s : ByteArray) : List ByteArray := if okD ss s then putL ss s else []
theorem okD_p {ss : List ByteArray} {s : ByteArray} (h : plB ss = false) : okD ss s = false := by unfold okD; rw [h]; rfl
theorem okD_m {ss : List ByteArray} {s : ByteArray} (h : plB ss = true) : okD ss s = mpB (ss ++ [s]) := by unfold okD; rw [h]; rfl
theorem vD_no {ss : List ByteArray} {s : ByteArray} (h : okD ss s = false) : vD ss s = [] := by unfold vD; rw [h]; rfl
theorem vD_yes {ss : List ByteArray} {s : ByteArray} (h : okD ss s = true) : vD ss s = putL ss s := by unfold vD; rw [h]; rfl
theorem vD_mp {ss : List ByteArray} {s : ByteArray} (h : plB ss = true) : vD ss s = mpV (ss ++ [s]) := by
  cases h2 : okD ss s
  · rw [vD_no h2]; rw [okD_m h] at h2; exact (mpV_no h2).symm
  · rw [vD_yes h2]; rw [okD_m h] at h2; rw [mpV_yes h2, putAll_add s (plB_iff.1 h).inc]
theorem vD_len (ss : List ByteArray) (s : ByteArray) : (vD ss s).length ≤ 1048576 := by
  cases h : plB ss
  · rw [vD_no (okD_p h)]; exact Nat.zero_le _
  · rw [vD_mp h]; exact mpV_len _
theorem vD_sz (ss : List ByteArray) (s : ByteArray) : ∀ t ∈ vD ss s, t.size ≤ maxLen := by
  cases h : plB ss
  · rw [vD_no (okD_p h)]; intro t ht; cases ht
  · rw [vD_mp h]; exact mpV_sz _

set_option maxRecDepth 100000 in
set_option maxHeartbeats 1000000 in
theorem adcI_any (v : Value) (ss : List ByteArray) (s : ByteArray) (w : World) (h : Strs w v ss) (hs : s.size ≤ maxLen) (hcap : CapOk v) : Calls Try.prog 46 #[v, .string s] w (ResS (vD ss s) (okD ss s) w) := by
  have HS := Lib.hid h
  have HCP := Lib.hid hcap
  obtain ⟨a, cap, hv, _⟩ := h.at
  rw [hv] at HS HCP ⊢
  clear hv h hcap v
  cases hd : plB ss
  · have H := Lib.hid (okD_p (s := s) hd)
    go_enter Try.func46, Try.ntmps46
    go_wp2_with (go_at_call 18; refine (isPl_any _ _ _ HS.out HCP.out).mono ?_; rintro e w1 ⟨rfl, x1⟩; rw [hd])
    go_ret2
    exact ⟨_, ret_vb H.out.symm, by rw [vD_no H.out]; exact RowS.nil _ _, x1⟩
  have HP := Lib.hid (plB_iff.1 hd)
  have hl1 := HP.out.l1
  have hl2 := HP.out.l2
  have HOK := Lib.hid (okD_m (s := s) hd)
  have HV := Lib.hid (vD_mp (s := s) hd)
  obtain ⟨b, off, hb, hcells, rfl⟩ : ∃ b off, b < w.heap.size ∧ (∀ j (h : j < ss.length), w.cell? ⟨b, off + j, none⟩ = some (.string ss[j])) ∧ a = some ⟨b, off, none⟩ := by
    rcases HS.out.2.2 with ⟨h3, _⟩ | ⟨b, off, cap', h4, hb, hc⟩
    · rw [h3] at hl1; exact absurd hl1 (by simp)
    · exact ⟨b, off, hb, hc, by injection h4⟩
  have HH := Lib.hid (show HoldsS w ⟨b, off, none⟩ ss from by have := holds_drop hb hcells 0; rw [Nat.add_zero, List.drop_zero] at this; exact this)
  have HM := Lib.hid HS.out.2.1
  clear hcells
  obtain ⟨l, hl⟩ : ∃ l, l = ss ++ [s] := ⟨_, rfl⟩
  have HL := Lib.hid hl
  have hll : l.length = ss.length + 1 := by rw [hl, List.length_append]; rfl
  have HZ := Lib.hid (show ∀ t ∈ l, t.size ≤ maxLen from fun t ht => by
    rw [hl] at ht
    rcases List.mem_append.1 ht with h1 | h1
    · exact HM.out t h1
    · rw [List.mem_singleton] at h1; exact h1 ▸ hs)
  rw [← hl] at HOK HV
  have hl13 : l.length ≤ 21 := by omega
  clear hl hll
  have HONE := Lib.hid (show ∀ w1 : World, HoldsS (w1.alloc (.cells #[.string s] 9)) ⟨w1.heap.size, 0, none⟩ [s] from fun w1 => ⟨by simp, fun j u hu => cell_one_new w1 (.string s) 9 j u (by simpa using hu)⟩)
  go_enter Try.func46, Try.ntmps46
  go_wp2_with (first | (go_at_call 18; refine (isPl_any _ _ _ HS.out HCP.out).mono ?_; rintro e w2 ⟨rfl, x2⟩; rw [hd]; have X2 : Ext w w2 := x2) | (go_at_call 82; refine (concat_any (w2.heap.size + 1) ⟨b, off, none⟩ ⟨w2.heap.size, 0, none⟩ cap 1 ss [s] _ (by simp) (by simp [go_sem]) (by simp [go_sem]) (HH.out.ext ((X2.alloc _).alloc _)) ((HONE.out w2).ext ((Ext.refl _).alloc _)) (by show ss.length + 1 ≤ 1048576; omega)).mono ?_; rintro e w3 ⟨v3, rfl, r3, x3⟩; rw [← HL.out] at r3; have R3 := Lib.hid r3; clear r3; obtain ⟨a3, cap3, rfl⟩ := R3.out.shape) | (go_at_call 21; refine (mkpl_any _ l _ (R3.out.strs (by unfold maxLen; omega) HZ.out)).mono ?_; rintro e w9 ⟨v9, rfl, r9, x9⟩; have R9 := Lib.hid r9; clear r9))
  have XX : Ext w w3 := ((X2.alloc _).alloc _).trans x3
  go_ret2
  exact ⟨_, ret_vb HOK.out.symm, by rw [HV.out]; exact R9.out.down XX.size, XX.trans x9⟩

set_option maxRecDepth 4000 in
set_option maxHeartbeats 1000000 in
theorem plAdd_any (B : Nat) (v : Value) (ss : List ByteArray) (s : ByteArray) (w : World) (h : RowS B w v ss) (hB : B ≤ w.heap.size) (hp : PlB ss) (hg : isDg 1 6 s = true) (hz : ∀ t ∈ ss, t.size ≤ maxLen) (hs : s.size ≤ maxLen) : Calls Try.prog 81 #[v, .string s] w (ResS (mpV (ss ++ [s])) (mpB (ss ++ [s])) w) := by
  have HR := Lib.hid h
  have hl1 := hp.l1
  have hl2 := hp.l2
  obtain ⟨a, cap, hv⟩ := h.shape
  rw [hv] at HR ⊢
  clear hv h v
  have HMV := Lib.hid (fun h => mpV_yes (ss := ss ++ [s]) h)
  have HPA := Lib.hid (putAll_add s hp.inc)
  by_cases hin : s ∈ ss
  · have HO := Lib.hid (add_in hp.inc hin)
    have HI := Lib.hid (putL_in hp.inc hin)
    clear hin hp
    go_enter Try.func81, Try.ntmps81
    go_wp2_with (go_at_call 55; refine (wdPut_any B _ ss s _ HR.out hB (by omega) hz (by omega)).mono ?_; rintro e w2 ⟨v2, rfl, r2, x2, _⟩; rw [HI.out] at r2; obtain ⟨a2, cap2, rfl⟩ := r2.shape)
    go_ret2
    exact ⟨_, ret_vb HO.out.symm, by rw [mpV_no HO.out]; exact RowS.nil _ _, x2⟩
  · have HO := Lib.hid (add_out hp.inc hp.cd hg hin)
    have HNI := Lib.hid hin
    have hln := putL_out hin
    have HLZ := Lib.hid (show ∀ t ∈ putL ss s, t.size ≤ maxLen from fun t ht => by
      rcases (putL_mem ss s t).1 ht with h1 | h1
      · exact hz t h1
      · exact h1 ▸ hs)
    clear hin hp
    obtain ⟨l, hl⟩ : ∃ l, l = putL ss s := ⟨_, rfl⟩
    have HL := Lib.hid hl
    rw [← hl] at HO HLZ hln
    clear hl
    have HLN := Lib.hid hln
    have hne : ¬ ((l.length : Int) = (ss.length : Int)) := by omega
    clear hln
    cases hq : plB l
    all_goals
      have HQ := Lib.hid hq
      have HB := Lib.hid (HO.out.trans hq)
      clear hq
      go_enter Try.func81, Try.ntmps81
      go_wp2_with (first | (go_at_call 55; refine (wdPut_any B _ ss s _ HR.out hB (by omega) hz (by omega)).mono ?_; rintro e w2 ⟨v2, rfl, _, x2, rr⟩; have R2 := Lib.hid (rr HNI.out); rw [← HL.out] at R2; clear rr; obtain ⟨a2, cap2, rfl⟩ := R2.out.shape) | (go_at_call 51; refine (plGood_any _ l _ (R2.out.strs (by have := HLN.out; unfold maxLen; omega) HLZ.out)).mono ?_; rintro e w5 ⟨rfl, x5⟩; rw [HQ.out]))
      go_ret2
      first
        | exact ⟨_, ret_vb HB.out.symm, by rw [mpV_no HB.out]; exact RowS.nil _ _, x2.trans x5⟩
        | exact ⟨_, ret_vb HB.out.symm, by rw [HMV.out HB.out, HPA.out, ← HL.out]; exact R2.out.ext x5, x2.trans x5⟩

set_option maxHeartbeats 1000000 in
theorem adcS_any (v : Value) (ss : List ByteArray) (s : ByteArray) (w : World) (h : Strs w v ss) (hs : s.size ≤ maxLen) (B : Nat) (hr : RowS B w v ss) (hB : B ≤ w.heap.size) : Calls Try.prog 45 #[v, .string s] w (ResS (vD ss s) (okD ss s) w) := by
  have HS := Lib.hid h
  have HR := Lib.hid hr
  obtain ⟨a, cap, hv, _⟩ := h.at
  rw [hv] at HS HR ⊢
  clear hv h hr v
  cases hd : plB ss
  · have H := Lib.hid (okD_p (s := s) hd)
    go_enter Try.func45, Try.ntmps45
    go_wp2_with (go_at_call 51; refine (plGood_any _ _ _ HS.out).mono ?_; rintro e w1 ⟨rfl, x1⟩; rw [hd])
    go_ret2
    exact ⟨_, ret_vb H.out.symm, by rw [vD_no H.out]; exact RowS.nil _ _, x1⟩
  have HP := Lib.hid (plB_iff.1 hd)
  have HOK := Lib.hid (okD_m (s := s) hd)
  have HV := Lib.hid (vD_mp (s := s) hd)
  cases hg : isDg 1 6 s
  · have H := Lib.hid (show okD ss s = false by rw [HOK.out]; exact add_bad hg)
    go_enter Try.func45, Try.ntmps45
    go_wp2_with (first | (go_at_call 51; refine (plGood_any _ _ _ HS.out).mono ?_; rintro e w1 ⟨rfl, x1⟩; rw [hd]) | (go_at_call 63; refine (plCode_any _ _ hs).mono ?_; rintro e w' ⟨rfl, rfl⟩; rw [hg]))
    go_ret2
    exact ⟨_, ret_vb H.out.symm, by rw [vD_no H.out]; exact RowS.nil _ _, x1⟩
  · go_enter Try.func45, Try.ntmps45
    go_wp2_with (first | (go_at_call 51; refine (plGood_any _ _ _ HS.out).mono ?_; rintro e w1 ⟨rfl, x1⟩; rw [hd]) | (go_at_call 63; refine (plCode_any _ _ hs).mono ?_; rintro e w' ⟨rfl, rfl⟩; rw [hg]) | (go_at_call 81; refine (plAdd_any B _ ss s _ (HR.out.ext x1) (Nat.le_trans hB x1.size) HP.out hg HS.out.2.1 hs).mono ?_; rintro e w9 ⟨v9, rfl, r9, x9⟩; have R9 := Lib.hid r9; clear r9))
    go_ret2
    exact ⟨_, ret_vb HOK.out.symm, by rw [HV.out]; exact R9.out.down x1.size, x1.trans x9⟩

end Go.Proofs.Ytinojlbnmnlmhaa
