/- AddCode: a code more, made a plan of, or put where it belongs. No conditions. -/
import Derived.Test.YtinojlbnmnlmhabMpl
import Derived.Test.YtinojlbnmnlmhabParts
namespace Go.Proofs.Ytinojlbnmnlmhab
open Go.RowKit

theorem putAll_of {ss : List ByteArray} (h : Inc ss) : putAll ss = ss := inc_ext _ _ (putAll_inc ss) h (putAll_mem ss)
theorem putL_in {ss : List ByteArray} {s : ByteArray} (h : Inc ss) (hs : s ∈ ss) : putL ss s = ss :=
  inc_ext _ _ (putL_inc s h) h fun x => by rw [putL_mem]; exact ⟨fun h => h.elim id fun e => e ▸ hs, .inl⟩
theorem putL_out {ss : List ByteArray} {s : ByteArray} (hs : ¬ s ∈ ss) : (putL ss s).length = ss.length + 1 := by
  rw [putL_new (ts := ss) (s := s) fun h he => hs (by rw [← he]; exact List.getElem_mem h)]
  have := pf_le ss s ss.length
  simp only [List.length_append, List.length_cons, List.length_take, List.length_drop]
  omega
theorem putAll_add {ss : List ByteArray} (s : ByteArray) (h : Inc ss) : putAll (ss ++ [s]) = putL ss s := by rw [putAll_snoc, putAll_of h]
theorem add_bad {ss : List ByteArray} {s : ByteArray} (hs : isDg 1 6 s = false) : mpB (ss ++ [s]) = false := by
  refine mpB_c ?_
  cases hc : cdB (ss ++ [s])
  · rfl
  · have := (cdB_parts hc).2.2 s (by simp)
    rw [hs] at this; cases this
theorem add_in {ss : List ByteArray} {s : ByteArray} (h : Inc ss) (hs : s ∈ ss) : mpB (ss ++ [s]) = false := by
  cases hc : cdB (ss ++ [s])
  · exact mpB_c hc
  · refine mpB_len hc ?_
    rw [putAll_add s h, putL_in h hs, List.length_append]
    simp
theorem add_out {ss : List ByteArray} {s : ByteArray} (h : Inc ss) (hd : ∀ t ∈ ss, isDg 1 6 t = true) (hg : isDg 1 6 s = true) (hs : ¬ s ∈ ss) : mpB (ss ++ [s]) = plB (putL ss s) := by
  have hl := putL_out hs
  cases hc : cdB (ss ++ [s])
  · rw [mpB_c hc]
    refine (plB_no ?_).symm
    cases hc2 : cdB (putL ss s)
    · rfl
    · obtain ⟨a1, a2, a3⟩ := cdB_parts hc2
      rw [← hc]
      refine (cdB_of (by simp) (by rw [List.length_append]; simp; omega) fun t ht => ?_).symm
      rcases List.mem_append.1 ht with h1 | h1
      · exact hd t h1
      · rw [List.mem_singleton] at h1; exact h1 ▸ hg
  · rw [mpB_put hc (by rw [putAll_add s h, hl, List.length_append]; rfl), putAll_add s h]

def okD (ss : List ByteArray) (s : ByteArray) : Bool := plB ss && mpB (ss ++ [s])
def vD (ss : List ByteArray) (s : ByteArray) : List ByteArray := if okD ss s then putL ss s else []
theorem okD_p {ss : List ByteArray} {s : ByteArray} (h : plB ss = false) : okD ss s = false := by unfold okD; rw [h]; rfl
theorem okD_m {ss : List ByteArray} {s : ByteArray} (h : plB ss = true) : okD ss s = mpB (ss ++ [s]) := by unfold okD; rw [h]; rfl
theorem vD_no {ss : List ByteArray} {s : ByteArray} (h : okD ss s = false) : vD ss s = [] := by unfold vD; rw [h]; rfl
theorem vD_yes {ss : List ByteArray} {s : ByteArray} (h : okD ss s = true) : vD ss s = putL ss s := by unfold vD; rw [h]; rfl
theorem vD_mp {ss : List ByteArray} {s : ByteArray} (h : plB ss = true) : vD ss s = mpV (ss ++ [s]) := by
  cases h2 : okD ss s
  · rw [vD_no h2]; rw [okD_m h] at h2; exact (mpV_no h2).symm
  · rw [vD_yes h2]; rw [okD_m h] at h2; rw [mpV_yes h2, putAll_add s (plB_iff.1 h).inc]
theorem vD_len (ss : List ByteArray) (s : ByteArray) : (vD ss s).length ≤ 1048576 := by
  cases h : plB ss
  · rw [vD_no (okD_p h)]; exact Nat.zero_le _
  · rw [vD_mp h]; exact mpV_len _
theorem vD_sz (ss : List ByteArray) (s : ByteArray) : ∀ t ∈ vD ss s, t.size ≤ maxLen := by
  cases h : plB ss
  · rw [vD_no (okD_p h)]; intro t ht; cases ht
  · rw [vD_mp h]; exact mpV_sz _

end Go.Proofs.Ytinojlbnmnlmhab
