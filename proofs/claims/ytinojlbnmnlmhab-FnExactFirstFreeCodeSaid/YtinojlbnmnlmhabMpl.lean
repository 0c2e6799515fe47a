/- MakePlan: the codes copied, sorted and tested, or put where they belong one by one. No conditions. -/
import Derived.Test.YtinojlbnmnlmhabPlI
import Derived.Test.YtinojlbnmnlmhabSorted
import Derived.Test.YtinojlbnmnlmhabPutIn
namespace Go.Proofs.Ytinojlbnmnlmhab
open Go.RowKit Go.Sort

def ResS (ts : List ByteArray) (ok : Bool) (w : World) (e : Ending) (w' : World) : Prop := ∃ v, e = .returned (.tuple #[v, .bool ok]) ∧ RowS w.heap.size w' v ts ∧ Ext w w'
theorem ret_vb {v : Value} {b b' : Bool} (h : b = b') : Ending.returned (.tuple #[v, .bool b]) = .returned (.tuple #[v, .bool b']) := by rw [h]
theorem putAll_le (l : List ByteArray) : (putAll l).length ≤ l.length := by
  have := putAll_len l []
  simpa [putAll] using this

theorem sortS_any (B g n cap : Nat) (l : List ByteArray) (w : World) (hl : l.length = n) (hn : n ≤ 1048576) (h : RowS B w (.slice (some ⟨g, 0, none⟩) n cap) l) :
    Calls Try.prog 84 #[.slice (some ⟨g, 0, none⟩) n cap] w fun e w' => e = .returned (.tuple #[]) ∧ RowS B w' (.slice (some ⟨g, 0, none⟩) n cap) (srt l) ∧ w.grownBy w' (some g) := by
  refine (sort_own B g n cap l w hl hn (by unfold RowS at h; rw [hl] at h; exact h)).mono ?_
  rintro e w' ⟨rfl, r, hg⟩
  refine ⟨rfl, ?_, hg⟩
  unfold RowS
  rw [srt_len, hl]
  rw [enc_back] at r
  exact r

set_option maxHeartbeats 1000000 in
set_option maxRecDepth 4000 in
theorem mkpl_any (v : Value) (l : List ByteArray) (w : World) (h : Strs w v l) : Calls Try.prog 43 #[v] w (ResS (mpV l) (mpB l) w) := by
  have HS := Lib.hid h
  have hlm := h.1
  unfold maxLen at hlm
  obtain ⟨a, cap, hv, hnil⟩ := h.at
  rw [hv] at HS ⊢
  clear hv hnil h v
  cases hc : cdB l
  · have HV := Lib.hid (mpB_c hc)
    go_enter Try.func43, Try.ntmps43
    go_wp2_with (go_at_call 82; refine (areCodes_any _ _ _ HS.out).mono ?_; rintro e w' ⟨rfl, x1⟩; rw [hc])
    go_ret2
    exact ⟨_, ret_vb HV.out.symm, by rw [mpV_no HV.out]; exact RowS.nil _ _, x1⟩
  have HCP := Lib.hid (cdB_parts hc)
  have h1 : 1 ≤ l.length := HCP.out.1
  have h20 : l.length ≤ 20 := HCP.out.2.1
  have HMS := Lib.hid (mpB_s hc)
  have HZ := Lib.hid (show ∀ s ∈ srt l, s.size ≤ maxLen from fun s hs => HS.out.2.1 s ((srt_mem l s).1 hs))
  have HSL := Lib.hid (srt_len l)
  have HPT := Lib.hid (fun h => mpB_srt (ss := l) h)
  have hcells : ∀ b off, a = some ⟨b, off, none⟩ → ∀ w', Ext w w' → ∀ j, j < l.length → w'.cell? ⟨b, off + j, none⟩ = some (.string (l.getD j ByteArray.empty)) := fun b off ha w' hx j hj => by
    obtain ⟨b', off', ha', e⟩ := (HS.out.ext hx).get2 j hj
    rw [ha] at ha'
    injection ha' with e1
    injection e1 with e1 e2
    subst e1; subst e2
    rw [e, List.getD_eq_getElem?_getD, List.getElem?_eq_getElem hj]
    rfl
  obtain ⟨b, off, rfl, _⟩ := HS.out.get2 0 h1
  have HCL := Lib.hid (hcells b off rfl)
  clear hcells
  obtain ⟨n, hn⟩ : ∃ n, n = l.length := ⟨_, rfl⟩
  have HNN := Lib.hid hn
  rw [← hn] at h1 h20 hlm HS ⊢
  clear hn
  cases hs : plB (srt l)
  all_goals
    have HK := Lib.hid (HMS.out.trans hs)
    have HQ := Lib.hid hs
    clear hs
    have HC := Lib.hid hc
    go_enter Try.func43, Try.ntmps43
    go_wp2_with (first | (go_at_call 82; refine (areCodes_any _ _ _ HS.out).mono ?_; rintro e w1 ⟨rfl, x1⟩; rw [HC.out]) | (go_at_call 83; refine (Go.Proofs.Try.slices_Clone_string b off n cap l _ (Nat.le_of_eq HNN.out) (by omega) (fun j hj => HCL.out _ x1 j hj)).mono ?_; rintro e w2 ⟨v2, rfl, r2, _, x2⟩; have R2 := Lib.hid (show RowS w.heap.size w2 v2 l from by have r3 := (show RowS _ w2 v2 l from by unfold RowS; rw [← HNN.out]; rw [HNN.out, List.take_length, ← HNN.out] at r2; exact r2); exact r3.down x1.size); have X2 := Lib.hid (show Ext w w2 from Ext.trans x1 x2); clear r2 x2; obtain ⟨a2, cap2, rfl⟩ := R2.out.shape; obtain ⟨g2, rfl, hB2, _⟩ := R2.out.at 0 (by rw [← HNN.out]; omega); rw [← HNN.out] at R2; rw [← HNN.out]) | (go_at_call 84; refine (sortS_any w.heap.size g2 n cap2 l _ HNN.out.symm (by omega) R2.out).mono ?_; rintro e w4 ⟨rfl, r4, g4⟩; have R4 := Lib.hid r4; have X4 := Lib.hid (show Ext w w4 from ext_grown X2.out g4 (fun j hj => by cases hj; exact hB2)); clear r4 g4) | (go_at_call 50; refine (isPl_any _ (srt l) _ (R4.out.strs (by rw [HSL.out, ← HNN.out]; unfold maxLen; omega) HZ.out) (own_cap R4.out)).mono ?_; rintro e w5 ⟨rfl, x5⟩; rw [HQ.out]))
    go_ret2
    first
      | exact ⟨_, ret_vb HK.out.symm, by rw [mpV_no HK.out]; exact RowS.nil _ _, X4.out.trans x5⟩
      | exact ⟨_, ret_vb HK.out.symm, by rw [mpV_yes HK.out, ← HPT.out HQ.out]; exact R4.out.ext x5, X4.out.trans x5⟩

end Go.Proofs.Ytinojlbnmnlmhab
