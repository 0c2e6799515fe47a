/- MakePlan: the codes copied, sorted and tested, or put where they belong one by one. No conditions. -/
import Derived.Test.YtinojlbnmnlmhaaPlI
import Derived.Test.YtinojlbnmnlmhaaSorted
import Derived.Test.YtinojlbnmnlmhaaPutIn
namespace Go.Proofs.Ytinojlbnmnlmhaa
open Go.RowKit Go.Sort

def ResS (ts : List ByteArray) (ok : Bool) (w : World) (e : Ending) (w' : World) : Prop := ∃ v, e = .returned (.tuple #[v, .bool ok]) ∧ RowS w.heap.size w' v ts ∧ Ext w w'
theorem ret_vb {v : Value} {b b' : Bool} (h : b = b') : Ending.returned (.tuple #[v, .bool b]) = .returned (.tuple #[v, .bool b']) := by rw [h]
theorem putAll_le (l : List ByteArray) : (putAll l).length ≤ l.length := by
  have := putAll_len l []
  simpa [putAll] using this

theorem sortS_any (B g n cap : Nat) (l : List ByteArray) (w : World) (hl : l.length = n) (hn : n ≤ 1048576) (h : RowS B w (.slice (some ⟨g, 0, none⟩) n cap) l) :
    Calls Try.prog 57 #[.slice (some ⟨g, 0, none⟩) n cap] w fun e w' => e = .returned (.tuple #[]) ∧ RowS B w' (.slice (some ⟨g, 0, none⟩) n cap) (srt l) ∧ w.grownBy w' (some g) := by
  refine (sort_own B g n cap l w hl hn (by unfold RowS at h; rw [hl] at h; exact h)).mono ?_
  rintro e w' ⟨rfl, r, hg⟩
  refine ⟨rfl, ?_, hg⟩
  unfold RowS
  rw [srt_len, hl]
  rw [enc_back] at r
  exact r

set_option maxHeartbeats 1000000 in
set_option maxRecDepth 4000 in
theorem mkpl_any (v : Value) (l : List ByteArray) (w : World) (h : Strs w v l) : Calls Try.prog 21 #[v] w (ResS (mpV l) (mpB l) w) := by
  have HS := Lib.hid h
  have hlm := h.1
  unfold maxLen at hlm
  obtain ⟨a, cap, hv, hnil⟩ := h.at
  rw [hv] at HS ⊢
  clear hv hnil h v
  cases hc : cdB l
  · have HV := Lib.hid (mpB_c hc)
    go_enter Try.func21, Try.ntmps21
    go_wp2_with (go_at_call 52; refine (areCodes_any _ _ _ HS.out).mono ?_; rintro e w' ⟨rfl, x1⟩; rw [hc])
    go_ret2
    exact ⟨_, ret_vb HV.out.symm, by rw [mpV_no HV.out]; exact RowS.nil _ _, x1⟩
  have HCP := Lib.hid (cdB_parts hc)
  have h1 : 1 ≤ l.length := HCP.out.1
  have h20 : l.length ≤ 20 := HCP.out.2.1
  have HMS := Lib.hid (mpB_s hc)
  have HZ := Lib.hid (show ∀ s ∈ srt l, s.size ≤ maxLen from fun s hs => HS.out.2.1 s ((srt_mem l s).1 hs))
  have HSL := Lib.hid (srt_len l)
  have HPT := Lib.hid (fun h => mpB_srt (ss := l) h)
  have hcells : ∀ b off, a = some ⟨b, off, none⟩ → ∀ w', Ext w w' → ∀ j, j < l.length → w'.cell? ⟨b, off + j, none⟩ = some (.string (l.getD j ByteArray.empty)) := fun b off ha w' hx j hj => by
    obtain ⟨b', off', ha', e⟩ := (HS.out.ext hx).get2 j hj
    rw [ha] at ha'
    injection ha' with e1
    injection e1 with e1 e2
    subst e1; subst e2
    rw [e, List.getD_eq_getElem?_getD, List.getElem?_eq_getElem hj]
    rfl
  obtain ⟨b, off, rfl, _⟩ := HS.out.get2 0 h1
  have HCL := Lib.hid (hcells b off rfl)
  clear hcells
  obtain ⟨n, hn⟩ : ∃ n, n = l.length := ⟨_, rfl⟩
  have HNN := Lib.hid hn
  rw [← hn] at h1 h20 hlm HS ⊢
  clear hn
  cases hs : plB (srt l)
  all_goals
    have HK := Lib.hid (HMS.out.trans hs)
    have HQ := Lib.hid hs
    clear hs
    have HC := Lib.hid hc
    go_enter Try.func21, Try.ntmps21
    go_wp2_with (first | (go_at_call 52; refine (areCodes_any _ _ _ HS.out).mono ?_; rintro e w1 ⟨rfl, x1⟩; rw [HC.out]) | (go_at_call 56; refine (Go.Proofs.Try.slices_Clone_string b off n cap l _ (Nat.le_of_eq HNN.out) (by omega) (fun j hj => HCL.out _ x1 j hj)).mono ?_; rintro e w2 ⟨v2, rfl, r2, _, x2⟩; have R2 := Lib.hid (show RowS w.heap.size w2 v2 l from by have r3 := (show RowS _ w2 v2 l from by unfold RowS; rw [← HNN.out]; rw [HNN.out, List.take_length, ← HNN.out] at r2; exact r2); exact r3.down x1.size); have X2 := Lib.hid (show Ext w w2 from Ext.trans x1 x2); clear r2 x2; obtain ⟨a2, cap2, rfl⟩ := R2.out.shape; obtain ⟨g2, rfl, hB2, _⟩ := R2.out.at 0 (by rw [← HNN.out]; omega); rw [← HNN.out] at R2; rw [← HNN.out]) | (go_at_call 57; refine (sortS_any w.heap.size g2 n cap2 l _ HNN.out.symm (by omega) R2.out).mono ?_; rintro e w4 ⟨rfl, r4, g4⟩; have R4 := Lib.hid r4; have X4 := Lib.hid (show Ext w w4 from ext_grown X2.out g4 (fun j hj => by cases hj; exact hB2)); clear r4 g4) | (go_at_call 18; refine (isPl_any _ (srt l) _ (R4.out.strs (by rw [HSL.out, ← HNN.out]; unfold maxLen; omega) HZ.out) (own_cap R4.out)).mono ?_; rintro e w5 ⟨rfl, x5⟩; rw [HQ.out]))
    go_ret2
    first
      | exact ⟨_, ret_vb HK.out.symm, by rw [mpV_no HK.out]; exact RowS.nil _ _, X4.out.trans x5⟩
      | exact ⟨_, ret_vb HK.out.symm, by rw [mpV_yes HK.out, ← HPT.out HQ.out]; exact R4.out.ext x5, X4.out.trans x5⟩

set_option maxHeartbeats 1000000 in
set_option maxRecDepth 4000 in
theorem mkplS_any (v : Value) (ss : List ByteArray) (w : World) (h : Strs w v ss) : Calls Try.prog 20 #[v] w (ResS (mpV ss) (mpB ss) w) := by
  have HS := Lib.hid h
  have hlm := h.1
  unfold maxLen at hlm
  have HM := Lib.hid h.2.1
  obtain ⟨a, cap, hv, hnil⟩ := h.at
  rw [hv] at HS ⊢
  clear hv hnil h v
  cases hc : cdB ss
  · have HV := Lib.hid (mpB_c hc)
    go_enter Try.func20, Try.ntmps20
    go_wp2_with (go_at_call 54; refine (plCodes_any _ _ _ HS.out).mono ?_; rintro e w' ⟨rfl, rfl⟩; rw [hc])
    go_ret2
    exact ⟨_, ret_vb HV.out.symm, by rw [mpV_no HV.out]; exact RowS.nil _ _, Ext.refl _⟩
  have HCP := Lib.hid (cdB_parts hc)
  have hb1 : 1 ≤ ss.length := HCP.out.1
  have hb2 : ss.length ≤ 20 := HCP.out.2.1
  have HCD := Lib.hid hc
  go_enter Try.func20, Try.ntmps20
  go_wp2_with (go_at_call 54; refine (plCodes_any _ _ _ HS.out).mono ?_; rintro e w' ⟨rfl, rfl⟩; rw [hc])
  clear hc
  go_loopw [4, 12] (fun o i wr => ∃ k : Nat, k ≤ ss.length ∧ i = .int .i64 k ∧ RowS w.heap.size wr o (putAll (ss.take k)) ∧ (k = 0 → o = .slice none 0 0) ∧ Ext w wr) (fun _ i _ => ss.length - (intOf i).toNat)
  case atStart => exact ⟨0, Nat.zero_le _, rfl, RowS.nil _ _, fun _ => rfl, Ext.refl _⟩
  case round =>
    obtain ⟨k, hk, rfl, hown, hz, hx⟩ := hrel
    have HO := Lib.hid hown
    have HZ := Lib.hid hz
    clear hown hz
    by_cases hlt : k < ss.length
    · obtain ⟨b, off, ha, e1⟩ := (HS.out.ext hx).get2 k hlt
      have hz := HM.out ss[k] (List.getElem_mem hlt)
      rw [ha]
      have HN := Lib.hid (show putAll (ss.take (k + 1)) = putL (putAll (ss.take k)) ss[k] by rw [takeS ss k hlt, putAll_snoc])
      have hlen : (putAll (ss.take k)).length ≤ 100 := Nat.le_trans (putAll_le _) (by rw [List.length_take]; omega)
      by_cases h0 : k = 0
      · obtain rfl := HZ.out h0
        have HE := Lib.hid (show putAll (ss.take k) = [] by rw [h0]; rfl)
        clear h0
        go_wp2_with (go_at_call 55; refine (wdPut_nil _ _).mono ?_; rintro e w9 ⟨v9, rfl, r9, x9⟩)
        go_roundw
        case rel => exact ⟨k + 1, by omega, by go_num, by rw [HN.out, HE.out]; exact r9.down hx.size, fun h => absurd h (by omega), hx.trans x9⟩
        case measure => simp [intOf]; omega
      · have HPOS := Lib.hid (show 0 < (putAll (ss.take k)).length from List.length_pos_of_mem ((putAll_mem _ (ss[0]'(by omega))).2 (List.mem_iff_getElem.2 ⟨0, by rw [List.length_take]; omega, by rw [List.getElem_take]⟩)))
        have HSZ := Lib.hid (show ∀ t ∈ putAll (ss.take k), t.size ≤ maxLen from fun t ht => HM.out t (List.mem_of_mem_take ((putAll_mem _ t).1 ht)))
        clear h0
        go_wp2_with (go_at_call 55; refine (wdPut_any w.heap.size _ _ _ _ HO.out hx.size hlen HSZ.out HPOS.out).mono ?_; rintro e w9 ⟨v9, rfl, r9, x9, _⟩)
        go_roundw
        case rel => exact ⟨k + 1, by omega, by go_num, by rw [HN.out]; exact r9, fun h => absurd h (by omega), hx.trans x9⟩
        case measure => simp [intOf]; omega
    · have HT := Lib.hid (show ss.take k = ss from List.take_of_length_le (by omega))
      rw [HT.out] at HO
      have HSZ := Lib.hid (show ∀ t ∈ putAll ss, t.size ≤ maxLen from fun t ht => HM.out t ((putAll_mem _ t).1 ht))
      have hle := putAll_le ss
      have HG := Lib.hid (HO.out.strs (by unfold maxLen; omega) HSZ.out)
      obtain ⟨a3, cap3, ho3⟩ := HO.out.shape
      subst ho3
      by_cases hln : (putAll ss).length = ss.length
      · have HP := Lib.hid (mpB_put HCD.out hln)
        rw [hln] at HG HO ⊢
        clear hln
        cases hq : plB (putAll ss)
        all_goals
          have HQ := Lib.hid hq
          have HB := Lib.hid (HP.out.trans hq)
          clear hq
          go_wp2_with (go_at_call 51; refine (plGood_any _ (putAll ss) _ HG.out).mono ?_; rintro e w5 ⟨rfl, x5⟩; rw [HQ.out])
          go_ret2
          first
            | exact ⟨_, ret_vb HB.out.symm, by rw [mpV_no HB.out]; exact RowS.nil _ _, hx.trans x5⟩
            | exact ⟨_, ret_vb HB.out.symm, by rw [mpV_yes HB.out]; exact HO.out.ext x5, hx.trans x5⟩
      · have HB := Lib.hid (mpB_len HCD.out hln)
        have hni : ¬ ((putAll ss).length : Int) = (ss.length : Int) := by omega
        go_wp2
        go_ret2
        exact ⟨_, ret_vb HB.out.symm, by rw [mpV_no HB.out]; exact RowS.nil _ _, hx⟩

end Go.Proofs.Ytinojlbnmnlmhaa
