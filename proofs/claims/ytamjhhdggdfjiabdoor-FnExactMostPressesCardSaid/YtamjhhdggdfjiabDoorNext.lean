/- How often one presses for a word of a dictionary with a next key: alike by the program and by its model. No conditions but the table's content. -/
import Derived.Test.YtamjhhdggdfjiabDoorKept
import Derived.Test.YtamjhhdggdfjiabDoorFind
namespace Go.Proofs.YtamjhhdggdfjiabDoor
open Go.RowKit

/-- One press a key, and one for each word of these keys ahead of this one. -/
def prs (ss : List ByteArray) (s : ByteArray) : Nat := s.size + fx (fors ss (keysB s)) s
theorem fors_has {ss : List ByteArray} {s : ByteArray} (h : ofB ss s = true) : hasS (fors ss (keysB s)) s = true := by
  unfold ofB at h
  simp only [Bool.and_eq_true] at h
  obtain ⟨hl, he⟩ := fx_at h.2
  have hm : s ∈ fors ss (keysB s) := List.mem_filter.2 ⟨he ▸ List.getElem_mem hl, by simp⟩
  obtain ⟨j, hj, hjs⟩ := List.mem_iff_getElem.1 hm
  cases hh : hasS (fors ss (keysB s)) s
  · exfalso
    unfold hasS at hh
    have hno := of_decide_eq_false hh
    have hlt : fx (fors ss (keysB s)) s < (fors ss (keysB s)).length := by
      unfold fx
      exact List.findIdx_lt_length_of_exists ⟨s, hm, by simp⟩
    exact hno hlt
  · rfl
theorem fxI_at {ss : List ByteArray} {s : ByteArray} (h : hasS ss s = true) : fxI ss s = fx ss s := by
  obtain ⟨hl, _⟩ := fx_at h
  unfold fxI; rw [if_pos hl]
theorem ofB_dic2 {ss : List ByteArray} {s : ByteArray} (h : ofB ss s = true) : dicB ss = true := by unfold ofB at h; simp only [Bool.and_eq_true] at h; exact h.1
theorem ofB_word2 {ss : List ByteArray} {s : ByteArray} (h : ofB ss s = true) : wdW s = true := by
  have hd := ofB_dic2 h
  unfold ofB at h
  simp only [Bool.and_eq_true] at h
  obtain ⟨hl, he⟩ := fx_at h.2
  rw [← he]
  exact dicB_at hd _ hl
theorem prs_le {ss : List ByteArray} {s : ByteArray} (h : ofB ss s = true) : prs ss s ≤ 22 := by
  obtain ⟨hl, _⟩ := fx_at (fors_has h)
  have h1 := fors_len ss (keysB s)
  have h2 := dicB_len (ofB_dic2 h)
  have h3 := wdW_size (ofB_word2 h)
  unfold prs
  omega
theorem fors_sz {ss : List ByteArray} {q : ByteArray} (h : dicB ss = true) : ∀ t ∈ fors ss q, t.size ≤ maxLen := fun t ht => by
  have := wdW_size (dicB_mem h t (fors_mem ht))
  unfold maxLen
  omega
theorem fors_l12 {ss : List ByteArray} {q : ByteArray} (h : dicB ss = true) : (fors ss q).length ≤ 12 := Nat.le_trans (fors_len ss q) (dicB_len h).2

set_option maxRecDepth 100000 in
set_option maxHeartbeats 2000000 in
theorem pressesIn_any (B n : Nat) (ss : List ByteArray) (s : ByteArray) (w : World) (h : Kept B n w ss) (hof : ofB ss s = true) (hp : PadIs w) : Calls Tryd.prog 58 #[.map (some B), .string s] w fun e w' => e = .returned (.int .i64 (prs ss s : Int)) ∧ Ext w w' := by
  have HK := Lib.hid h
  have HO := Lib.hid hof
  have HW := Lib.hid (wdW_isW (ofB_word2 hof))
  have hz := wdW_size (ofB_word2 hof)
  have HQ := Lib.hid (keysB_ok (s := s) (by omega))
  have hle := prs_le hof
  have HF := Lib.hid (fxI_at (fors_has hof))
  have HP := Lib.hid (show ((s.size : Int) + (fx (fors ss (keysB s)) s : Int)) = (prs ss s : Int) by unfold prs; omega)
  have hfx : fx (fors ss (keysB s)) s ≤ 22 := by unfold prs at hle; omega
  clear h hof
  go_enter Tryd.func58, Tryd.ntmps58
  go_wp2_with (first | (go_at_call 54; refine (keysL_any _ _ HW.out hp).mono ?_; rintro e w1 ⟨rfl, x1⟩) | (go_at_call 43; refine (with_any _ _ _ _ _ (kept_grown HK.out x1) HQ.out).mono ?_; rintro e w2 ⟨v2, rfl, r2, x2⟩) | (go_at_call 71; refine (index_any _ _ _ _ (r2.strs (by have := fors_l12 (q := keysB s) (ofB_dic2 HO.out); unfold maxLen; omega) (fors_sz (ofB_dic2 HO.out)))).mono ?_; rintro e w3 ⟨rfl, x3⟩; rw [HF.out]))
  go_ret
  exact ⟨ret_intF HP.out, (x1.trans x2).trans x3⟩

set_option maxRecDepth 100000 in
set_option maxHeartbeats 2000000 in
theorem wdPresses_any (v : Value) (ss : List ByteArray) (s : ByteArray) (w : World) (h : Strs w v ss) (hof : ofB ss s = true) : Calls Tryd.prog 56 #[v, .string s] w fun e w' => e = .returned (.int .i64 (prs ss s : Int)) ∧ Ext w w' := by
  have HS := Lib.hid h
  have HO := Lib.hid hof
  have HW := Lib.hid (wdW_isW (ofB_word2 hof))
  have hz := wdW_size (ofB_word2 hof)
  have hkz : (keysB s).size ≤ maxLen := by rw [keysB_size]; unfold maxLen; omega
  have hl12 := fors_l12 (q := keysB s) (ofB_dic2 hof)
  have HZ := Lib.hid (fors_sz (q := keysB s) (ofB_dic2 hof))
  have HH := Lib.hid (fors_has hof)
  obtain ⟨zs, hzs⟩ : ∃ zs, zs = fors ss (keysB s) := ⟨_, rfl⟩
  have HE := Lib.hid hzs
  rw [← hzs] at hl12 HZ HH
  have HP := Lib.hid (show prs ss s = s.size + fx zs s by unfold prs; rw [hzs])
  clear h hof hzs
  go_enter Tryd.func56, Tryd.ntmps56
  go_wp2_with (first | (go_at_call 52; refine (prKeys_any _ _ HW.out).mono ?_; rintro e w' ⟨rfl, rfl⟩) | (go_at_call 39; refine (wdJust_any _ _ _ _ HS.out (ofB_dic2 HO.out) hkz).mono ?_; rintro e w1 ⟨v1, rfl, r1, x1⟩; rw [← HE.out] at r1; obtain ⟨a1, cap1, rfl⟩ := r1.shape))
  have HR := Lib.hid r1
  clear r1
  go_loopw [5, 15] (fun n i wr => ∃ k : Nat, k ≤ zs.length ∧ i = .int .i64 k ∧ n = .int .i64 ((s.size : Int) + (k : Int)) ∧ (∀ j (hj : j < zs.length), j < k → ¬ zs[j] = s) ∧ Ext w1 wr) (fun _ i _ => zs.length - (intOf i).toNat)
  case atStart => exact ⟨0, Nat.zero_le _, rfl, by simp, fun j _ h => absurd h (Nat.not_lt_zero _), Ext.refl _⟩
  case round =>
    obtain ⟨k, hk, rfl, rfl, hall, hx⟩ := hrel
    have HA := Lib.hid hall
    clear hall
    by_cases hlt : k < zs.length
    · obtain ⟨g, ha, _, _, e1, _⟩ := (HR.out.ext hx).at k hlt
      rw [ha]
      clear ha
      by_cases hE : zs[k] = s
      · have t1 : (zs[k].toList == s.toList) = true := by rw [beqT, decide_eq_true hE]
        have H := Lib.hid (fx_hit hlt hE (fun j hj h => HA.out j hj h))
        clear hE
        go_wp2
        go_ret
        exact ⟨ret_intF (by rw [HP.out, H.out]; omega), x1.trans hx⟩
      · have t1 : (zs[k].toList == s.toList) = false := by rw [beqT, decide_eq_false hE]
        have HN := Lib.hid hE
        clear hE
        go_wp2
        go_roundw
        case rel =>
          refine ⟨k + 1, by omega, by go_num, by go_num, fun j hj hjk => ?_, hx⟩
          by_cases e : j = k
          · subst e; exact HN.out
          · exact HA.out j hj (by omega)
        case measure => simp [intOf]; omega
    · exfalso
      obtain ⟨hl, he⟩ := fx_at HH.out
      exact HA.out _ hl (by omega) he

end Go.Proofs.YtamjhhdggdfjiabDoor
