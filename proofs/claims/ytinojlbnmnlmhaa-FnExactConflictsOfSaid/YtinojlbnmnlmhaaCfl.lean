/- The pairs of codes the first of which begins the second, at both sides. No conditions. -/
import Derived.Test.YtinojlbnmnlmhaaPlI
import Derived.Test.YtinojlbnmnlmhaaMarkJ
namespace Go.Proofs.Ytinojlbnmnlmhaa
open Go.RowKit

/-- The pairs with one first index, as far as so many second ones. -/
def cfR (P : Nat → Nat → Bool) (a : Nat) : Nat → List (List Int)
  | 0 => []
  | k + 1 => cfR P a k ++ (if P a k = true then [[(a : Int), (k : Int)]] else [])
def cfA (P : Nat → Nat → Bool) (n : Nat) : Nat → List (List Int)
  | 0 => []
  | a + 1 => cfA P n a ++ cfR P a n
theorem cfR_yes {P : Nat → Nat → Bool} {a k : Nat} (h : P a k = true) : cfR P a (k + 1) = cfR P a k ++ [[(a : Int), (k : Int)]] := by rw [cfR, if_pos h]
theorem cfR_no {P : Nat → Nat → Bool} {a k : Nat} (h : P a k = false) : cfR P a (k + 1) = cfR P a k := by rw [cfR, h]; simp
theorem cfR_len (P : Nat → Nat → Bool) (a : Nat) : ∀ k, (cfR P a k).length ≤ k
  | 0 => Nat.le_refl _
  | k + 1 => by
    have := cfR_len P a k
    cases h : P a k
    · rw [cfR_no h]; omega
    · rw [cfR_yes h, List.length_append]; simp; omega
theorem cfA_len (P : Nat → Nat → Bool) (n : Nat) : ∀ a, (cfA P n a).length ≤ n * a
  | 0 => Nat.le_refl _
  | a + 1 => by
    have := cfA_len P n a
    have := cfR_len P a n
    rw [cfA, List.length_append, Nat.mul_succ]
    omega
theorem cfR_two (P : Nat → Nat → Bool) (a : Nat) : ∀ k, ∀ l ∈ cfR P a k, l.length = 2
  | 0, l, h => by cases h
  | k + 1, l, h => by
    cases hg : P a k
    · rw [cfR_no hg] at h; exact cfR_two P a k l h
    · rw [cfR_yes hg] at h
      rcases List.mem_append.1 h with h | h
      · exact cfR_two P a k l h
      · rw [List.mem_singleton] at h; rw [h]; rfl
theorem cfA_two (P : Nat → Nat → Bool) (n : Nat) : ∀ a, ∀ l ∈ cfA P n a, l.length = 2
  | 0, l, h => by cases h
  | a + 1, l, h => by
    rw [cfA] at h
    rcases List.mem_append.1 h with h | h
    · exact cfA_two P n a l h
    · exact cfR_two P a n l h
/-- Whether the first of two different codes begins the second. -/
def cfP (ss : List ByteArray) (a b : Nat) : Bool := decide (¬ a = b) && bgB (ss.getD a ⟨#[]⟩) (ss.getD b ⟨#[]⟩)
def cfV (ss : List ByteArray) : List (List Int) := if cdB ss then cfA (cfP ss) ss.length ss.length else []
theorem cfV_no {ss : List ByteArray} (h : cdB ss = false) : cfV ss = [] := by unfold cfV; rw [h]; rfl
theorem cfV_yes {ss : List ByteArray} (h : cdB ss = true) : cfV ss = cfA (cfP ss) ss.length ss.length := by unfold cfV; rw [h]; rfl
theorem cfV_len (ss : List ByteArray) : (cfV ss).length ≤ 400 := by
  cases h : cdB ss
  · rw [cfV_no h]; exact Nat.zero_le _
  · rw [cfV_yes h]
    have h1 := (cdB_parts h).2.1
    have h2 := cfA_len (cfP ss) ss.length ss.length
    have h3 := Nat.mul_le_mul h1 h1
    omega
theorem cfV_two (ss : List ByteArray) : ∀ l ∈ cfV ss, l.length = 2 := by
  intro l hl
  cases h : cdB ss
  · rw [cfV_no h] at hl; cases hl
  · rw [cfV_yes h] at hl; exact cfA_two _ _ _ l hl
theorem cfV_at (ss : List ByteArray) (i : Nat) (h : i < (cfV ss).length) : (lz (cfV ss) i).length ≤ 1048576 := by
  rw [lz_eq h, cfV_two ss _ (List.getElem_mem h)]
  decide
theorem cfV_tot (ss : List ByteArray) : tot (lz (cfV ss)) (cfV ss).length ≤ 1000000 := by
  have h1 := tot_bound (lz (cfV ss)) 2 (cfV ss).length (fun i hi => by rw [lz_eq hi, cfV_two ss _ (List.getElem_mem hi)]; exact Nat.le_refl 2)
  have h2 := cfV_len ss
  omega
theorem ret_vb2 {v : Value} {b b' : Bool} (h : b = b') : Ending.returned (.tuple #[v, .bool b]) = .returned (.tuple #[v, .bool b']) := by rw [h]

set_option maxRecDepth 100000 in
set_option maxHeartbeats 2000000 in
theorem cfI_any (v : Value) (ss : List ByteArray) (w : World) (h : Strs w v ss) : Calls Try.prog 25 #[v] w (ResII (cfV ss) (cdB ss) w) := by
  have HS := Lib.hid h
  have hlm := h.1
  unfold maxLen at hlm
  obtain ⟨a, cap, hv, _⟩ := h.at
  rw [hv] at HS ⊢
  clear hv h v
  cases hc : cdB ss
  · have HV := Lib.hid (cfV_no hc)
    go_enter Try.func25, Try.ntmps25
    go_wp2_with (go_at_call 52; refine (areCodes_any _ _ _ HS.out).mono ?_; rintro e w' ⟨rfl, x1⟩; rw [hc])
    go_ret2
    exact ⟨_, fun _ => .slice none 0 0, rfl, by rw [HV.out]; exact RowF.nil _ _ _ _, x1⟩
  have hb1 := (cdB_parts hc).1
  have hb2 := (cdB_parts hc).2.1
  have HV := Lib.hid (cfV_yes hc)
  obtain ⟨P, hP⟩ : ∃ P, P = cfP ss := ⟨_, rfl⟩
  have HP := Lib.hid hP
  rw [← hP] at HV
  obtain ⟨i0, hi, hz0, hzs, hzb⟩ := info_parts3 info_li
  have HI := Lib.hid (show Try.prog.info? 42 = some i0 ∧ i0.zero = some (.slice none 0 0) ∧ i0.size = 1 ∧ i0.bytes = 24 from ⟨hi, hz0, hzs, hzb⟩)
  clear hi hz0 hzs hzb hP
  obtain ⟨b, off, rfl, _⟩ := HS.out.get2 0 hb1
  have HG := Lib.hid (show ∀ w', Ext w w' → ∀ k (hk : k < ss.length), w'.cell? ⟨b, off + k, none⟩ = some (.string (ss.getD k ⟨#[]⟩)) from fun w' hx k hk => by
    obtain ⟨b', off', ha', e⟩ := (HS.out.ext hx).get2 k (by omega)
    injection ha' with e1
    injection e1 with e1 e2
    subst e1; subst e2
    rw [e, getDS (by omega : k < ss.length)])
  go_enter Try.func25, Try.ntmps25
  go_wp2_with (go_at_call 52; refine (areCodes_any _ _ _ HS.out).mono ?_; rintro e w' ⟨rfl, x1⟩; rw [hc])
  clear hc
  go_loopw [4, 14] (fun o i wr => ∃ a : Nat, a ≤ ss.length ∧ i = .int .i64 a ∧ (∃ U, RowF w.heap.size wr o (cfA P ss.length a).length U (lz (cfA P ss.length a))) ∧ Ext w wr) (fun _ i _ => ss.length - (intOf i).toNat)
  case atStart => exact ⟨0, Nat.zero_le _, rfl, ⟨fun _ => .slice none 0 0, RowF.nil _ _ _ _⟩, x1⟩
  case round =>
    obtain ⟨a, ha, rfl, ⟨U, hown⟩, hx⟩ := hrel
    have HO := Lib.hid hown
    clear hown
    by_cases hlt : a < ss.length
    · have h9 : (a : Int) < (ss.length : Int) := by omega
      have e1 := HG.out _ hx a hlt
      obtain ⟨s, hs⟩ : ∃ s, s = ss.getD a ⟨#[]⟩ := ⟨_, rfl⟩
      have HSS := Lib.hid hs
      rw [← hs] at e1
      have HA0 := Lib.hid (cfA_len P ss.length a)
      have hna : ss.length * a ≤ 400 := Nat.le_trans (Nat.mul_le_mul hb2 (Nat.le_trans ha hb2)) (by decide)
      clear hs
      go_wp2
      clear h9
      go_loopw [4, 21] (fun o i wr => ∃ k : Nat, k ≤ ss.length ∧ i = .int .i64 k ∧ (∃ U, RowF w.heap.size wr o (cfA P ss.length a ++ cfR P a k).length U (lz (cfA P ss.length a ++ cfR P a k))) ∧ Ext w wr) (fun _ i _ => ss.length - (intOf i).toNat)
      case atStart => exact ⟨0, Nat.zero_le _, rfl, ⟨U, by rw [cfR, List.append_nil]; exact HO.out⟩, hx⟩
      case round =>
        obtain ⟨k, hk, rfl, ⟨U2, hown2⟩, hx2⟩ := hrel
        have HO2 := Lib.hid hown2
        clear hown2
        have hll : (cfA P ss.length a ++ cfR P a k).length ≤ 1000 := by
          rw [List.length_append]
          have := HA0.out
          have := cfR_len P a k
          omega
        by_cases hlt2 : k < ss.length
        · have h9 : (k : Int) < (ss.length : Int) := by omega
          have e2 := HG.out _ hx2 k hlt2
          have HY := Lib.hid (fun h => cfR_yes (P := P) (a := a) (k := k) h)
          have HNN := Lib.hid (fun h => cfR_no (P := P) (a := a) (k := k) h)
          have HPP := Lib.hid (show P a k = (decide (¬ a = k) && bgB s (ss.getD k ⟨#[]⟩)) by rw [HP.out, HSS.out]; rfl)
          obtain ⟨t, ht⟩ : ∃ t, t = ss.getD k ⟨#[]⟩ := ⟨_, rfl⟩
          rw [← ht] at e2 HPP
          obtain ⟨L, hL⟩ : ∃ L, L = cfA P ss.length a ++ cfR P a k := ⟨_, rfl⟩
          rw [← hL] at HO2 hll
          have HLL := Lib.hid hL
          clear ht hL
          have HSZ := Lib.hid (show L.length + 1 ≤ maxLen ∧ (L.length + 1) * 24 ≤ 140737488355328 ∧ ∀ A B, w.heap.size ≤ ((wr.alloc A).alloc B).heap.size from ⟨by unfold maxLen; omega, by omega, fun A B => Nat.le_trans hx2.size (by simp; omega)⟩)
          have HKN := Lib.hid (show k + 1 ≤ ss.length from hlt2)
          by_cases hak : a = k
          · subst hak
            have HVV := Lib.hid (HNN.out (by rw [HPP.out, decide_eq_false (by omega)]; rfl))
            go_wp2_with (go_at_call 53; refine (begins_any _ _ _).mono ?_; rintro e w' ⟨rfl, rfl⟩)
            go_roundw
            case rel => exact ⟨_, HKN.out, by go_num, ⟨U2, by rw [HVV.out, ← HLL.out]; exact HO2.out⟩, hx2⟩
            case measure => have := HKN.out; simp [intOf]; omega
          · have hd1 : ¬ (a : Int) = (k : Int) := by omega
            have HAK := Lib.hid hak
            clear hak
            cases hB : bgB s t
            · have HVV := Lib.hid (HNN.out (by rw [HPP.out, hB, Bool.and_false]))
              have HBB := Lib.hid hB
              clear hB
              go_wp2_with (go_at_call 53; refine (begins_any _ _ _).mono ?_; rintro e w' ⟨rfl, rfl⟩; rw [HBB.out])
              go_roundw
              case rel => exact ⟨k + 1, HKN.out, by go_num, ⟨U2, by rw [HVV.out, ← HLL.out]; exact HO2.out⟩, hx2⟩
              case measure => have := HKN.out; simp [intOf]; omega
            · have HVV := Lib.hid (HY.out (by rw [HPP.out, hB, decide_eq_true HAK.out]; rfl))
              have HBB := Lib.hid hB
              clear hB
              go_wp2_with (first | (go_at_call 53; refine (begins_any _ _ _).mono ?_; rintro e w' ⟨rfl, rfl⟩; rw [HBB.out]) | (at_builtin; refine wpList_append_own _ rfl _ _ 29 rfl w.heap.size 42 i0 (.slice none 0 0) 1 24 Try.underlying29 HI.out.1 HI.out.2.1 HI.out.2.2.1 HI.out.2.2.2 rfl (by decide) _ _ _ rfl (World.ownsRow.alloc (World.ownsRow.alloc HO2.out.1 _) _) ⟨wr.heap.size + 1, 0, none⟩ 1 1 [.slice (some ⟨wr.heap.size, 0, none⟩) 2 2] rfl rfl (cell_two_new _ _ _ _) (oneV2 rfl) HSZ.out.1 HSZ.out.2.1 (HSZ.out.2.2 _ _) ?_; intro v5 w5 own5 gr5 _))
              have X5 : Ext w w5 := ext_grown ((hx2.alloc _).alloc _) gr5 (fun j hj => (World.ownsRow.lt HO2.out.1 j hj).1)
              have RN := Lib.hid (show ∃ U, RowF w.heap.size w5 v5 (cfA P ss.length a ++ cfR P a (k + 1)).length U (lz (cfA P ss.length a ++ cfR P a (k + 1))) from ⟨_, grow_rowI HO2.out ((Ext.refl wr).alloc _) (pair_row wr a k _ (Nat.le_refl _)) (pair_row wr a k _ hx2.size) own5 gr5 (by rw [HVV.out, HLL.out, List.append_assoc])⟩)
              clear own5 gr5
              exact ⟨⟨k + 1, HKN.out, by go_num, RN.out, X5⟩, by have := HKN.out; simp [intOf]; omega⟩
        · have h9 : ¬ (k : Int) < (ss.length : Int) := by omega
          have HVV := Lib.hid (show cfA P ss.length (a + 1) = cfA P ss.length a ++ cfR P a k by rw [cfA, show k = ss.length by omega])
          go_wp2
          go_roundw
          case rel => exact ⟨a + 1, hlt, by go_num, ⟨U2, by rw [HVV.out]; exact HO2.out⟩, hx2⟩
          case measure => simp [intOf]; omega
    · have h9 : ¬ (a : Int) < (ss.length : Int) := by omega
      have HVV := Lib.hid (show cfV ss = cfA P ss.length a by rw [HV.out, show a = ss.length by omega])
      go_wp2
      go_ret2
      exact ⟨_, U, rfl, by rw [HVV.out]; exact HO.out, hx⟩

set_option maxRecDepth 100000 in
set_option maxHeartbeats 2000000 in
theorem cfS_any (v : Value) (ss : List ByteArray) (w : World) (h : Strs w v ss) : Calls Try.prog 24 #[v] w (ResII (cfV ss) (cdB ss) w) := by
  have HS := Lib.hid h
  have hlm := h.1
  unfold maxLen at hlm
  obtain ⟨a, cap, hv, _⟩ := h.at
  rw [hv] at HS ⊢
  clear hv h v
  cases hc : cdB ss
  · have HV := Lib.hid (cfV_no hc)
    go_enter Try.func24, Try.ntmps24
    go_wp2_with (go_at_call 54; refine (plCodes_any _ _ _ HS.out).mono ?_; rintro e w' ⟨rfl, rfl⟩; rw [hc])
    go_ret2
    exact ⟨_, fun _ => .slice none 0 0, rfl, by rw [HV.out]; exact RowF.nil _ _ _ _, Ext.refl _⟩
  have hb1 := (cdB_parts hc).1
  have hb2 := (cdB_parts hc).2.1
  have HV := Lib.hid (cfV_yes hc)
  obtain ⟨P, hP⟩ : ∃ P, P = cfP ss := ⟨_, rfl⟩
  have HP := Lib.hid hP
  rw [← hP] at HV
  obtain ⟨i0, hi, hz0, hzs, hzb⟩ := info_parts3 info_li
  have HI := Lib.hid (show Try.prog.info? 42 = some i0 ∧ i0.zero = some (.slice none 0 0) ∧ i0.size = 1 ∧ i0.bytes = 24 from ⟨hi, hz0, hzs, hzb⟩)
  clear hi hz0 hzs hzb hP
  obtain ⟨b, off, rfl, _⟩ := HS.out.get2 0 hb1
  have HG := Lib.hid (show ∀ w', Ext w w' → ∀ k (hk : k < ss.length), w'.cell? ⟨b, off + k, none⟩ = some (.string (ss.getD k ⟨#[]⟩)) from fun w' hx k hk => by
    obtain ⟨b', off', ha', e⟩ := (HS.out.ext hx).get2 k (by omega)
    injection ha' with e1
    injection e1 with e1 e2
    subst e1; subst e2
    rw [e, getDS (by omega : k < ss.length)])
  go_enter Try.func24, Try.ntmps24
  go_wp2_with (go_at_call 54; refine (plCodes_any _ _ _ HS.out).mono ?_; rintro e w' ⟨rfl, rfl⟩; rw [hc])
  clear hc
  go_loopw [4, 14] (fun o i wr => ∃ a : Nat, a ≤ ss.length ∧ i = .int .i64 a ∧ (∃ U, RowF w.heap.size wr o (cfA P ss.length a).length U (lz (cfA P ss.length a))) ∧ Ext w wr) (fun _ i _ => ss.length - (intOf i).toNat)
  case atStart => exact ⟨0, Nat.zero_le _, rfl, ⟨fun _ => .slice none 0 0, RowF.nil _ _ _ _⟩, Ext.refl _⟩
  case round =>
    obtain ⟨a, ha, rfl, ⟨U, hown⟩, hx⟩ := hrel
    have HO := Lib.hid hown
    clear hown
    by_cases hlt : a < ss.length
    · have h9 : (a : Int) < (ss.length : Int) := by omega
      have e1 := HG.out _ hx a hlt
      obtain ⟨s, hs⟩ : ∃ s, s = ss.getD a ⟨#[]⟩ := ⟨_, rfl⟩
      have HSS := Lib.hid hs
      rw [← hs] at e1
      have HA0 := Lib.hid (cfA_len P ss.length a)
      have hna : ss.length * a ≤ 400 := Nat.le_trans (Nat.mul_le_mul hb2 (Nat.le_trans ha hb2)) (by decide)
      clear hs
      go_wp2
      clear h9
      go_loopw [4, 21] (fun o i wr => ∃ k : Nat, k ≤ ss.length ∧ i = .int .i64 k ∧ (∃ U, RowF w.heap.size wr o (cfA P ss.length a ++ cfR P a k).length U (lz (cfA P ss.length a ++ cfR P a k))) ∧ Ext w wr) (fun _ i _ => ss.length - (intOf i).toNat)
      case atStart => exact ⟨0, Nat.zero_le _, rfl, ⟨U, by rw [cfR, List.append_nil]; exact HO.out⟩, hx⟩
      case round =>
        obtain ⟨k, hk, rfl, ⟨U2, hown2⟩, hx2⟩ := hrel
        have HO2 := Lib.hid hown2
        clear hown2
        have hll : (cfA P ss.length a ++ cfR P a k).length ≤ 1000 := by
          rw [List.length_append]
          have := HA0.out
          have := cfR_len P a k
          omega
        by_cases hlt2 : k < ss.length
        · have h9 : (k : Int) < (ss.length : Int) := by omega
          have e2 := HG.out _ hx2 k hlt2
          have HY := Lib.hid (fun h => cfR_yes (P := P) (a := a) (k := k) h)
          have HNN := Lib.hid (fun h => cfR_no (P := P) (a := a) (k := k) h)
          have HPP := Lib.hid (show P a k = (decide (¬ a = k) && bgB s (ss.getD k ⟨#[]⟩)) by rw [HP.out, HSS.out]; rfl)
          obtain ⟨t, ht⟩ : ∃ t, t = ss.getD k ⟨#[]⟩ := ⟨_, rfl⟩
          rw [← ht] at e2 HPP
          obtain ⟨L, hL⟩ : ∃ L, L = cfA P ss.length a ++ cfR P a k := ⟨_, rfl⟩
          rw [← hL] at HO2 hll
          have HLL := Lib.hid hL
          clear ht hL
          have HSZ := Lib.hid (show L.length + 1 ≤ maxLen ∧ (L.length + 1) * 24 ≤ 140737488355328 ∧ ∀ A B, w.heap.size ≤ ((wr.alloc A).alloc B).heap.size from ⟨by unfold maxLen; omega, by omega, fun A B => Nat.le_trans hx2.size (by simp; omega)⟩)
          have HKN := Lib.hid (show k + 1 ≤ ss.length from hlt2)
          by_cases hak : a = k
          · subst hak
            have HVV := Lib.hid (HNN.out (by rw [HPP.out, decide_eq_false (by omega)]; rfl))
            go_wp2_with (go_at_call 59; refine (plBeg_any _ _ _).mono ?_; rintro e w' ⟨rfl, rfl⟩)
            go_roundw
            case rel => exact ⟨_, HKN.out, by go_num, ⟨U2, by rw [HVV.out, ← HLL.out]; exact HO2.out⟩, hx2⟩
            case measure => have := HKN.out; simp [intOf]; omega
          · have hd1 : ¬ (a : Int) = (k : Int) := by omega
            have HAK := Lib.hid hak
            clear hak
            cases hB : bgB s t
            · have HVV := Lib.hid (HNN.out (by rw [HPP.out, hB, Bool.and_false]))
              have HBB := Lib.hid hB
              clear hB
              go_wp2_with (go_at_call 59; refine (plBeg_any _ _ _).mono ?_; rintro e w' ⟨rfl, rfl⟩; rw [HBB.out])
              go_roundw
              case rel => exact ⟨k + 1, HKN.out, by go_num, ⟨U2, by rw [HVV.out, ← HLL.out]; exact HO2.out⟩, hx2⟩
              case measure => have := HKN.out; simp [intOf]; omega
            · have HVV := Lib.hid (HY.out (by rw [HPP.out, hB, decide_eq_true HAK.out]; rfl))
              have HBB := Lib.hid hB
              clear hB
              go_wp2_with (first | (go_at_call 59; refine (plBeg_any _ _ _).mono ?_; rintro e w' ⟨rfl, rfl⟩; rw [HBB.out]) | (at_builtin; refine wpList_append_own _ rfl _ _ 29 rfl w.heap.size 42 i0 (.slice none 0 0) 1 24 Try.underlying29 HI.out.1 HI.out.2.1 HI.out.2.2.1 HI.out.2.2.2 rfl (by decide) _ _ _ rfl (World.ownsRow.alloc (World.ownsRow.alloc HO2.out.1 _) _) ⟨wr.heap.size + 1, 0, none⟩ 1 1 [.slice (some ⟨wr.heap.size, 0, none⟩) 2 2] rfl rfl (cell_two_new _ _ _ _) (oneV2 rfl) HSZ.out.1 HSZ.out.2.1 (HSZ.out.2.2 _ _) ?_; intro v5 w5 own5 gr5 _))
              have X5 : Ext w w5 := ext_grown ((hx2.alloc _).alloc _) gr5 (fun j hj => (World.ownsRow.lt HO2.out.1 j hj).1)
              have RN := Lib.hid (show ∃ U, RowF w.heap.size w5 v5 (cfA P ss.length a ++ cfR P a (k + 1)).length U (lz (cfA P ss.length a ++ cfR P a (k + 1))) from ⟨_, grow_rowI HO2.out ((Ext.refl wr).alloc _) (pair_row wr a k _ (Nat.le_refl _)) (pair_row wr a k _ hx2.size) own5 gr5 (by rw [HVV.out, HLL.out, List.append_assoc])⟩)
              clear own5 gr5
              exact ⟨⟨k + 1, HKN.out, by go_num, RN.out, X5⟩, by have := HKN.out; simp [intOf]; omega⟩
        · have h9 : ¬ (k : Int) < (ss.length : Int) := by omega
          have HVV := Lib.hid (show cfA P ss.length (a + 1) = cfA P ss.length a ++ cfR P a k by rw [cfA, show k = ss.length by omega])
          go_wp2
          go_roundw
          case rel => exact ⟨a + 1, hlt, by go_num, ⟨U2, by rw [HVV.out]; exact HO2.out⟩, hx2⟩
          case measure => simp [intOf]; omega
    · have h9 : ¬ (a : Int) < (ss.length : Int) := by omega
      have HVV := Lib.hid (show cfV ss = cfA P ss.length a by rw [HV.out, show a = ss.length by omega])
      go_wp2
      go_ret2
      exact ⟨_, U, rfl, by rw [HVV.out]; exact HO.out, hx⟩

end Go.Proofs.Ytinojlbnmnlmhaa
