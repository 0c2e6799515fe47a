/- The nearest words of a dictionary: the program's way and its model's. No conditions. -/
import Derived.Test.YtnoidabmbckfkabNear
import Derived.Lib.MinMax
namespace Go.Proofs.Ytnoidabmbckfkab
open Go.RowKit

/-- The least distance of the first so many words, 20 at most. -/
def lst (ss : List ByteArray) (t : ByteArray) : Nat → Nat
  | 0 => 20
  | k + 1 => min (lst ss t k) (dst (ss.getD k ByteArray.empty) t)
theorem lst_le (ss : List ByteArray) (t : ByteArray) : ∀ k, lst ss t k ≤ 20
  | 0 => Nat.le_refl _
  | k + 1 => by have := lst_le ss t k; rw [lst]; omega
theorem getS {ss : List ByteArray} {k : Nat} (h : k < ss.length) : ss.getD k ByteArray.empty = ss[k] := by rw [List.getD_eq_getElem?_getD, List.getElem?_eq_getElem h]; rfl
theorem lst_ge (ss : List ByteArray) (t : ByteArray) : ∀ k j, j < k → lst ss t k ≤ dst (ss.getD j ByteArray.empty) t
  | 0, _, h => absurd h (by omega)
  | k + 1, j, h => by
    rw [lst]
    by_cases e : j = k
    · subst e; omega
    · have := lst_ge ss t k j (by omega); omega
/-- The words with the least distance, of the first so many. -/
def nst (ss : List ByteArray) (t : ByteArray) (k : Nat) : List ByteArray := win ss t (lst ss t k : Nat) k
theorem win_none {ss : List ByteArray} {t : ByteArray} {f : Int} {k : Nat} (hk : k ≤ ss.length) (h : ∀ j, j < k → ¬ (dst (ss.getD j ByteArray.empty) t : Int) ≤ f) : win ss t f k = [] := by
  unfold win
  rw [List.filter_eq_nil_iff]
  intro s hs
  obtain ⟨j, hj, rfl⟩ := List.mem_iff_getElem.1 hs
  have hjk : j < k := by rw [List.length_take] at hj; omega
  have := h j hjk
  rw [List.getElem_take]
  rw [getS (by omega)] at this
  simpa using this
theorem nst_less {ss : List ByteArray} {t : ByteArray} {k : Nat} (h : k < ss.length) (hd : dst ss[k] t < lst ss t k) : nst ss t (k + 1) = [ss[k]] ∧ lst ss t (k + 1) = dst ss[k] t := by
  have e : lst ss t (k + 1) = dst ss[k] t := by rw [lst, getS h]; omega
  refine ⟨?_, e⟩
  unfold nst
  rw [e, win_yes h (Int.le_refl _), win_none (by omega) (fun j hj => by have := lst_ge ss t k j hj; omega), List.nil_append]
theorem nst_same {ss : List ByteArray} {t : ByteArray} {k : Nat} (h : k < ss.length) (hd : dst ss[k] t = lst ss t k) : nst ss t (k + 1) = nst ss t k ++ [ss[k]] ∧ lst ss t (k + 1) = lst ss t k := by
  have e : lst ss t (k + 1) = lst ss t k := by rw [lst, getS h]; omega
  refine ⟨?_, e⟩
  unfold nst
  rw [e, win_yes h (by omega)]
theorem nst_more {ss : List ByteArray} {t : ByteArray} {k : Nat} (h : k < ss.length) (hd : lst ss t k < dst ss[k] t) : nst ss t (k + 1) = nst ss t k ∧ lst ss t (k + 1) = lst ss t k := by
  have e : lst ss t (k + 1) = lst ss t k := by rw [lst, getS h]; omega
  refine ⟨?_, e⟩
  unfold nst
  rw [e, win_no h (by omega)]
theorem nst_pos {ss : List ByteArray} {t : ByteArray} (hd : dicB ss = true) (ht : t.size ≤ 20) : ∀ k, 0 < k → k ≤ ss.length → 0 < (nst ss t k).length
  | 0, h, _ => absurd h (by omega)
  | k + 1, _, hk => by
    rcases Nat.lt_trichotomy (dst ss[k] t) (lst ss t k) with h | h | h
    · rw [(nst_less (by omega) h).1]; simp
    · rw [(nst_same (by omega) h).1, List.length_append]; simp
    · rw [(nst_more (by omega) h).1]
      by_cases h0 : k = 0
      · subst h0
        have := wdW_size (dicB_mem hd ss[0] (List.getElem_mem _))
        have := dst_max (a := ss[0]) (b := t) (by omega) ht
        rw [lst] at h
        omega
      · exact nst_pos hd ht k (by omega) (by omega)
theorem nst_len (ss : List ByteArray) (t : ByteArray) (k : Nat) : (nst ss t k).length ≤ ss.length := win_len _ _ _ _
def nOk (ss : List ByteArray) (t : ByteArray) : Bool := dicB ss && isT 20 t
def nV (ss : List ByteArray) (t : ByteArray) : List ByteArray := if nOk ss t then nst ss t ss.length else []
def nD (ss : List ByteArray) (t : ByteArray) : Int := if nOk ss t then (lst ss t ss.length : Int) else 0
theorem nV_no {ss : List ByteArray} {t : ByteArray} (h : nOk ss t = false) : nV ss t = [] := by unfold nV; rw [h]; rfl
theorem nV_yes {ss : List ByteArray} {t : ByteArray} (h : nOk ss t = true) : nV ss t = nst ss t ss.length := by unfold nV; rw [h]; rfl
theorem nD_no {ss : List ByteArray} {t : ByteArray} (h : nOk ss t = false) : nD ss t = 0 := by unfold nD; rw [h]; rfl
theorem nD_yes {ss : List ByteArray} {t : ByteArray} (h : nOk ss t = true) : nD ss t = (lst ss t ss.length : Int) := by unfold nD; rw [h]; rfl
theorem nOk_d {ss : List ByteArray} {t : ByteArray} (h : dicB ss = false) : nOk ss t = false := by unfold nOk; rw [h]; rfl
theorem nOk_t {ss : List ByteArray} {t : ByteArray} (h : isT 20 t = false) : nOk ss t = false := by unfold nOk; rw [h]; simp
theorem nOk_y {ss : List ByteArray} {t : ByteArray} (h : dicB ss = true) (h2 : isT 20 t = true) : nOk ss t = true := by unfold nOk; rw [h, h2]; rfl
theorem nV_len (ss : List ByteArray) (t : ByteArray) : (nV ss t).length ≤ 1048576 := by
  cases h : nOk ss t
  · rw [nV_no h]; simp
  · rw [nV_yes h]
    have := nst_len ss t ss.length
    have hd : dicB ss = true := by unfold nOk at h; simp only [Bool.and_eq_true] at h; exact h.1
    have := (dicB_len hd).2
    omega
theorem nV_mem (ss : List ByteArray) (t : ByteArray) : ∀ s ∈ nV ss t, s.size ≤ maxLen := by
  intro s hs
  cases h : nOk ss t
  · rw [nV_no h] at hs; cases hs
  · rw [nV_yes h] at hs
    have hd : dicB ss = true := by unfold nOk at h; simp only [Bool.and_eq_true] at h; exact h.1
    have := wdW_size (dicB_mem hd s (win_mem hs))
    unfold maxLen
    omega
/-- An answer: a list of the call's own, a number, and whether there are these. -/
def ResN (ts : List ByteArray) (d : Int) (ok : Bool) (w : World) (e : Ending) (w' : World) : Prop := ∃ v, e = .returned (.tuple #[v, .int .i64 d, .bool ok]) ∧ RowS w.heap.size w' v ts ∧ Ext w w'
theorem ret_vib {v : Value} {d d' : Int} {b b' : Bool} (h0 : d = d') (h : b = b') : Ending.returned (.tuple #[v, .int .i64 d, .bool b]) = .returned (.tuple #[v, .int .i64 d', .bool b']) := by rw [h0, h]

set_option maxRecDepth 100000 in
set_option maxHeartbeats 4000000 in
theorem nrI_any (v : Value) (ss : List ByteArray) (t : ByteArray) (w : World) (h : Strs w v ss) (ht : t.size ≤ maxLen) : Calls Try.prog 19 #[v, .string t] w (ResN (nV ss t) (nD ss t) (nOk ss t) w) := by
  have HS := Lib.hid h
  obtain ⟨a, cap, hv, _⟩ := h.at
  rw [hv] at HS ⊢
  clear hv h v
  cases hd : dicB ss
  · have H := Lib.hid (nOk_d (t := t) hd)
    go_enter Try.func19, Try.ntmps19
    go_wp2_with (go_at_call 52; refine (dict_any _ _ _ HS.out).mono ?_; rintro e w1 ⟨rfl, x1⟩; rw [hd])
    go_ret3
    exact ⟨_, ret_vib (nD_no H.out).symm H.out.symm, by rw [nV_no H.out]; exact RowS.nil _ _, x1⟩
  cases hT : isT 20 t
  · have H := Lib.hid (nOk_t (ss := ss) hT)
    go_enter Try.func19, Try.ntmps19
    go_wp2_with (first | (go_at_call 52; refine (dict_any _ _ _ HS.out).mono ?_; rintro e w1 ⟨rfl, x1⟩; rw [hd]) | (go_at_call 53; refine (isTyped_any _ _ ht).mono ?_; rintro e w2 ⟨rfl, x2⟩; rw [hT]))
    go_ret3
    exact ⟨_, ret_vib (nD_no H.out).symm H.out.symm, by rw [nV_no H.out]; exact RowS.nil _ _, x1.trans x2⟩
  have H := Lib.hid (nOk_y hd hT)
  have HD := Lib.hid hd
  have h20 := isT_size hT
  have hlen := (dicB_len hd).2
  go_enter Try.func19, Try.ntmps19
  go_wp2_with (first | (go_at_call 52; refine (dict_any _ _ _ HS.out).mono ?_; rintro e w1 ⟨rfl, x1⟩; rw [hd]) | (go_at_call 53; refine (isTyped_any _ _ ht).mono ?_; rintro e w2 ⟨rfl, x2⟩; rw [hT]))
  clear hd hT
  have X2 := x1.trans x2
  go_loopw [7, 20] (fun l i wr => ∃ k : Nat, k ≤ ss.length ∧ i = .int .i64 k ∧ l = .int .i64 (lst ss t k : Nat) ∧ Ext w wr) (fun _ i _ => ss.length - (intOf i).toNat)
  case atStart => exact ⟨0, Nat.zero_le _, rfl, rfl, X2⟩
  case round =>
    obtain ⟨k, hk, rfl, rfl, hx⟩ := hrel
    have hll := lst_le ss t k
    by_cases hlt : k < ss.length
    · rcases (HS.out.ext hx).2.2 with ⟨h3, _⟩ | ⟨b, off, cap', h4, hb, hc⟩
      · rw [h3] at hlt; exact absurd hlt (by simp)
      have ha : a = some ⟨b, off, none⟩ := by injection h4
      have e1 := hc k hlt
      have hz10 := wdW_size (dicB_mem HD.out ss[k] (List.getElem_mem hlt))
      subst ha
      clear hc h4 hb
      obtain ⟨s, hs⟩ : ∃ s, s = ss[k] := ⟨_, rfl⟩
      have HN := Lib.hid (show lst ss t (k + 1) = min (lst ss t k) (dst s t) by rw [lst, getS hlt, ← hs])
      rw [← hs] at e1 hz10
      clear hs
      have i0 := ixT_zero (tA s t)
      have i1 := ixT_row (tA s t) 0
      have HT := Lib.hid (tA_zero s t)
      obtain ⟨TT, hTT⟩ : ∃ TT, TT = (tabT (tA s t)).toArray := ⟨_, rfl⟩
      obtain ⟨RR, hRR⟩ : ∃ RR, RR = (rowT (tA s t) 0).toArray := ⟨_, rfl⟩
      have HTT := Lib.hid hTT
      rw [← hTT, ← hRR] at i0
      rw [← hRR, HT.out] at i1
      clear hTT hRR
      obtain ⟨D, hD⟩ : ∃ D, D = dst s t := ⟨_, rfl⟩
      obtain ⟨L, hL⟩ : ∃ L, L = lst ss t k := ⟨_, rfl⟩
      rw [← hD] at i1 HN
      rw [← hL] at HN hll ⊢
      have HMIN := Lib.hid (show min (L : Int) (D : Int) = ((lst ss t (k + 1) : Nat) : Int) by rw [HN.out]; omega)
      clear hD hL
      go_wp2_with (go_at_call 54; refine (typos_any s t _ (by omega) h20).mono ?_; rintro e w4 ⟨rfl, x4⟩; rw [← HTT.out])
      go_roundw
      case rel => exact ⟨k + 1, by omega, by go_num, by rw [← HMIN.out], hx.trans x4⟩
      case measure => simp [intOf] <;> omega
    · obtain rfl : k = ss.length := by omega
      go_wp2_with (go_at_call 55; refine (within_any _ _ _ _ _ (HS.out.ext hx) HD.out h20).mono ?_; rintro e w5 ⟨v5, rfl, r5, x5⟩; have R5 := Lib.hid (r5.down (B' := w.heap.size) hx.size); clear r5)
      go_ret3
      exact ⟨_, ret_vib (nD_yes H.out).symm H.out.symm, by rw [nV_yes H.out]; exact R5.out, hx.trans x5⟩

set_option maxRecDepth 100000 in
set_option maxHeartbeats 4000000 in
theorem nrS_any (v : Value) (ss : List ByteArray) (t : ByteArray) (w : World) (h : Strs w v ss) (ht : t.size ≤ maxLen) : Calls Try.prog 17 #[v, .string t] w (ResN (nV ss t) (nD ss t) (nOk ss t) w) := by
  have HS := Lib.hid h
  obtain ⟨a, cap, hv, _⟩ := h.at
  rw [hv] at HS ⊢
  clear hv h v
  cases hd : dicB ss
  · have H := Lib.hid (nOk_d (t := t) hd)
    go_enter Try.func17, Try.ntmps17
    go_wp2_with (go_at_call 49; refine (wdGood_any _ _ _ HS.out).mono ?_; rintro e w1 ⟨rfl, x1⟩; rw [hd])
    go_ret3
    exact ⟨_, ret_vib (nD_no H.out).symm H.out.symm, by rw [nV_no H.out]; exact RowS.nil _ _, x1⟩
  cases hT : isT 20 t
  · have H := Lib.hid (nOk_t (ss := ss) hT)
    go_enter Try.func17, Try.ntmps17
    go_wp2_with (first | (go_at_call 49; refine (wdGood_any _ _ _ HS.out).mono ?_; rintro e w1 ⟨rfl, x1⟩; rw [hd]) | (go_at_call 50; refine (bkText_any _ _ ht).mono ?_; rintro e w2 ⟨rfl, rfl⟩; rw [hT]))
    go_ret3
    exact ⟨_, ret_vib (nD_no H.out).symm H.out.symm, by rw [nV_no H.out]; exact RowS.nil _ _, x1⟩
  have H := Lib.hid (nOk_y hd hT)
  have HD := Lib.hid hd
  have h20 := isT_size hT
  have hlen := (dicB_len hd).2
  have hlen1 := (dicB_len hd).1
  go_enter Try.func17, Try.ntmps17
  go_wp2_with (first | (go_at_call 49; refine (wdGood_any _ _ _ HS.out).mono ?_; rintro e w1 ⟨rfl, x1⟩; rw [hd]) | (go_at_call 50; refine (bkText_any _ _ ht).mono ?_; rintro e w2 ⟨rfl, rfl⟩; rw [hT]))
  clear hd hT
  go_loopw [7, 8, 22] (fun o l i wr => ∃ k : Nat, k ≤ ss.length ∧ i = .int .i64 k ∧ (k = 0 → o = .slice none 0 0 ∧ l = .int .i64 0) ∧ (0 < k → RowS w.heap.size wr o (nst ss t k) ∧ l = .int .i64 (lst ss t k : Nat)) ∧ Ext w wr) (fun _ _ i _ => ss.length - (intOf i).toNat)
  case atStart => exact ⟨0, Nat.zero_le _, rfl, fun _ => ⟨rfl, rfl⟩, fun h => absurd h (by omega), x1⟩
  case round =>
    obtain ⟨k, hk, rfl, hz, hp, hx⟩ := hrel
    have HZ := Lib.hid hz
    have HP := Lib.hid hp
    clear hz hp
    have hll := lst_le ss t k
    have hnl := nst_len ss t k
    by_cases hlt : k < ss.length
    · rcases (HS.out.ext hx).2.2 with ⟨h3, _⟩ | ⟨b, off, cap', h4, hb, hc⟩
      · rw [h3] at hlt; exact absurd hlt (by simp)
      have ha : a = some ⟨b, off, none⟩ := by injection h4
      have e1 := hc k hlt
      have hz10 := wdW_size (dicB_mem HD.out ss[k] (List.getElem_mem hlt))
      subst ha
      clear hc h4 hb
      have HNP := Lib.hid (fun h0 : 0 < k => nst_pos HD.out h20 k h0 hk)
      obtain ⟨s, hs⟩ : ∃ s, s = ss[k]'hlt := ⟨_, rfl⟩
      have HSK := Lib.hid hs
      have HSY := Lib.hid (dst_symm t s)
      rw [← hs] at e1 hz10
      have HDM := Lib.hid (dst_max (a := s) (b := t) (by omega) h20)
      clear hs
      obtain ⟨D, hD⟩ : ∃ D, D = dst s t := ⟨_, rfl⟩
      have HDD := Lib.hid hD
      have hD20 : D ≤ 20 := by rw [hD]; exact HDM.out
      rw [← hD] at HSY
      clear hD
      by_cases h0 : k = 0
      · obtain ⟨rfl, rfl⟩ := HZ.out h0
        have HN := Lib.hid (show RowS w.heap.size w (.slice none 0 0) [] from RowS.nil _ _)
        have HNX := Lib.hid (show nst ss t (k + 1) = [s] ∧ lst ss t (k + 1) = D by
          subst h0
          rw [HDD.out, HSK.out]
          by_cases hl : dst ss[0] t < 20
          · exact nst_less hlt (by rw [lst]; exact hl)
          · have e : dst ss[0] t = lst ss t 0 := by rw [lst]; have h9 : dst (ss[0]'hlt) t ≤ 20 := (by have := HDM.out; rw [HSK.out] at this; exact this); omega
            have := nst_same hlt e
            refine ⟨by rw [this.1]; rfl, by rw [this.2, e]⟩)
        clear HZ HP HNP h0
        go_wp2_with (first | (go_at_call 51; refine (far_anyB t s _ h20 (by omega)).mono ?_; rintro e w4 ⟨rfl, x4⟩; rw [HSY.out]) | (at_builtin; refine app_str rfl _ _ rfl w w.heap.size _ _ [] s rfl (by exact RowS.nil _ _) (by exact hx.trans x4) (Nat.le_refl _) (hx.trans x4).size (by simp) rfl ?_; intro v5 w5 r5 x5 _; have R5 := Lib.hid r5; clear r5))
        go_roundw
        case rel => exact ⟨k + 1, by omega, by go_num, fun h => absurd h (by omega), fun _ => ⟨by rw [HNX.out.1]; exact R5.out, by rw [HNX.out.2]⟩, x5⟩
        case measure => simp [intOf] <;> omega
      · have h0p : 0 < k := by omega
        obtain ⟨hr, rfl⟩ := HP.out h0p
        have HR := Lib.hid hr
        have hpos := HNP.out h0p
        obtain ⟨a2, cap2, rfl⟩ := hr.shape
        clear hr HP HZ HNP
        obtain ⟨L, hL⟩ : ∃ L, L = lst ss t k := ⟨_, rfl⟩
        have HLL := Lib.hid hL
        rw [← hL] at hll ⊢
        clear hL
        obtain ⟨q, hq⟩ : ∃ q, q = (nst ss t k).length := ⟨_, rfl⟩
        have HQ := Lib.hid hq
        rw [← hq] at hpos hnl ⊢
        have HR2 := Lib.hid (show RowS w.heap.size wr (.slice a2 q cap2) (nst ss t k) by rw [hq]; exact HR.out)
        clear hq HR
        have hqn : ¬ (q : Int) = 0 := by omega
        have hqb : ((q : Int) == 0) = false := beq_eq_false_iff_ne.2 hqn
        rcases Nat.lt_trichotomy D L with hc | hc | hc
        · have HNX := Lib.hid (nst_less hlt (show dst ss[k] t < lst ss t k by rw [← HSK.out, ← HDD.out, ← HLL.out]; exact hc))
          have hci : (D : Int) < (L : Int) := by omega
          have hcd : decide ((D : Int) < (L : Int)) = true := decide_eq_true hci
          go_wp2_with (first | (go_at_call 51; refine (far_anyB t s _ h20 (by omega)).mono ?_; rintro e w4 ⟨rfl, x4⟩; rw [HSY.out]) | (at_builtin; refine app_str rfl _ _ rfl w w.heap.size _ _ [] s rfl (by exact RowS.nil _ _) (by exact hx.trans x4) (Nat.le_refl _) (hx.trans x4).size (by simp) rfl ?_; intro v5 w5 r5 x5 _; have R5 := Lib.hid r5; clear r5))
          go_roundw
          case rel => exact ⟨k + 1, by omega, by go_num, fun h => absurd h (by omega), fun _ => ⟨by rw [HNX.out.1, ← HSK.out]; exact R5.out, by rw [HNX.out.2, ← HSK.out, ← HDD.out]⟩, x5⟩
          case measure => simp [intOf] <;> omega
        · subst hc
          have HNX := Lib.hid (nst_same hlt (show dst ss[k] t = lst ss t k by rw [← HSK.out, ← HDD.out, ← HLL.out]))
          have hci : ¬ (D : Int) < (D : Int) := by omega
          go_wp2_with (first | (go_at_call 51; refine (far_anyB t s _ h20 (by omega)).mono ?_; rintro e w4 ⟨rfl, x4⟩; rw [HSY.out]) | (at_builtin; refine app_str rfl _ _ rfl w w.heap.size _ _ (nst ss t k) s rfl (by exact HR2.out.ext x4) (by exact hx.trans x4) (Nat.le_refl _) (hx.trans x4).size (by have := HQ.out; omega) rfl ?_; intro v5 w5 r5 x5 _; have R5 := Lib.hid r5; clear r5))
          go_roundw
          case rel => exact ⟨k + 1, by omega, by go_num, fun h => absurd h (by omega), fun _ => ⟨by rw [HNX.out.1, ← HSK.out]; exact R5.out, by rw [HNX.out.2, ← HLL.out]⟩, x5⟩
          case measure => simp [intOf] <;> omega
        · have HNX := Lib.hid (nst_more hlt (show lst ss t k < dst ss[k] t by rw [← HSK.out, ← HDD.out, ← HLL.out]; exact hc))
          have hci : ¬ (D : Int) < (L : Int) := by omega
          have hce : ¬ (D : Int) = (L : Int) := by omega
          have hcb : ((D : Int) == (L : Int)) = false := beq_eq_false_iff_ne.2 hce
          go_wp2_with (go_at_call 51; refine (far_anyB t s _ h20 (by omega)).mono ?_; rintro e w4 ⟨rfl, x4⟩; rw [HSY.out])
          go_roundw
          case rel => exact ⟨k + 1, by omega, by go_num, fun h => absurd h (by omega), fun _ => ⟨by rw [HNX.out.1]; exact HR2.out.ext x4, by rw [HNX.out.2, ← HLL.out]⟩, hx.trans x4⟩
          case measure => simp [intOf] <;> omega
    · obtain rfl : k = ss.length := by omega
      obtain ⟨hr, rfl⟩ := HP.out (by omega)
      have HR := Lib.hid hr
      clear hr
      go_wp2
      go_ret3
      exact ⟨_, ret_vib (nD_yes H.out).symm H.out.symm, by rw [nV_yes H.out]; exact HR.out, hx⟩
end Go.Proofs.Ytnoidabmbckfkab
