/- Dictionaries: the program's test of them and its model's answer alike: both are the plain function 'dicB'. No conditions. -/
import Derived.Test.YtnoidabmbckfkabStrs
namespace Go.Proofs.Ytnoidabmbckfkab
open Go.RowKit

def lessB (a b : ByteArray) : Bool := Op.bytesLess a.toList b.toList
/-- A word of few letters. -/
def wdW (s : ByteArray) : Bool := isW s && decide (s.size ≤ 10)
/-- The text at a place is a word of few letters behind the one ahead of it. -/
def okAt (ss : List ByteArray) (i : Nat) : Bool := wdW (ss.getD i ⟨#[]⟩) && (i == 0 || lessB (ss.getD (i - 1) ⟨#[]⟩) (ss.getD i ⟨#[]⟩))
def dicB (ss : List ByteArray) : Bool := decide (1 ≤ ss.length) && decide (ss.length ≤ 12) && (List.range ss.length).all (okAt ss)

theorem okAt_eq (ss : List ByteArray) (k : Nat) (h : k < ss.length) (h0 : 0 < k) : okAt ss k = (wdW ss[k] && lessB (ss[k - 1]'(by omega)) ss[k]) := by
  have e1 : ss.getD k ⟨#[]⟩ = ss[k] := by rw [List.getD_eq_getElem?_getD, List.getElem?_eq_getElem h]; rfl
  have e2 : ss.getD (k - 1) ⟨#[]⟩ = ss[k - 1]'(by omega) := by rw [List.getD_eq_getElem?_getD, List.getElem?_eq_getElem (by omega)]; rfl
  have e3 : (k == 0) = false := by simp; omega
  unfold okAt
  rw [e1, e2, e3, Bool.false_or]
theorem okAt_zero (ss : List ByteArray) (h : 0 < ss.length) : okAt ss 0 = wdW ss[0] := by
  have e1 : ss.getD 0 ⟨#[]⟩ = ss[0] := by rw [List.getD_eq_getElem?_getD, List.getElem?_eq_getElem h]; rfl
  unfold okAt
  rw [e1]; simp
theorem okAt_word (ss : List ByteArray) (k : Nat) (h : k < ss.length) (hw : wdW ss[k] = false) : okAt ss k = false := by
  have e1 : ss.getD k ⟨#[]⟩ = ss[k] := by rw [List.getD_eq_getElem?_getD, List.getElem?_eq_getElem h]; rfl
  unfold okAt
  rw [e1, hw]; rfl
theorem dicB_short {ss : List ByteArray} (h : ss.length < 1) : dicB ss = false := by
  unfold dicB
  rw [decide_eq_false (by omega : ¬ 1 ≤ ss.length)]; rfl
theorem dicB_long {ss : List ByteArray} (h : 12 < ss.length) : dicB ss = false := by
  unfold dicB
  rw [decide_eq_false (by omega : ¬ ss.length ≤ 12), Bool.and_false]; rfl
theorem dicB_no {ss : List ByteArray} (k : Nat) (h : k < ss.length) (hk : okAt ss k = false) : dicB ss = false := by
  have : (List.range ss.length).all (okAt ss) = false := by
    rw [List.all_eq_false]
    exact ⟨k, List.mem_range.2 h, by simp [hk]⟩
  unfold dicB
  rw [this, Bool.and_false]
theorem dicB_yes {ss : List ByteArray} (h1 : 1 ≤ ss.length) (h2 : ss.length ≤ 12) (h : ∀ j, j < ss.length → okAt ss j = true) : dicB ss = true := by
  have : (List.range ss.length).all (okAt ss) = true := by
    rw [List.all_eq_true]
    exact fun j hj => h j (List.mem_range.1 hj)
  unfold dicB
  rw [this, decide_eq_true h1, decide_eq_true h2]; rfl
theorem dicB_len {ss : List ByteArray} (h : dicB ss = true) : 1 ≤ ss.length ∧ ss.length ≤ 12 := by
  unfold dicB at h
  simp only [Bool.and_eq_true, decide_eq_true_eq] at h
  exact h.1
theorem dicB_at {ss : List ByteArray} (h : dicB ss = true) (k : Nat) (hk : k < ss.length) : wdW ss[k] = true := by
  unfold dicB at h
  simp only [Bool.and_eq_true, List.all_eq_true, List.mem_range] at h
  have h2 := h.2 k hk
  cases hw : wdW ss[k]
  · rw [okAt_word ss k hk hw] at h2; exact h2
  · rfl
theorem dicB_mem {ss : List ByteArray} (h : dicB ss = true) (s : ByteArray) (hs : s ∈ ss) : wdW s = true := by
  obtain ⟨k, hk, rfl⟩ := List.mem_iff_getElem.1 hs
  exact dicB_at h k hk
theorem wdW_isW {s : ByteArray} (h : wdW s = true) : isW s = true := by unfold wdW at h; simp only [Bool.and_eq_true] at h; exact h.1
theorem wdW_size {s : ByteArray} (h : wdW s = true) : s.size ≤ 10 := by unfold wdW at h; simp only [Bool.and_eq_true, decide_eq_true_eq] at h; exact h.2
theorem wdW_no1 {s : ByteArray} (h : isW s = false) : wdW s = false := by unfold wdW; rw [h]; rfl
theorem wdW_no2 {s : ByteArray} (h : 10 < s.size) : wdW s = false := by unfold wdW; rw [decide_eq_false (by omega : ¬ s.size ≤ 10), Bool.and_false]
theorem wdW_yes {s : ByteArray} (h : isW s = true) (h2 : s.size ≤ 10) : wdW s = true := by unfold wdW; rw [h, decide_eq_true h2]; rfl

theorem isListed_any (s : ByteArray) (w : World) (hs : s.size ≤ maxLen) : Calls Try.prog 87 #[.string s] w fun e w' => e = .returned (.bool (wdW s)) ∧ w = w' := by
  unfold maxLen at hs
  cases hw : isW s
  · have H := Lib.hid (wdW_no1 hw)
    go_enter Try.func87, Try.ntmps87
    go_wp2_with (go_at_call 109; refine (isW_any _ _ hs).mono ?_; rintro e w' ⟨rfl, rfl⟩)
    go_ret
    exact ⟨ret_bool H.out.symm, rfl⟩
  by_cases h2 : s.size ≤ 10
  · have H := Lib.hid (wdW_yes hw h2)
    go_enter Try.func87, Try.ntmps87
    go_wp2_with (go_at_call 109; refine (isW_any _ _ hs).mono ?_; rintro e w' ⟨rfl, rfl⟩)
    go_ret
    exact ⟨ret_bool (by rw [H.out]; exact decide_eq_true (by omega)), rfl⟩
  · have H := Lib.hid (wdW_no2 (s := s) (by omega))
    go_enter Try.func87, Try.ntmps87
    go_wp2_with (go_at_call 109; refine (isW_any _ _ hs).mono ?_; rintro e w' ⟨rfl, rfl⟩)
    go_ret
    exact ⟨ret_bool (by rw [H.out]; exact decide_eq_false (by omega)), rfl⟩

set_option maxHeartbeats 1000000 in
theorem dict_any (v : Value) (ss : List ByteArray) (w : World) (h : Strs w v ss) : Calls Try.prog 52 #[v] w fun e w' => e = .returned (.bool (dicB ss)) ∧ Ext w w' := by
  have hl := h.1
  unfold maxLen at hl
  have HM := Lib.hid h.2.1
  have HS := Lib.hid h
  obtain ⟨a, cap, hv, hnil⟩ := h.at
  rw [hv] at HS ⊢
  clear hv hnil h v
  by_cases h1 : ss.length < 1
  · have H := Lib.hid (dicB_short h1)
    go_enter Try.func52, Try.ntmps52
    go_wp2
    go_ret
    exact ⟨ret_bool H.out.symm, Ext.refl _⟩
  by_cases h2 : 12 < ss.length
  · have H := Lib.hid (dicB_long h2)
    go_enter Try.func52, Try.ntmps52
    go_wp2
    go_ret
    exact ⟨ret_bool H.out.symm, Ext.refl _⟩
  go_enter Try.func52, Try.ntmps52
  go_wp2
  go_loopw [15] (fun i wr => ∃ k : Nat, k ≤ ss.length ∧ i = .int .i64 k ∧ (∀ j, j < k → okAt ss j = true) ∧ Ext w wr) (fun i _ => ss.length - (intOf i).toNat)
  case atStart => exact ⟨0, Nat.zero_le _, rfl, fun j h => absurd h (Nat.not_lt_zero _), Ext.refl _⟩
  case round =>
    obtain ⟨k, hk, rfl, hall, hx⟩ := hrel
    have HA := Lib.hid hall
    clear hall
    by_cases hlt : k < ss.length
    · rcases (HS.out.ext hx).2.2 with ⟨h3, _⟩ | ⟨b, off, cap', h4, hb, hc⟩
      · rw [h3] at hlt; exact absurd hlt (by simp)
      have ha : a = some ⟨b, off, none⟩ := by injection h4
      have e1 := hc k hlt
      have hz := HM.out ss[k] (List.getElem_mem hlt)
      rw [ha]
      have HC := Lib.hid hc
      clear hc h4 ha hb
      cases hW : wdW ss[k]
      · have H := Lib.hid (dicB_no k hlt (okAt_word ss k hlt hW))
        go_wp2_with (go_at_call 87; refine (isListed_any _ _ hz).mono ?_; rintro e w' ⟨rfl, rfl⟩)
        go_ret
        exact ⟨ret_bool H.out.symm, hx⟩
      by_cases h0 : k = 0
      · subst h0
        rw [Nat.add_zero] at e1
        have HK := Lib.hid (show okAt ss 0 = true by rw [okAt_zero ss hlt]; exact hW)
        go_wp2_with (go_at_call 87; refine (isListed_any _ _ hz).mono ?_; rintro e w' ⟨rfl, rfl⟩)
        go_roundw
        case rel => exact ⟨1, by omega, by go_num, fun j hj => (show j = 0 by omega) ▸ HK.out, hx⟩
        case measure => simp [intOf]; omega
      have hlt1 : k - 1 < ss.length := by omega
      have e2 := HC.out (k - 1) hlt1
      have hc1 : ((k : Int) - 1) = ((k - 1 : Nat) : Int) := by omega
      cases hL : lessB ss[k - 1] ss[k]
      · have t1 : Op.bytesLess ss[k - 1].toList ss[k].toList = false := hL
        have H := Lib.hid (dicB_no k hlt (by rw [okAt_eq ss k hlt (by omega), hL, Bool.and_false]))
        go_wp2_with (go_at_call 87; refine (isListed_any _ _ hz).mono ?_; rintro e w' ⟨rfl, rfl⟩)
        go_ret
        exact ⟨ret_bool H.out.symm, hx⟩
      · have t1 : Op.bytesLess ss[k - 1].toList ss[k].toList = true := hL
        have HK := Lib.hid (show okAt ss k = true by rw [okAt_eq ss k hlt (by omega), hL, hW]; rfl)
        go_wp2_with (go_at_call 87; refine (isListed_any _ _ hz).mono ?_; rintro e w' ⟨rfl, rfl⟩)
        go_roundw
        case rel =>
          refine ⟨k + 1, by omega, by go_num, fun j hj => ?_, hx⟩
          by_cases e : j = k
          · subst e; exact HK.out
          · exact HA.out j (by omega)
        case measure => simp [intOf]; omega
    · have H := Lib.hid (dicB_yes (ss := ss) (by omega) (by omega) (fun j hj => HA.out j (by omega)))
      go_wp2
      go_ret
      exact ⟨ret_bool H.out.symm, hx⟩

theorem wdWord_any (s : ByteArray) (w : World) (hs : s.size ≤ maxLen) : Calls Try.prog 85 #[.string s] w fun e w' => e = .returned (.bool (wdW s)) ∧ w = w' := by
  unfold maxLen at hs
  cases hw : isW s
  · have H := Lib.hid (wdW_no1 hw)
    go_enter Try.func85, Try.ntmps85
    go_wp2_with (go_at_call 108; refine (prW_any _ _ hs).mono ?_; rintro e w' ⟨rfl, rfl⟩)
    go_ret
    exact ⟨ret_bool H.out.symm, rfl⟩
  by_cases h2 : s.size ≤ 10
  · have H := Lib.hid (wdW_yes hw h2)
    go_enter Try.func85, Try.ntmps85
    go_wp2_with (go_at_call 108; refine (prW_any _ _ hs).mono ?_; rintro e w' ⟨rfl, rfl⟩)
    go_ret
    exact ⟨ret_bool (by rw [H.out]; exact decide_eq_true (by omega)), rfl⟩
  · have H := Lib.hid (wdW_no2 (s := s) (by omega))
    go_enter Try.func85, Try.ntmps85
    go_wp2_with (go_at_call 108; refine (prW_any _ _ hs).mono ?_; rintro e w' ⟨rfl, rfl⟩)
    go_ret
    exact ⟨ret_bool (by rw [H.out]; exact decide_eq_false (by omega)), rfl⟩

set_option maxHeartbeats 1000000 in
theorem wdGood_any (v : Value) (ss : List ByteArray) (w : World) (h : Strs w v ss) : Calls Try.prog 49 #[v] w fun e w' => e = .returned (.bool (dicB ss)) ∧ Ext w w' := by
  have hl := h.1
  unfold maxLen at hl
  have HM := Lib.hid h.2.1
  have HS := Lib.hid h
  obtain ⟨a, cap, hv, hnil⟩ := h.at
  rw [hv] at HS ⊢
  clear hv hnil h v
  by_cases h1 : inB ss.length 1 12 = false
  · have H := Lib.hid (show dicB ss = false by
      by_cases h3 : ss.length < 1
      · exact dicB_short h3
      · exact dicB_long (by unfold inB at h1; simp at h1; omega))
    go_enter Try.func49, Try.ntmps49
    go_wp2_with (go_at_call 57; refine (in_any _ _ _ _).mono ?_; rintro e w' ⟨rfl, rfl⟩)
    go_ret
    exact ⟨ret_bool H.out.symm, Ext.refl _⟩
  replace h1 : inB ss.length 1 12 = true := by simpa using h1
  have hbb : 1 ≤ ss.length ∧ ss.length ≤ 12 := by unfold inB at h1; simp at h1; omega
  obtain ⟨hb1, hb2⟩ := hbb
  go_enter Try.func49, Try.ntmps49
  go_wp2_with (go_at_call 57; refine (in_any _ _ _ _).mono ?_; rintro e w' ⟨rfl, rfl⟩)
  clear h1
  go_loopw [11] (fun i wr => ∃ k : Nat, k ≤ ss.length ∧ i = .int .i64 k ∧ (∀ j, j < k → okAt ss j = true) ∧ Ext w wr) (fun i _ => ss.length - (intOf i).toNat)
  case atStart => exact ⟨0, Nat.zero_le _, rfl, fun j h => absurd h (Nat.not_lt_zero _), Ext.refl _⟩
  case round =>
    obtain ⟨k, hk, rfl, hall, hx⟩ := hrel
    have HA := Lib.hid hall
    clear hall
    by_cases hlt : k < ss.length
    · rcases (HS.out.ext hx).2.2 with ⟨h3, _⟩ | ⟨b, off, cap', h4, hb, hc⟩
      · rw [h3] at hlt; exact absurd hlt (by simp)
      have ha : a = some ⟨b, off, none⟩ := by injection h4
      have e1 := hc k hlt
      have hz := HM.out ss[k] (List.getElem_mem hlt)
      rw [ha]
      have HC := Lib.hid hc
      clear hc h4 ha hb
      cases hW : wdW ss[k]
      · have H := Lib.hid (dicB_no k hlt (okAt_word ss k hlt hW))
        go_wp2_with (go_at_call 85; refine (wdWord_any _ _ hz).mono ?_; rintro e w' ⟨rfl, rfl⟩)
        go_ret
        exact ⟨ret_bool H.out.symm, hx⟩
      by_cases h0 : k = 0
      · subst h0
        rw [Nat.add_zero] at e1
        have HK := Lib.hid (show okAt ss 0 = true by rw [okAt_zero ss hlt]; exact hW)
        go_wp2_with (go_at_call 85; refine (wdWord_any _ _ hz).mono ?_; rintro e w' ⟨rfl, rfl⟩)
        go_roundw
        case rel => exact ⟨1, by omega, by go_num, fun j hj => (show j = 0 by omega) ▸ HK.out, hx⟩
        case measure => simp [intOf]; omega
      have hlt1 : k - 1 < ss.length := by omega
      have e2 := HC.out (k - 1) hlt1
      have hc1 : ((k : Int) - 1) = ((k - 1 : Nat) : Int) := by omega
      cases hL : lessB ss[k - 1] ss[k]
      · have t1 : Op.bytesLess ss[k - 1].toList ss[k].toList = false := hL
        have H := Lib.hid (dicB_no k hlt (by rw [okAt_eq ss k hlt (by omega), hL, Bool.and_false]))
        go_wp2_with (go_at_call 85; refine (wdWord_any _ _ hz).mono ?_; rintro e w' ⟨rfl, rfl⟩)
        go_ret
        exact ⟨ret_bool H.out.symm, hx⟩
      · have t1 : Op.bytesLess ss[k - 1].toList ss[k].toList = true := hL
        have HK := Lib.hid (show okAt ss k = true by rw [okAt_eq ss k hlt (by omega), hL, hW]; rfl)
        go_wp2_with (go_at_call 85; refine (wdWord_any _ _ hz).mono ?_; rintro e w' ⟨rfl, rfl⟩)
        go_roundw
        case rel =>
          refine ⟨k + 1, by omega, by go_num, fun j hj => ?_, hx⟩
          by_cases e : j = k
          · subst e; exact HK.out
          · exact HA.out j (by omega)
        case measure => simp [intOf]; omega
    · have H := Lib.hid (dicB_yes (ss := ss) (by omega) (by omega) (fun j hj => HA.out j (by omega)))
      go_wp2
      go_ret
      exact ⟨ret_bool H.out.symm, hx⟩

end Go.Proofs.Ytnoidabmbckfkab
