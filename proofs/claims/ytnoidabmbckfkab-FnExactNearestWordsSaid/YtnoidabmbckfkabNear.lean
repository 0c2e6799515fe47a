/- Words of a dictionary near to a text: the program's way and its model's. No conditions. -/
import Derived.Test.YtnoidabmbckfkabDist
import Derived.Test.YtnoidabmbckfkabDict
import Derived.Test.YtnoidabmbckfkabSwaps
namespace Go.Proofs.Ytnoidabmbckfkab
open Go.RowKit

theorem lev_symm (n : Nat) : ∀ a b : List UInt8, a.length + b.length ≤ n → lev a b = lev b a := by
  induction n with
  | zero =>
    intro a b h
    obtain rfl : a = [] := List.length_eq_zero_iff.1 (by omega)
    obtain rfl : b = [] := List.length_eq_zero_iff.1 (by omega)
    rfl
  | succ n ih =>
    intro a b h
    cases a with
    | nil => rw [lev_nil, lev_nil2]
    | cons x a =>
      cases b with
      | nil => rw [lev_nil, lev_nil2]
      | cons y b =>
        simp only [List.length_cons] at h
        by_cases e : x = y
        · subst e
          rw [lev_same, lev_same]
          exact ih a b (by omega)
        · rw [lev_other e, lev_other (fun h => e h.symm), ih a (y :: b) (by simp only [List.length_cons]; omega), ih (x :: a) b (by simp only [List.length_cons]; omega), ih a b (by omega)]
          omega
theorem dst_symm (a b : ByteArray) : dst a b = dst b a := lev_symm _ _ _ (Nat.le_refl _)
theorem dst_max {a b : ByteArray} (ha : a.size ≤ 20) (hb : b.size ≤ 20) : dst a b ≤ 20 := by
  have := lv_max a b 0 0
  unfold dst
  omega
/-- The words at most so far, of the first so many. -/
def win (ss : List ByteArray) (t : ByteArray) (f : Int) (k : Nat) : List ByteArray := (ss.take k).filter fun s => decide ((dst s t : Int) ≤ f)
theorem win_len (ss : List ByteArray) (t : ByteArray) (f : Int) (k : Nat) : (win ss t f k).length ≤ ss.length := by
  unfold win
  have := List.length_filter_le (fun s => decide ((dst s t : Int) ≤ f)) (ss.take k)
  rw [List.length_take] at this
  omega
theorem win_yes {ss : List ByteArray} {t : ByteArray} {f : Int} {k : Nat} (h : k < ss.length) (hf : (dst ss[k] t : Int) ≤ f) : win ss t f (k + 1) = win ss t f k ++ [ss[k]] := by
  unfold win
  rw [List.take_succ_eq_append_getElem h, List.filter_append]
  simp [hf]
theorem win_no {ss : List ByteArray} {t : ByteArray} {f : Int} {k : Nat} (h : k < ss.length) (hf : ¬ (dst ss[k] t : Int) ≤ f) : win ss t f (k + 1) = win ss t f k := by
  unfold win
  rw [List.take_succ_eq_append_getElem h, List.filter_append]
  simp [hf]
theorem win_mem {ss : List ByteArray} {t : ByteArray} {f : Int} {k : Nat} {s : ByteArray} (h : s ∈ win ss t f k) : s ∈ ss := List.mem_of_mem_take (List.mem_filter.1 h).1
theorem win_all (ss : List ByteArray) (t : ByteArray) (f : Int) (k : Nat) (h : ss.length ≤ k) : win ss t f k = win ss t f ss.length := by
  unfold win
  rw [List.take_of_length_le h, List.take_length]

def ResW (ts : List ByteArray) (w : World) (e : Ending) (w' : World) : Prop := ∃ v, e = .returned v ∧ RowS w.heap.size w' v ts ∧ Ext w w'

set_option maxRecDepth 100000 in
set_option maxHeartbeats 4000000 in
theorem within_any (v : Value) (ss : List ByteArray) (t : ByteArray) (f : Int) (w : World) (h : Strs w v ss) (hd : dicB ss = true) (ht : t.size ≤ 20) : Calls Try.prog 55 #[v, .string t, .int .i64 f] w (ResW (win ss t f ss.length) w) := by
  have HS := Lib.hid h
  have HD := Lib.hid hd
  have hlen := (dicB_len hd).2
  obtain ⟨a, cap, hv, _⟩ := h.at
  rw [hv] at HS ⊢
  clear hv h v hd
  go_enter Try.func55, Try.ntmps55
  go_wp2
  go_loopw [7, 12] (fun o i wr => ∃ k : Nat, k ≤ ss.length ∧ i = .int .i64 k ∧ RowS w.heap.size wr o (win ss t f k) ∧ Ext w wr) (fun _ i _ => ss.length - (intOf i).toNat)
  case atStart => exact ⟨0, Nat.zero_le _, rfl, RowS.nil _ _, Ext.refl _⟩
  case round =>
    obtain ⟨k, hk, rfl, hr, hx⟩ := hrel
    have HR := Lib.hid hr
    clear hr
    have hwl := win_len ss t f k
    by_cases hlt : k < ss.length
    · rcases (HS.out.ext hx).2.2 with ⟨h3, _⟩ | ⟨b, off, cap', h4, hb, hc⟩
      · rw [h3] at hlt; exact absurd hlt (by simp)
      have ha : a = some ⟨b, off, none⟩ := by injection h4
      have e1 := hc k hlt
      have hz10 := wdW_size (dicB_mem HD.out ss[k] (List.getElem_mem hlt))
      subst ha
      clear hc h4 hb
      obtain ⟨s, hs⟩ : ∃ s, s = ss[k] := ⟨_, rfl⟩
      have HSK := Lib.hid hs
      rw [← hs] at e1 hz10
      clear hs
      have i0 := ixT_zero (tA s t)
      have i1 := ixT_row (tA s t) 0
      have HT := Lib.hid (tA_zero s t)
      obtain ⟨TT, hTT⟩ : ∃ TT, TT = (tabT (tA s t)).toArray := ⟨_, rfl⟩
      obtain ⟨RR, hRR⟩ : ∃ RR, RR = (rowT (tA s t) 0).toArray := ⟨_, rfl⟩
      have HTT := Lib.hid hTT
      rw [← hTT, ← hRR] at i0
      rw [← hRR, HT.out] at i1
      clear hTT hRR
      by_cases hf : (dst s t : Int) ≤ f
      · have HN := Lib.hid (win_yes (t := t) (f := f) hlt (by rw [← HSK.out]; exact hf))
        have hfd : decide ((dst s t : Int) ≤ f) = true := decide_eq_true hf
        go_wp2_with (first | (go_at_call 54; refine (typos_any s t _ (by omega) ht).mono ?_; rintro e w2 ⟨rfl, x2⟩; rw [← HTT.out]) | (at_builtin; refine app_str rfl _ _ rfl w w.heap.size _ _ _ s rfl (by exact HR.out.ext x2) (by exact hx.trans x2) (Nat.le_refl _) (hx.trans x2).size (by omega) rfl ?_; intro v5 w5 r5 x5 _; have R5 := Lib.hid r5; clear r5))
        go_roundw
        case rel => exact ⟨k + 1, by omega, by go_num, by rw [HN.out, ← HSK.out]; exact R5.out, x5⟩
        case measure => simp [intOf] <;> omega
      · have HN := Lib.hid (win_no (t := t) (f := f) hlt (by rw [← HSK.out]; exact hf))
        have hfd : decide ((dst s t : Int) ≤ f) = false := decide_eq_false hf
        go_wp2_with (go_at_call 54; refine (typos_any s t _ (by omega) ht).mono ?_; rintro e w2 ⟨rfl, x2⟩; rw [← HTT.out])
        go_roundw
        case rel => exact ⟨k + 1, by omega, by go_num, by rw [HN.out]; exact HR.out.ext x2, hx.trans x2⟩
        case measure => simp [intOf] <;> omega
    · obtain rfl : k = ss.length := by omega
      go_wp2
      go_ret
      exact ⟨_, rfl, HR.out, hx⟩

def wOk (ss : List ByteArray) (t : ByteArray) (f : Int) : Bool := dicB ss && (isT 20 t && inB f 0 20)
def wV (ss : List ByteArray) (t : ByteArray) (f : Int) : List ByteArray := if wOk ss t f then win ss t f ss.length else []
theorem wV_no {ss : List ByteArray} {t : ByteArray} {f : Int} (h : wOk ss t f = false) : wV ss t f = [] := by unfold wV; rw [h]; rfl
theorem wV_yes {ss : List ByteArray} {t : ByteArray} {f : Int} (h : wOk ss t f = true) : wV ss t f = win ss t f ss.length := by unfold wV; rw [h]; rfl
theorem wOk_d {ss : List ByteArray} {t : ByteArray} {f : Int} (h : dicB ss = false) : wOk ss t f = false := by unfold wOk; rw [h]; rfl
theorem wOk_t {ss : List ByteArray} {t : ByteArray} {f : Int} (h : isT 20 t = false) : wOk ss t f = false := by unfold wOk; rw [h]; simp
theorem wOk_f {ss : List ByteArray} {t : ByteArray} {f : Int} (h : inB f 0 20 = false) : wOk ss t f = false := by unfold wOk; rw [h]; simp
theorem wOk_y {ss : List ByteArray} {t : ByteArray} {f : Int} (h : dicB ss = true) (h2 : isT 20 t = true) (h3 : inB f 0 20 = true) : wOk ss t f = true := by unfold wOk; rw [h, h2, h3]; rfl
theorem wV_len (ss : List ByteArray) (t : ByteArray) (f : Int) : (wV ss t f).length ≤ 1048576 := by
  cases h : wOk ss t f
  · rw [wV_no h]; simp
  · rw [wV_yes h]
    have := win_len ss t f ss.length
    have hd : dicB ss = true := by unfold wOk at h; simp only [Bool.and_eq_true] at h; exact h.1
    have := (dicB_len hd).2
    omega
theorem wV_mem (ss : List ByteArray) (t : ByteArray) (f : Int) : ∀ s ∈ wV ss t f, s.size ≤ maxLen := by
  intro s hs
  cases h : wOk ss t f
  · rw [wV_no h] at hs; cases hs
  · rw [wV_yes h] at hs
    have hd : dicB ss = true := by unfold wOk at h; simp only [Bool.and_eq_true] at h; exact h.1
    have := wdW_size (dicB_mem hd s (win_mem hs))
    unfold maxLen
    omega
theorem inB_no {f : Int} (h : inB f 0 20 = false) : f < 0 ∨ 20 < f := by
  unfold inB at h
  by_cases h1 : f < 0
  · exact .inl h1
  · refine .inr ?_
    rw [decide_eq_true (by omega : 0 ≤ f), Bool.true_and] at h
    have := of_decide_eq_false h
    omega
theorem inB_yes {f : Int} (h : inB f 0 20 = true) : 0 ≤ f ∧ f ≤ 20 := by
  unfold inB at h
  simp only [Bool.and_eq_true, decide_eq_true_eq] at h
  exact h

set_option maxRecDepth 100000 in
set_option maxHeartbeats 4000000 in
theorem wwI_any (v : Value) (ss : List ByteArray) (t : ByteArray) (f : Int) (w : World) (h : Strs w v ss) (ht : t.size ≤ maxLen) : Calls Try.prog 24 #[v, .string t, .int .i64 f] w (ResS (wV ss t f) (wOk ss t f) w) := by
  have HS := Lib.hid h
  clear h
  cases hd : dicB ss
  · have H := Lib.hid (wOk_d (t := t) (f := f) hd)
    go_enter Try.func24, Try.ntmps24
    go_wp2_with (go_at_call 52; refine (dict_any _ _ _ HS.out).mono ?_; rintro e w1 ⟨rfl, x1⟩; rw [hd])
    go_ret2
    exact ⟨_, ret_vb H.out.symm, by rw [wV_no H.out]; exact RowS.nil _ _, x1⟩
  cases hT : isT 20 t
  · have H := Lib.hid (wOk_t (ss := ss) (f := f) hT)
    go_enter Try.func24, Try.ntmps24
    go_wp2_with (first | (go_at_call 52; refine (dict_any _ _ _ HS.out).mono ?_; rintro e w1 ⟨rfl, x1⟩; rw [hd]) | (go_at_call 53; refine (isTyped_any _ _ ht).mono ?_; rintro e w2 ⟨rfl, x2⟩; rw [hT]))
    go_ret2
    exact ⟨_, ret_vb H.out.symm, by rw [wV_no H.out]; exact RowS.nil _ _, x1.trans x2⟩
  cases hf : inB f 0 20
  · have H := Lib.hid (wOk_f (ss := ss) (t := t) hf)
    rcases inB_no hf with hf1 | hf1
    · have hf2 : decide (f < 0) = true := decide_eq_true hf1
      go_enter Try.func24, Try.ntmps24
      go_wp2_with (first | (go_at_call 52; refine (dict_any _ _ _ HS.out).mono ?_; rintro e w1 ⟨rfl, x1⟩; rw [hd]) | (go_at_call 53; refine (isTyped_any _ _ ht).mono ?_; rintro e w2 ⟨rfl, x2⟩; rw [hT]))
      go_ret2
      exact ⟨_, ret_vb H.out.symm, by rw [wV_no H.out]; exact RowS.nil _ _, x1.trans x2⟩
    · have hf2 : decide (f < 0) = false := decide_eq_false (by omega)
      have hf3 : ¬ f < 0 := by omega
      go_enter Try.func24, Try.ntmps24
      go_wp2_with (first | (go_at_call 52; refine (dict_any _ _ _ HS.out).mono ?_; rintro e w1 ⟨rfl, x1⟩; rw [hd]) | (go_at_call 53; refine (isTyped_any _ _ ht).mono ?_; rintro e w2 ⟨rfl, x2⟩; rw [hT]))
      go_ret2
      exact ⟨_, ret_vb H.out.symm, by rw [wV_no H.out]; exact RowS.nil _ _, x1.trans x2⟩
  have H := Lib.hid (wOk_y hd hT hf)
  have HD := Lib.hid hd
  have h20 := isT_size hT
  obtain ⟨hf0, hf20⟩ := inB_yes hf
  have hf3 : ¬ f < 0 := by omega
  have hf4 : ¬ 20 < f := by omega
  go_enter Try.func24, Try.ntmps24
  go_wp2_with (first | (go_at_call 52; refine (dict_any _ _ _ HS.out).mono ?_; rintro e w1 ⟨rfl, x1⟩; rw [hd]) | (go_at_call 53; refine (isTyped_any _ _ ht).mono ?_; rintro e w2 ⟨rfl, x2⟩; rw [hT]) | (go_at_call 55; refine (within_any _ _ _ _ _ (HS.out.ext (x1.trans x2)) HD.out h20).mono ?_; rintro e w3 ⟨v3, rfl, r3, x3⟩; have R3 := Lib.hid (r3.down (B' := w.heap.size) (x1.trans x2).size); clear r3))
  go_ret2
  exact ⟨_, ret_vb H.out.symm, by rw [wV_yes H.out]; exact R3.out, (x1.trans x2).trans x3⟩

set_option maxRecDepth 100000 in
set_option maxHeartbeats 4000000 in
theorem wwS_any (v : Value) (ss : List ByteArray) (t : ByteArray) (f : Int) (w : World) (h : Strs w v ss) (ht : t.size ≤ maxLen) : Calls Try.prog 23 #[v, .string t, .int .i64 f] w (ResS (wV ss t f) (wOk ss t f) w) := by
  have HS := Lib.hid h
  obtain ⟨a, cap, hv, _⟩ := h.at
  rw [hv] at HS ⊢
  clear hv h v
  cases hd : dicB ss
  · have H := Lib.hid (wOk_d (t := t) (f := f) hd)
    go_enter Try.func23, Try.ntmps23
    go_wp2_with (go_at_call 49; refine (wdGood_any _ _ _ HS.out).mono ?_; rintro e w1 ⟨rfl, x1⟩; rw [hd])
    go_ret2
    exact ⟨_, ret_vb H.out.symm, by rw [wV_no H.out]; exact RowS.nil _ _, x1⟩
  cases hT : isT 20 t
  · have H := Lib.hid (wOk_t (ss := ss) (f := f) hT)
    go_enter Try.func23, Try.ntmps23
    go_wp2_with (first | (go_at_call 49; refine (wdGood_any _ _ _ HS.out).mono ?_; rintro e w1 ⟨rfl, x1⟩; rw [hd]) | (go_at_call 50; refine (bkText_any _ _ ht).mono ?_; rintro e w2 ⟨rfl, rfl⟩; rw [hT]))
    go_ret2
    exact ⟨_, ret_vb H.out.symm, by rw [wV_no H.out]; exact RowS.nil _ _, x1⟩
  cases hf : inB f 0 20
  · have H := Lib.hid (wOk_f (ss := ss) (t := t) hf)
    go_enter Try.func23, Try.ntmps23
    go_wp2_with (first | (go_at_call 49; refine (wdGood_any _ _ _ HS.out).mono ?_; rintro e w1 ⟨rfl, x1⟩; rw [hd]) | (go_at_call 50; refine (bkText_any _ _ ht).mono ?_; rintro e w2 ⟨rfl, rfl⟩; rw [hT]) | (go_at_call 57; refine (in_any _ _ _ _).mono ?_; rintro e w3 ⟨rfl, rfl⟩; rw [hf]))
    go_ret2
    exact ⟨_, ret_vb H.out.symm, by rw [wV_no H.out]; exact RowS.nil _ _, x1⟩
  have H := Lib.hid (wOk_y hd hT hf)
  have HD := Lib.hid hd
  have h20 := isT_size hT
  have hlen := (dicB_len hd).2
  go_enter Try.func23, Try.ntmps23
  go_wp2_with (first | (go_at_call 49; refine (wdGood_any _ _ _ HS.out).mono ?_; rintro e w1 ⟨rfl, x1⟩; rw [hd]) | (go_at_call 50; refine (bkText_any _ _ ht).mono ?_; rintro e w2 ⟨rfl, rfl⟩; rw [hT]) | (go_at_call 57; refine (in_any _ _ _ _).mono ?_; rintro e w3 ⟨rfl, rfl⟩; rw [hf]))
  clear hd hT hf
  go_loopw [8, 26] (fun o i wr => ∃ k : Nat, k ≤ ss.length ∧ i = .int .i64 k ∧ RowS w.heap.size wr o (win ss t f k) ∧ Ext w wr) (fun _ i _ => ss.length - (intOf i).toNat)
  case atStart => exact ⟨0, Nat.zero_le _, rfl, RowS.nil _ _, x1⟩
  case round =>
    obtain ⟨k, hk, rfl, hr, hx⟩ := hrel
    have HR := Lib.hid hr
    clear hr
    have hwl := win_len ss t f k
    by_cases hlt : k < ss.length
    · rcases (HS.out.ext hx).2.2 with ⟨h3, _⟩ | ⟨b, off, cap', h4, hb, hc⟩
      · rw [h3] at hlt; exact absurd hlt (by simp)
      have ha : a = some ⟨b, off, none⟩ := by injection h4
      have e1 := hc k hlt
      have hz10 := wdW_size (dicB_mem HD.out ss[k] (List.getElem_mem hlt))
      subst ha
      clear hc h4 hb
      obtain ⟨s, hs⟩ : ∃ s, s = ss[k] := ⟨_, rfl⟩
      have HSK := Lib.hid hs
      rw [← hs] at e1 hz10
      clear hs
      have HSY := Lib.hid (dst_symm t s)
      by_cases hf : (dst s t : Int) ≤ f
      · have HN := Lib.hid (win_yes (t := t) (f := f) hlt (by rw [← HSK.out]; exact hf))
        have hfd : decide ((dst s t : Int) ≤ f) = true := decide_eq_true hf
        go_wp2_with (first | (go_at_call 51; refine (far_anyB t s _ h20 (by omega)).mono ?_; rintro e w2 ⟨rfl, x2⟩; rw [HSY.out]) | (at_builtin; refine app_str rfl _ _ rfl w w.heap.size _ _ _ s rfl (by exact HR.out.ext x2) (by exact hx.trans x2) (Nat.le_refl _) (hx.trans x2).size (by omega) rfl ?_; intro v5 w5 r5 x5 _; have R5 := Lib.hid r5; clear r5))
        go_roundw
        case rel => exact ⟨k + 1, by omega, by go_num, by rw [HN.out, ← HSK.out]; exact R5.out, x5⟩
        case measure => simp [intOf] <;> omega
      · have HN := Lib.hid (win_no (t := t) (f := f) hlt (by rw [← HSK.out]; exact hf))
        have hfd : decide ((dst s t : Int) ≤ f) = false := decide_eq_false hf
        go_wp2_with (go_at_call 51; refine (far_anyB t s _ h20 (by omega)).mono ?_; rintro e w2 ⟨rfl, x2⟩; rw [HSY.out])
        go_roundw
        case rel => exact ⟨k + 1, by omega, by go_num, by rw [HN.out]; exact HR.out.ext x2, hx.trans x2⟩
        case measure => simp [intOf] <;> omega
    · obtain rfl : k = ss.length := by omega
      go_wp2
      go_ret2
      exact ⟨_, ret_vb H.out.symm, by rw [wV_yes H.out]; exact HR.out, hx⟩
end Go.Proofs.Ytnoidabmbckfkab
