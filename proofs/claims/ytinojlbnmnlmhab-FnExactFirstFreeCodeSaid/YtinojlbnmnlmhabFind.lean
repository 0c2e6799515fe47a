/- Where a text stands in a list, and whether it does: the library's search, the program's look and its model's. No conditions. -/
import Derived.Test.YtinojlbnmnlmhabDict
import Derived.Lib.Strings
namespace Go.Proofs.Ytinojlbnmnlmhab
open Go.RowKit

/-- The place of the first such text, or the list's length. -/
def fx (ss : List ByteArray) (s : ByteArray) : Nat := ss.findIdx fun t => decide (t = s)
def hasS (ss : List ByteArray) (s : ByteArray) : Bool := decide (fx ss s < ss.length)
def fxI (ss : List ByteArray) (s : ByteArray) : Int := if fx ss s < ss.length then (fx ss s : Int) else -1
theorem fx_hit {ss : List ByteArray} {s : ByteArray} {k : Nat} (h : k < ss.length) (he : ss[k] = s) (hn : ∀ j (hj : j < ss.length), j < k → ¬ ss[j] = s) : fx ss s = k := by
  unfold fx
  rw [List.findIdx_eq h]
  exact ⟨by simp [he], fun j hj => by simp [hn j (by omega) hj]⟩
theorem fx_none {ss : List ByteArray} {s : ByteArray} (hn : ∀ j (hj : j < ss.length), ¬ ss[j] = s) : fx ss s = ss.length := by
  unfold fx
  rw [List.findIdx_eq_length]
  intro x hx
  obtain ⟨j, hj, rfl⟩ := List.mem_iff_getElem.1 hx
  simp [hn j hj]
theorem hasS_yes {ss : List ByteArray} {s : ByteArray} {k : Nat} (h : k < ss.length) (he : ss[k] = s) (hn : ∀ j (hj : j < ss.length), j < k → ¬ ss[j] = s) : hasS ss s = true := by
  unfold hasS; rw [fx_hit h he hn]; exact decide_eq_true h
theorem hasS_no {ss : List ByteArray} {s : ByteArray} (hn : ∀ j (hj : j < ss.length), ¬ ss[j] = s) : hasS ss s = false := by
  unfold hasS; rw [fx_none hn]; exact decide_eq_false (Nat.lt_irrefl _)
theorem fxI_yes {ss : List ByteArray} {s : ByteArray} {k : Nat} (h : k < ss.length) (he : ss[k] = s) (hn : ∀ j (hj : j < ss.length), j < k → ¬ ss[j] = s) : fxI ss s = k := by
  unfold fxI; rw [fx_hit h he hn, if_pos h]
theorem fxI_no {ss : List ByteArray} {s : ByteArray} (hn : ∀ j (hj : j < ss.length), ¬ ss[j] = s) : fxI ss s = -1 := by
  unfold fxI; rw [fx_none hn, if_neg (Nat.lt_irrefl _)]
theorem fxI_has (ss : List ByteArray) (s : ByteArray) : decide (0 ≤ fxI ss s) = hasS ss s := by
  unfold fxI hasS
  by_cases h : fx ss s < ss.length
  · rw [if_pos h, decide_eq_true h]; exact decide_eq_true (by omega)
  · rw [if_neg h, decide_eq_false h]; rfl
theorem fx_at {ss : List ByteArray} {s : ByteArray} (h : hasS ss s = true) : ∃ hl : fx ss s < ss.length, ss[fx ss s] = s := by
  unfold hasS at h
  have hl : fx ss s < ss.length := of_decide_eq_true h
  refine ⟨hl, ?_⟩
  have := List.findIdx_getElem (xs := ss) (p := fun t => decide (t = s)) (w := hl)
  exact of_decide_eq_true this
theorem ret_intF {a a' : Int} {k : IntKind} (h : a = a') : Ending.returned (.int k a) = .returned (.int k a') := by rw [h]
theorem bytesInj {a b : ByteArray} (h : a.data.toList = b.data.toList) : a = b := ByteArray.ext (Array.toList_inj.1 h)
theorem beqT (a b : ByteArray) : (a.toList == b.toList) = decide (a = b) := by
  rw [Lib.toList_data, Lib.toList_data]
  by_cases h : a = b
  · subst h; simp
  · rw [decide_eq_false h, beq_eq_false_iff_ne]; exact fun h2 => h (bytesInj h2)

set_option maxHeartbeats 1000000 in
theorem lindex_any (v : Value) (ss : List ByteArray) (s : ByteArray) (w : World) (h : Strs w v ss) : Calls Try.prog 121 #[v, .string s] w fun e w' => e = .returned (.int .i64 (fxI ss s)) ∧ Ext w w' := by
  have hl := h.1
  unfold maxLen at hl
  have HS := Lib.hid h
  obtain ⟨a, cap, hv, hnil⟩ := h.at
  rw [hv] at HS ⊢
  clear hv hnil h v
  go_enter Try.func121, Try.ntmps121
  go_wp2
  go_loopw [8] (fun i wr => ∃ k : Nat, k ≤ ss.length ∧ i = .int .i64 k ∧ (∀ j (hj : j < ss.length), j < k → ¬ ss[j] = s) ∧ Ext w wr) (fun i _ => ss.length - (intOf i).toNat)
  case atStart => exact ⟨0, Nat.zero_le _, rfl, fun j _ h => absurd h (Nat.not_lt_zero _), Ext.refl _⟩
  case round =>
    obtain ⟨k, hk, rfl, hall, hx⟩ := hrel
    have HA := Lib.hid hall
    clear hall
    by_cases hlt : k < ss.length
    · rcases (HS.out.ext hx).2.2 with ⟨h3, _⟩ | ⟨b, off, cap', h4, hb, hc⟩
      · rw [h3] at hlt; exact absurd hlt (by simp)
      have ha : a = some ⟨b, off, none⟩ := by injection h4
      have e1 := hc k hlt
      rw [ha]
      clear hc h4 ha hb
      by_cases hE : ss[k] = s
      · have t1 : (s.toList == ss[k].toList) = true := by rw [beqT, decide_eq_true hE.symm]
        have H := Lib.hid (fxI_yes hlt hE (fun j hj h => HA.out j hj h))
        clear hE
        go_wp2
        go_ret
        exact ⟨ret_intF H.out.symm, hx⟩
      · have t1 : (s.toList == ss[k].toList) = false := by rw [beqT, decide_eq_false (fun h => hE h.symm)]
        have HE := Lib.hid hE
        clear hE
        go_wp2
        go_roundw
        case rel =>
          refine ⟨k + 1, by omega, by go_num, fun j hj hjk => ?_, hx⟩
          by_cases e : j = k
          · subst e; exact HE.out
          · exact HA.out j hj (by omega)
        case measure => simp [intOf]; omega
    · have H := Lib.hid (fxI_no (ss := ss) (s := s) (fun j hj => HA.out j hj (by omega)))
      go_wp2
      go_ret
      exact ⟨ret_intF H.out.symm, hx⟩

theorem contains_any (v : Value) (ss : List ByteArray) (s : ByteArray) (w : World) (h : Strs w v ss) : Calls Try.prog 81 #[v, .string s] w fun e w' => e = .returned (.bool (hasS ss s)) ∧ Ext w w' := by
  have HH := Lib.hid h
  have H := Lib.hid (fxI_has ss s)
  clear h
  go_enter Try.func81, Try.ntmps81
  go_wp2_with (go_at_call 121; refine (lindex_any _ _ _ _ HH.out).mono ?_; rintro e w1 ⟨rfl, x1⟩)
  go_ret
  exact ⟨ret_bool H.out, x1⟩

set_option maxHeartbeats 1000000 in
theorem l1Has_any (v : Value) (ss : List ByteArray) (s : ByteArray) (w : World) (h : Strs w v ss) : Calls Try.prog 79 #[v, .string s] w fun e w' => e = .returned (.bool (hasS ss s)) ∧ Ext w w' := by
  have hl := h.1
  unfold maxLen at hl
  have HS := Lib.hid h
  obtain ⟨a, cap, hv, hnil⟩ := h.at
  rw [hv] at HS ⊢
  clear hv hnil h v
  go_enter Try.func79, Try.ntmps79
  go_wp2
  go_loopw [9] (fun i wr => ∃ k : Nat, k ≤ ss.length ∧ i = .int .i64 k ∧ (∀ j (hj : j < ss.length), j < k → ¬ ss[j] = s) ∧ Ext w wr) (fun i _ => ss.length - (intOf i).toNat)
  case atStart => exact ⟨0, Nat.zero_le _, rfl, fun j _ h => absurd h (Nat.not_lt_zero _), Ext.refl _⟩
  case round =>
    obtain ⟨k, hk, rfl, hall, hx⟩ := hrel
    have HA := Lib.hid hall
    clear hall
    by_cases hlt : k < ss.length
    · rcases (HS.out.ext hx).2.2 with ⟨h3, _⟩ | ⟨b, off, cap', h4, hb, hc⟩
      · rw [h3] at hlt; exact absurd hlt (by simp)
      have ha : a = some ⟨b, off, none⟩ := by injection h4
      have e1 := hc k hlt
      rw [ha]
      clear hc h4 ha hb
      by_cases hE : ss[k] = s
      · have t1 : (ss[k].toList == s.toList) = true := by rw [beqT, decide_eq_true hE]
        have H := Lib.hid (hasS_yes hlt hE (fun j hj h => HA.out j hj h))
        clear hE
        go_wp2
        go_ret
        exact ⟨ret_bool H.out.symm, hx⟩
      · have t1 : (ss[k].toList == s.toList) = false := by rw [beqT, decide_eq_false hE]
        have HE := Lib.hid hE
        clear hE
        go_wp2
        go_roundw
        case rel =>
          refine ⟨k + 1, by omega, by go_num, fun j hj hjk => ?_, hx⟩
          by_cases e : j = k
          · subst e; exact HE.out
          · exact HA.out j hj (by omega)
        case measure => simp [intOf]; omega
    · have H := Lib.hid (hasS_no (ss := ss) (s := s) (fun j hj => HA.out j hj (by omega)))
      go_wp2
      go_ret
      exact ⟨ret_bool H.out.symm, hx⟩

/-- A dictionary and a word of it. -/
def ofB (ss : List ByteArray) (s : ByteArray) : Bool := dicB ss && hasS ss s

end Go.Proofs.Ytinojlbnmnlmhab
