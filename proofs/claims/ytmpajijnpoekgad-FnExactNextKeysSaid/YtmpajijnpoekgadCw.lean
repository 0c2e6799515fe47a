/- A piece and single digits are asked for: the program's test. No conditions. -/
import Derived.Test.YtmpajijnpoekgadNx
import Derived.Test.YtmpajijnpoekgadWg
namespace Go.Proofs.Ytmpajijnpoekgad
open Go.RowKit

def oneW (t : ByteArray) : Bool := decide (t.size = 1) && isWk t
def cwB (s : ByteArray) (ss : List ByteArray) : Bool := (ss.all oneW) && isP s
set_option maxHeartbeats 1000000 in
theorem canWalk_any (s : ByteArray) (v : Value) (ss : List ByteArray) (w : World) (h : Strs w v ss) (hs : s.size ≤ maxLen) : Calls Try.prog 32 #[.string s, v] w fun e w' => e = .returned (.bool (cwB s ss)) ∧ Ext w w' := by
  have HS := Lib.hid h
  have HM := Lib.hid h.2.1
  have hl := h.1
  unfold maxLen at hl
  obtain ⟨a, cap, hv, _⟩ := h.at
  rw [hv] at HS ⊢
  clear hv h
  go_enter Try.func32, Try.ntmps32
  go_wp2
  go_loopw [9] (fun i wr => ∃ k : Nat, k ≤ ss.length ∧ i = .int .i64 k ∧ (ss.take k).all oneW = true ∧ Ext w wr) (fun i _ => ss.length - (intOf i).toNat)
  case atStart => exact ⟨0, Nat.zero_le _, rfl, rfl, Ext.refl _⟩
  case round =>
    obtain ⟨k, hk, rfl, hall, hx⟩ := hrel
    have HA := Lib.hid hall
    clear hall
    by_cases hlt : k < ss.length
    · rcases (HS.out.ext hx).2.2 with ⟨h3, _⟩ | ⟨b, off, cap', h1, hb, hc⟩
      · rw [h3] at hlt; exact absurd hlt (by simp)
      have ha : a = some ⟨b, off, none⟩ := by injection h1
      have e1 := hc k hlt
      have hz := HM.out ss[k] (List.getElem_mem hlt)
      have HT := Lib.hid (takeS ss k hlt)
      have HG := Lib.hid (show ss[k] ∈ ss from List.getElem_mem hlt)
      clear hc h1 hb
      subst ha
      obtain ⟨u, hu⟩ : ∃ u, u = ss[k] := ⟨_, rfl⟩
      rw [← hu] at e1 hz HT HG
      clear hu
      have hz2 := hz
      unfold maxLen at hz2
      have HNO := Lib.hid (fun (h1 : oneW u = false) => (show cwB s ss = false by
        unfold cwB
        have : ss.all oneW = false := by rw [List.all_eq_false]; exact ⟨u, HG.out, by rw [h1]; decide⟩
        rw [this]; rfl))
      by_cases hz1 : u.size = 1
      · have t1 : ((u.size : Int) == 1) = true := by simp [hz1]
        have t2 : (u.size : Int) = 1 := by omega
        cases h1 : isWk u
        · have HN := Lib.hid (HNO.out (by unfold oneW; rw [h1, Bool.and_false]))
          clear hz1
          go_wp2_with (go_at_call 43; refine (areWk_any _ _ (by assumption)).mono ?_; rintro e w' ⟨rfl, rfl⟩; rw [h1])
          go_ret
          exact ⟨ret_bool HN.out.symm, hx⟩
        · have HN := Lib.hid (show (ss.take (k + 1)).all oneW = true by rw [HT.out, List.all_append, HA.out]; simp [oneW, h1, hz1])
          clear hz1
          go_wp2_with (go_at_call 43; refine (areWk_any _ _ (by assumption)).mono ?_; rintro e w' ⟨rfl, rfl⟩; rw [h1])
          go_roundw
          case rel => exact ⟨k + 1, by omega, by go_num, HN.out, hx⟩
          case measure => simp [intOf]; omega
      · have t1 : ((u.size : Int) == 1) = false := by simp; omega
        have t2 : ¬ (u.size : Int) = 1 := by omega
        have HN := Lib.hid (HNO.out (by unfold oneW; rw [decide_eq_false hz1]; rfl))
        clear hz1
        go_wp2
        go_ret
        exact ⟨ret_bool HN.out.symm, hx⟩
    · have HN := Lib.hid (show cwB s ss = isP s by
        unfold cwB
        rw [List.take_of_length_le (by omega)] at HA
        rw [HA.out]; rfl)
      go_wp2_with (go_at_call 38; refine (isPiece_any _ _ hs).mono ?_; rintro e w' ⟨rfl, rfl⟩)
      go_ret
      exact ⟨ret_bool HN.out.symm, hx⟩
theorem cw1 (s t : ByteArray) : cwB s [t] = isAsk s t := by
  unfold cwB oneW isAsk
  simp only [List.all_cons, List.all_nil, Bool.and_true]
  cases isP s <;> cases isWk t <;> cases decide (t.size = 1) <;> rfl
theorem cw2 (s t u : ByteArray) : cwB s [t, u] = (isAsk s t && isAsk s u) := by
  unfold cwB oneW isAsk
  simp only [List.all_cons, List.all_nil, Bool.and_true]
  cases isP s <;> cases isWk t <;> cases decide (t.size = 1) <;> cases isWk u <;> cases decide (u.size = 1) <;> rfl
end Go.Proofs.Ytmpajijnpoekgad
