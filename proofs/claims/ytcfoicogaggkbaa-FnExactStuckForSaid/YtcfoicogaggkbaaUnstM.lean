/- The text from what is shown with letters that stick: the model's way. No conditions. -/
import Derived.Test.YtcfoicogaggkbaaUnst
namespace Go.Proofs.Ytcfoicogaggkbaa
open Go.RowKit

theorem ext_list (h : ByteArray) (i j : Nat) : (h.extract i j).data.toList = (h.data.toList.take j).drop i := by
  rw [ByteArray.data_extract, Array.toList_extract, List.extract_eq_take_drop, List.drop_take]
theorem ext_size (h : ByteArray) (i j : Nat) (hj : j ≤ h.size) : (h.extract i j).size = j - i := by
  have : (h.extract i j).data.toList.length = j - i := by
    rw [ext_list, List.length_drop, List.length_take]
    have : h.data.toList.length = h.size := by simp
    omega
  rw [← this]; rfl
theorem slTo (s : ByteArray) (j : Nat) (h2 : j ≤ s.size) (w : World) : (Instr.slice 9 (.string s) none (some (.int .i64 (j : Int))) none).run Try.prog w = .ok (.string (s.extract 0 j)) w := by
  have a3 : (j : Int) ≤ (s.size : Int) := by omega
  have a4 : (0 : Int) ≤ (j : Int) := by omega
  simp [go_sem, h2]
theorem slFrom (s : ByteArray) (i : Nat) (h1 : i ≤ s.size) (w : World) : (Instr.slice 9 (.string s) (some (.int .i64 (i : Int))) none none).run Try.prog w = .ok (.string (s.extract i s.size)) w := by
  have a1 : (0 : Int) ≤ (i : Int) := by omega
  have a2 : (i : Int) ≤ (s.size : Int) := by omega
  simp [go_sem, h1]
theorem half_isT (h : ByteArray) (hh : h.size ≤ 40) : isT 40 h = (isT 20 (h.extract 0 (h.size / 2)) && isT 20 (h.extract (h.size / 2) h.size)) := by
  unfold isT
  rw [decide_eq_true hh, decide_eq_true (show (h.extract 0 (h.size / 2)).size ≤ 20 by rw [ext_size _ _ _ (by omega)]; omega), decide_eq_true (show (h.extract (h.size / 2) h.size).size ≤ 20 by rw [ext_size _ _ _ (by omega)]; omega)]
  unfold allL
  rw [Bool.true_and, Bool.true_and, Bool.true_and, ext_list, ext_list, List.drop_zero, List.take_of_length_le (show h.data.toList.length ≤ h.size by simp), ← List.all_append, List.take_append_drop]
theorem tB_list (l : List UInt8) : (tB l).data.toList = l := by simp [tB]
theorem unsNone {h s : ByteArray} (k : uns (stB s) h.data.toList = none) : unOk h s = false := by
  refine unOk_r fun e => ?_
  have h2 := (un_uns (stB s) _ h.data.toList (Nat.le_refl _)).1 (by
    have := congrArg (fun b : ByteArray => b.data.toList) e
    simp only [unR, tB_list] at this
    exact this)
  rw [k] at h2
  cases h2
theorem unsSome {h s : ByteArray} {l : List UInt8} (k : uns (stB s) h.data.toList = some l) : tB l = unT h s ∧ unR h s = h := by
  obtain ⟨h1, h2⟩ := (un_uns (stB s) _ h.data.toList (Nat.le_refl _)).2 l k
  refine ⟨by rw [h2]; rfl, ?_⟩
  unfold unR
  rw [← h2, h1]
  apply ByteArray.ext
  apply Array.toList_inj.1
  exact tB_list _
theorem drop_sg {h : ByteArray} {p : Nat} (hp : p < h.size) : h.data.toList.drop p = sg h p :: h.data.toList.drop (p + 1) := by
  rw [List.drop_eq_getElem_cons (by simpa using hp)]
  have e : h.data.toList[p]'(by simpa using hp) = sg h p := by rw [← sg_at h p hp]; rfl
  rw [e]
theorem drop_end {h : ByteArray} {p : Nat} (hp : h.size ≤ p) : h.data.toList.drop p = [] := List.drop_of_length_le (by simpa using hp)
theorem map_snoc (o : Option (List UInt8)) (l : List UInt8) (c : UInt8) : (o.map (c :: ·)).map (l ++ ·) = o.map ((l ++ [c]) ++ ·) := by
  cases o with
  | none => rfl
  | some t => simp

theorem half0_any (t : ByteArray) (w : World) (_ht : t.size ≤ 40) : Calls Try.prog 65 #[.string t, .int .i64 0] w fun e w' => e = .returned (.string (t.extract 0 (t.size / 2))) ∧ w = w' := by
  go_enter Try.func65, Try.ntmps65
  go_wp2
  go_ret
  exact ⟨rfl, rfl⟩
theorem half1_any (t : ByteArray) (w : World) (_ht : t.size ≤ 40) : Calls Try.prog 65 #[.string t, .int .i64 1] w fun e w' => e = .returned (.string (t.extract (t.size / 2) t.size)) ∧ w = w' := by
  go_enter Try.func65, Try.ntmps65
  go_wp2
  go_ret
  exact ⟨rfl, rfl⟩
theorem half_any (t : ByteArray) (x : Int) (w : World) (ht : t.size ≤ 40) (hx : x = 0 ∨ x = 1) : Calls Try.prog 65 #[.string t, .int .i64 x] w fun e w' => e = .returned (.string (if x = 0 then t.extract 0 (t.size / 2) else t.extract (t.size / 2) t.size)) ∧ w = w' := by
  rcases hx with rfl | rfl
  · rw [if_pos rfl]; exact half0_any t w ht
  · rw [if_neg (by decide)]; exact half1_any t w ht
set_option maxHeartbeats 2000000 in
theorem two_any (t h : ByteArray) (w : World) (ht : t.size ≤ maxLen) (_hh : h.size ≤ maxLen) : Calls Try.prog 36 #[.string t, .string h] w fun e w' => e = .returned (.bool (isT 20 t && isT 40 h)) ∧ w = w' := by
  cases h1 : isT 20 t
  · go_enter Try.func36, Try.ntmps36
    go_wp2_with (go_at_call 51; refine (bkText_any _ _ (by assumption)).mono ?_; first | (rw [h1]; rintro e w1 ⟨rfl, rfl⟩))
    go_ret
    exact ⟨rfl, rfl⟩
  by_cases h40 : h.size ≤ 40
  · have hAB : ∀ x w, (x = 0 ∨ x = 1) → Calls Try.prog 65 #[.string h, .int .i64 x] w fun e w' => e = .returned (.string (if x = 0 then h.extract 0 (h.size / 2) else h.extract (h.size / 2) h.size)) ∧ w = w' := fun x w hx => half_any h x w h40 hx
    have HV := half_isT h h40
    have zA : (h.extract 0 (h.size / 2)).size ≤ maxLen := by rw [ext_size _ _ _ (by omega)]; unfold maxLen; omega
    have zB : (h.extract (h.size / 2) h.size).size ≤ maxLen := by rw [ext_size _ _ _ (by omega)]; unfold maxLen; omega
    generalize h.extract 0 (h.size / 2) = A at hAB HV zA
    generalize h.extract (h.size / 2) h.size = B at hAB HV zB
    rw [HV]
    clear HV
    cases h2 : isT 20 A
    · go_enter Try.func36, Try.ntmps36
      go_wp2_with (first | (go_at_call 51; refine (bkText_any _ _ (by assumption)).mono ?_; first | (rw [h1]; rintro e w1 ⟨rfl, rfl⟩) | (rw [h2]; rintro e w3 ⟨rfl, rfl⟩)) | (go_at_call 65; refine (hAB _ _ (by simp)).mono ?_; first | (rw [if_pos rfl]; rintro e w2 ⟨rfl, rfl⟩) | (rw [if_neg (by decide)]; rintro e w4 ⟨rfl, rfl⟩)))
      go_ret
      exact ⟨rfl, rfl⟩
    cases h3 : isT 20 B
    · go_enter Try.func36, Try.ntmps36
      go_wp2_with (first | (go_at_call 51; refine (bkText_any _ _ (by assumption)).mono ?_; first | (rw [h1]; rintro e w1 ⟨rfl, rfl⟩) | (rw [h2]; rintro e w3 ⟨rfl, rfl⟩) | (rw [h3]; rintro e w5 ⟨rfl, rfl⟩)) | (go_at_call 65; refine (hAB _ _ (by simp)).mono ?_; first | (rw [if_pos rfl]; rintro e w2 ⟨rfl, rfl⟩) | (rw [if_neg (by decide)]; rintro e w4 ⟨rfl, rfl⟩)))
      go_ret
      exact ⟨rfl, rfl⟩
    · go_enter Try.func36, Try.ntmps36
      go_wp2_with (first | (go_at_call 51; refine (bkText_any _ _ (by assumption)).mono ?_; first | (rw [h1]; rintro e w1 ⟨rfl, rfl⟩) | (rw [h2]; rintro e w3 ⟨rfl, rfl⟩) | (rw [h3]; rintro e w5 ⟨rfl, rfl⟩)) | (go_at_call 65; refine (hAB _ _ (by simp)).mono ?_; first | (rw [if_pos rfl]; rintro e w2 ⟨rfl, rfl⟩) | (rw [if_neg (by decide)]; rintro e w4 ⟨rfl, rfl⟩)))
      go_ret
      exact ⟨rfl, rfl⟩
  · rw [isT_big (n := 40) (s := h) (by omega)]
    go_enter Try.func36, Try.ntmps36
    go_wp2_with (go_at_call 51; refine (bkText_any _ _ (by assumption)).mono ?_; first | (rw [h1]; rintro e w1 ⟨rfl, rfl⟩))
    go_ret
    exact ⟨rfl, rfl⟩