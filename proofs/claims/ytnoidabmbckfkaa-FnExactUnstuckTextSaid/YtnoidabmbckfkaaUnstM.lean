/- The text from what is shown with letters that stick: the model's way. No conditions. -/
import Derived.Test.YtnoidabmbckfkaaUnst
namespace Go.Proofs.Ytnoidabmbckfkaa
open Go.RowKit

theorem ext_list (h : ByteArray) (i j : Nat) : (h.extract i j).data.toList = (h.data.toList.take j).drop i := by
  rw [ByteArray.data_extract, Array.toList_extract, List.extract_eq_take_drop, List.drop_take]
theorem ext_size (h : ByteArray) (i j : Nat) (hj : j ≤ h.size) : (h.extract i j).size = j - i := by
  have : (h.extract i j).data.toList.length = j - i := by
    rw [ext_list, List.length_drop, List.length_take]
    have : h.data.toList.length = h.size := by simp
    omega
  rw [← this]; rfl
theorem slTo (s : ByteArray) (j : Nat) (h2 : j ≤ s.size) (w : World) : (Instr.slice 9 (.string s) none (some (.int .i64 (j : Int))) none).run Try.prog w = .ok (.string (s.extract 0 j)) w := by
  have a3 : (j : Int) ≤ (s.size : Int) := by omega
  have a4 : (0 : Int) ≤ (j : Int) := by omega
  simp [go_sem, h2]
theorem slFrom (s : ByteArray) (i : Nat) (h1 : i ≤ s.size) (w : World) : (Instr.slice 9 (.string s) (some (.int .i64 (i : Int))) none none).run Try.prog w = .ok (.string (s.extract i s.size)) w := by
  have a1 : (0 : Int) ≤ (i : Int) := by omega
  have a2 : (i : Int) ≤ (s.size : Int) := by omega
  simp [go_sem, h1]
theorem half_isT (h : ByteArray) (hh : h.size ≤ 40) : isT 40 h = (isT 20 (h.extract 0 (h.size / 2)) && isT 20 (h.extract (h.size / 2) h.size)) := by
  unfold isT
  rw [decide_eq_true hh, decide_eq_true (show (h.extract 0 (h.size / 2)).size ≤ 20 by rw [ext_size _ _ _ (by omega)]; omega), decide_eq_true (show (h.extract (h.size / 2) h.size).size ≤ 20 by rw [ext_size _ _ _ (by omega)]; omega)]
  unfold allL
  rw [Bool.true_and, Bool.true_and, Bool.true_and, ext_list, ext_list, List.drop_zero, List.take_of_length_le (show h.data.toList.length ≤ h.size by simp), ← List.all_append, List.take_append_drop]
theorem tB_list (l : List UInt8) : (tB l).data.toList = l := by simp [tB]
theorem unsNone {h s : ByteArray} (k : uns (stB s) h.data.toList = none) : unOk h s = false := by
  refine unOk_r fun e => ?_
  have h2 := (un_uns (stB s) _ h.data.toList (Nat.le_refl _)).1 (by
    have := congrArg (fun b : ByteArray => b.data.toList) e
    simp only [unR, tB_list] at this
    exact this)
  rw [k] at h2
  cases h2
theorem unsSome {h s : ByteArray} {l : List UInt8} (k : uns (stB s) h.data.toList = some l) : tB l = unT h s ∧ unR h s = h := by
  obtain ⟨h1, h2⟩ := (un_uns (stB s) _ h.data.toList (Nat.le_refl _)).2 l k
  refine ⟨by rw [h2]; rfl, ?_⟩
  unfold unR
  rw [← h2, h1]
  apply ByteArray.ext
  apply Array.toList_inj.1
  exact tB_list _
theorem drop_sg {h : ByteArray} {p : Nat} (hp : p < h.size) : h.data.toList.drop p = sg h p :: h.data.toList.drop (p + 1) := by
  rw [List.drop_eq_getElem_cons (by simpa using hp)]
  have e : h.data.toList[p]'(by simpa using hp) = sg h p := by rw [← sg_at h p hp]; rfl
  rw [e]
theorem drop_end {h : ByteArray} {p : Nat} (hp : h.size ≤ p) : h.data.toList.drop p = [] := List.drop_of_length_le (by simpa using hp)
theorem map_snoc (o : Option (List UInt8)) (l : List UInt8) (c : UInt8) : (o.map (c :: ·)).map (l ++ ·) = o.map ((l ++ [c]) ++ ·) := by
  cases o with
  | none => rfl
  | some t => simp

theorem half0_any (t : ByteArray) (w : World) (_ht : t.size ≤ 40) : Calls Try.prog 64 #[.string t, .int .i64 0] w fun e w' => e = .returned (.string (t.extract 0 (t.size / 2))) ∧ w = w' := by
  go_enter Try.func64, Try.ntmps64
  go_wp2
  go_ret
  exact ⟨rfl, rfl⟩
theorem half1_any (t : ByteArray) (w : World) (_ht : t.size ≤ 40) : Calls Try.prog 64 #[.string t, .int .i64 1] w fun e w' => e = .returned (.string (t.extract (t.size / 2) t.size)) ∧ w = w' := by
  go_enter Try.func64, Try.ntmps64
  go_wp2
  go_ret
  exact ⟨rfl, rfl⟩
theorem half_any (t : ByteArray) (x : Int) (w : World) (ht : t.size ≤ 40) (hx : x = 0 ∨ x = 1) : Calls Try.prog 64 #[.string t, .int .i64 x] w fun e w' => e = .returned (.string (if x = 0 then t.extract 0 (t.size / 2) else t.extract (t.size / 2) t.size)) ∧ w = w' := by
  rcases hx with rfl | rfl
  · rw [if_pos rfl]; exact half0_any t w ht
  · rw [if_neg (by decide)]; exact half1_any t w ht
set_option maxHeartbeats 2000000 in
theorem two_any (t h : ByteArray) (w : World) (ht : t.size ≤ maxLen) (_hh : h.size ≤ maxLen) : Calls Try.prog 53 #[.string t, .string h] w fun e w' => e = .returned (.bool (isT 20 t && isT 40 h)) ∧ w = w' := by
  cases h1 : isT 20 t
  · go_enter Try.func53, Try.ntmps53
    go_wp2_with (go_at_call 43; refine (bkText_any _ _ (by assumption)).mono ?_; first | (rw [h1]; rintro e w1 ⟨rfl, rfl⟩))
    go_ret
    exact ⟨rfl, rfl⟩
  by_cases h40 : h.size ≤ 40
  · have hAB : ∀ x w, (x = 0 ∨ x = 1) → Calls Try.prog 64 #[.string h, .int .i64 x] w fun e w' => e = .returned (.string (if x = 0 then h.extract 0 (h.size / 2) else h.extract (h.size / 2) h.size)) ∧ w = w' := fun x w hx => half_any h x w h40 hx
    have HV := half_isT h h40
    have zA : (h.extract 0 (h.size / 2)).size ≤ maxLen := by rw [ext_size _ _ _ (by omega)]; unfold maxLen; omega
    have zB : (h.extract (h.size / 2) h.size).size ≤ maxLen := by rw [ext_size _ _ _ (by omega)]; unfold maxLen; omega
    generalize h.extract 0 (h.size / 2) = A at hAB HV zA
    generalize h.extract (h.size / 2) h.size = B at hAB HV zB
    rw [HV]
    clear HV
    cases h2 : isT 20 A
    · go_enter Try.func53, Try.ntmps53
      go_wp2_with (first | (go_at_call 43; refine (bkText_any _ _ (by assumption)).mono ?_; first | (rw [h1]; rintro e w1 ⟨rfl, rfl⟩) | (rw [h2]; rintro e w3 ⟨rfl, rfl⟩)) | (go_at_call 64; refine (hAB _ _ (by simp)).mono ?_; first | (rw [if_pos rfl]; rintro e w2 ⟨rfl, rfl⟩) | (rw [if_neg (by decide)]; rintro e w4 ⟨rfl, rfl⟩)))
      go_ret
      exact ⟨rfl, rfl⟩
    cases h3 : isT 20 B
    · go_enter Try.func53, Try.ntmps53
      go_wp2_with (first | (go_at_call 43; refine (bkText_any _ _ (by assumption)).mono ?_; first | (rw [h1]; rintro e w1 ⟨rfl, rfl⟩) | (rw [h2]; rintro e w3 ⟨rfl, rfl⟩) | (rw [h3]; rintro e w5 ⟨rfl, rfl⟩)) | (go_at_call 64; refine (hAB _ _ (by simp)).mono ?_; first | (rw [if_pos rfl]; rintro e w2 ⟨rfl, rfl⟩) | (rw [if_neg (by decide)]; rintro e w4 ⟨rfl, rfl⟩)))
      go_ret
      exact ⟨rfl, rfl⟩
    · go_enter Try.func53, Try.ntmps53
      go_wp2_with (first | (go_at_call 43; refine (bkText_any _ _ (by assumption)).mono ?_; first | (rw [h1]; rintro e w1 ⟨rfl, rfl⟩) | (rw [h2]; rintro e w3 ⟨rfl, rfl⟩) | (rw [h3]; rintro e w5 ⟨rfl, rfl⟩)) | (go_at_call 64; refine (hAB _ _ (by simp)).mono ?_; first | (rw [if_pos rfl]; rintro e w2 ⟨rfl, rfl⟩) | (rw [if_neg (by decide)]; rintro e w4 ⟨rfl, rfl⟩)))
      go_ret
      exact ⟨rfl, rfl⟩
  · rw [isT_big (n := 40) (s := h) (by omega)]
    go_enter Try.func53, Try.ntmps53
    go_wp2_with (go_at_call 43; refine (bkText_any _ _ (by assumption)).mono ?_; first | (rw [h1]; rintro e w1 ⟨rfl, rfl⟩))
    go_ret
    exact ⟨rfl, rfl⟩

set_option maxRecDepth 100000 in
set_option maxHeartbeats 4000000 in
theorem unS_any (h s : ByteArray) (w : World) (hh : h.size ≤ maxLen) (hs : s.size ≤ maxLen) : Calls Try.prog 32 #[.string h, .string s] w fun e w' => e = .returned (.tuple #[.string (unV h s), .bool (unOk h s)]) ∧ Ext w w' := by
  have hE : (⟨#[]⟩ : ByteArray).size ≤ maxLen := Nat.zero_le _
  have HE := Lib.hid (show isT 20 (⟨#[]⟩ : ByteArray) = true from rfl)
  cases h1 : isT 40 h
  · have HO := Lib.hid (unOk_h (s := s) h1)
    go_enter Try.func32, Try.ntmps32
    go_wp2_with (go_at_call 53; refine (two_any _ h _ hE hh).mono ?_; rw [HE.out, h1, Bool.true_and]; rintro e w1 ⟨rfl, rfl⟩)
    go_ret2
    exact ⟨ret_sB (unV_no HO.out).symm HO.out.symm, Ext.refl _⟩
  cases h2 : isLs s
  · have HO := Lib.hid (unOk_s (h := h) h2)
    go_enter Try.func32, Try.ntmps32
    go_wp2_with (first | (go_at_call 53; refine (two_any _ h _ hE hh).mono ?_; rw [HE.out, h1, Bool.true_and]; rintro e w1 ⟨rfl, rfl⟩) | (go_at_call 47; refine (lettersS_any _ _ hs).mono ?_; rw [h2]; rintro e w2 ⟨rfl, x2⟩))
    go_ret2
    exact ⟨ret_sB (unV_no HO.out).symm HO.out.symm, x2⟩
  have h40 := isT_size h1
  have HNN := Lib.hid (fun k => unsNone (h := h) (s := s) k)
  have HSS := Lib.hid (fun l k => unsSome (h := h) (s := s) (l := l) k)
  have HOT := Lib.hid (fun k => unOk_t (h := h) (s := s) k)
  have HOY := Lib.hid (fun k k2 => unOk_y (h := h) (s := s) h1 h2 k k2)
  have HOV := Lib.hid (fun k => unV_yes (h := h) (s := s) k)
  have HON := Lib.hid (fun k => unV_no (h := h) (s := s) k)
  go_enter Try.func32, Try.ntmps32
  go_wp2_with (first | (go_at_call 53; refine (two_any _ h _ hE hh).mono ?_; rw [HE.out, h1, Bool.true_and]; rintro e w1 ⟨rfl, rfl⟩) | (go_at_call 47; refine (lettersS_any _ _ hs).mono ?_; rw [h2]; rintro e w2 ⟨rfl, x2⟩))
  clear h1 h2
  go_loopw [6, 7] (fun o i wr => ∃ (k : Nat) (l : List UInt8), k ≤ h.size ∧ i = .int .i64 k ∧ o = .string (tB l) ∧ l.length ≤ k ∧ uns (stB s) h.data.toList = (uns (stB s) (h.data.toList.drop k)).map (l ++ ·) ∧ Ext w wr) (fun _ i _ => h.size - (intOf i).toNat)
  case atStart => exact ⟨0, [], Nat.zero_le _, rfl, rfl, Nat.zero_le _, by simp, x2⟩
  case round =>
    obtain ⟨k, l, hk, rfl, rfl, hl, hu, hx⟩ := hrel
    have HU := Lib.hid hu
    clear hu
    have hts : (tB l).size ≤ 40 := by rw [tB_size]; omega
    by_cases hlt : k < h.size
    · have ik : ∀ w, (Instr.index 9 (.string h) (.int .i64 (k : Int))).run Try.prog w = .ok (.int .u8 ((sg h k).toNat : Int)) w := fun w => ixB h k hlt w
      have he1 := ext1B h k hlt
      have hk1 : k + 1 ≤ h.size := hlt
      have HD := Lib.hid (drop_sg hlt)
      obtain ⟨T, hT⟩ : ∃ T, T = tB l := ⟨_, rfl⟩
      have HT := Lib.hid hT
      rw [← hT] at hts ⊢
      clear hT
      obtain ⟨c, hc⟩ : ∃ c, c = sg h k := ⟨_, rfl⟩
      rw [← hc] at ik he1 HD
      clear hc
      have HV := Lib.hid (show tB (l ++ [c]) = T ++ ⟨#[c]⟩ by rw [HT.out]; exact tB_snoc l c)
      have hz1 : (⟨#[c]⟩ : ByteArray).size = 1 := rfl
      have hl1 : (l ++ [c]).length ≤ k + 1 := by rw [List.length_append, List.length_singleton]; omega
      cases hsc : hasB s.data.toList c
      · have HN := Lib.hid (show uns (stB s) h.data.toList = (uns (stB s) (h.data.toList.drop (k + 1))).map ((l ++ [c]) ++ ·) by
          rw [HU.out, HD.out, uns_no (by unfold stB; rw [hsc]; simp), map_snoc])
        go_wp2_with (go_at_call 48; refine (hasS_any _ _ _ (by assumption)).mono ?_; rintro e w4 ⟨rfl, rfl⟩; rw [hsc])
        go_roundw
        case rel => exact ⟨k + 1, l ++ [c], by omega, by go_num, by rw [HV.out], hl1, HN.out, hx⟩
        case measure => simp [intOf] <;> omega
      · have HST := Lib.hid (show stB s c = true from hsc)
        obtain ⟨j, hj⟩ : ∃ j, j = k + 1 := ⟨_, rfl⟩
        have HJ := Lib.hid hj
        have W1 : IntKind.i64.wrap ((k : Int) + 1) = ((j : Nat) : Int) := by simp only [IntKind.wrap_i64]; omega
        have hkj : k ≤ j := by omega
        have hj2 : j ≤ h.size := by omega
        rw [← hj] at he1
        by_cases hl2 : j < h.size
        · have hjn : ¬ ((j : Nat) : Int) = (h.size : Int) := by omega
          have hjd : decide (((j : Nat) : Int) = (h.size : Int)) = false := decide_eq_false hjn
          have ik2 : ∀ w, (Instr.index 9 (.string h) (.int .i64 (j : Int))).run Try.prog w = .ok (.int .u8 ((sg h j).toNat : Int)) w := fun w => ixB h j hl2 w
          have HD2 := Lib.hid (drop_sg hl2)
          have W2 : IntKind.i64.wrap ((j : Int) + 1) = ((j : Int) + 1) := by simp only [IntKind.wrap_i64]; omega
          rw [← hj] at HD
          clear hj
          obtain ⟨d, hd⟩ : ∃ d, d = sg h j := ⟨_, rfl⟩
          rw [← hd] at ik2 HD2
          clear hd
          by_cases hdc : d = c
          · subst hdc
            have HN := Lib.hid (show uns (stB s) h.data.toList = (uns (stB s) (h.data.toList.drop (j + 1))).map ((l ++ [d]) ++ ·) by
              rw [HU.out, HD.out, HD2.out, uns_two HST.out, if_pos rfl, map_snoc])
            go_wp2_with (go_at_call 48; refine (hasS_any _ _ _ (by assumption)).mono ?_; rintro e w4 ⟨rfl, rfl⟩; rw [hsc])
            go_quiet (fail)
            go_wp2
            go_roundw
            case rel => exact ⟨j + 1, l ++ [d], by omega, by go_num, by rw [HV.out], by have := HJ.out; omega, HN.out, ext_drewN hx _⟩
            case measure => have := HJ.out; simp [intOf] <;> omega
          · have HO := Lib.hid (HNN.out (by rw [HU.out, HD.out, HD2.out, uns_two HST.out, if_neg hdc]; rfl))
            have hne : ¬ (d.toNat : Int) = (c.toNat : Int) := fun e => hdc (UInt8.toNat_inj.1 (by omega))
            have hb : ((d.toNat : Int) != (c.toNat : Int)) = true := bne_iff_ne.2 hne
            go_wp2_with (go_at_call 48; refine (hasS_any _ _ _ (by assumption)).mono ?_; rintro e w4 ⟨rfl, rfl⟩; rw [hsc])
            go_quiet (fail)
            go_wp2
            go_ret2
            exact ⟨ret_sB (HON.out HO.out).symm HO.out.symm, ext_drewN hx _⟩
        · have hke : ((j : Nat) : Int) = (h.size : Int) := by omega
          have hjd : decide (((j : Nat) : Int) = (h.size : Int)) = true := decide_eq_true hke
          have HO := Lib.hid (HNN.out (by rw [HU.out, HD.out, drop_end (by omega), uns_one HST.out]; rfl))
          clear hj
          go_wp2_with (go_at_call 48; refine (hasS_any _ _ _ (by assumption)).mono ?_; rintro e w4 ⟨rfl, rfl⟩; rw [hsc])
          go_quiet (fail)
          go_wp2
          go_ret2
          exact ⟨ret_sB (HON.out HO.out).symm HO.out.symm, ext_drewN hx _⟩
    · have HF := Lib.hid (HSS.out l (by rw [HU.out, drop_end (by omega), uns]; simp))
      have hzT : (tB l).size ≤ maxLen := by unfold maxLen; omega
      obtain ⟨T, hT⟩ : ∃ T, T = tB l := ⟨_, rfl⟩
      rw [← hT] at hzT HF ⊢
      clear hT
      cases hTT : isT 20 T
      · have HO := Lib.hid (HOT.out (by rw [← HF.out.1]; exact hTT))
        go_wp2_with (go_at_call 43; refine (bkText_any _ _ hzT).mono ?_; rintro e w4 ⟨rfl, rfl⟩; rw [hTT])
        go_ret2
        exact ⟨ret_sB (HON.out HO.out).symm HO.out.symm, hx⟩
      · have HO := Lib.hid (HOY.out (by rw [← HF.out.1]; exact hTT) HF.out.2)
        go_wp2_with (go_at_call 43; refine (bkText_any _ _ hzT).mono ?_; rintro e w4 ⟨rfl, rfl⟩; rw [hTT])
        go_ret2
        exact ⟨ret_sB (by rw [HOV.out HO.out]; exact HF.out.1) HO.out.symm, hx⟩
end Go.Proofs.Ytnoidabmbckfkaa
