/- The area of a number: the first code of a list that begins it. No conditions. -/
import Derived.Test.YtinojlbnmnlmhabPlI
namespace Go.Proofs.Ytinojlbnmnlmhab
open Go.RowKit

def ars (ss : List ByteArray) (t : ByteArray) : ByteArray := (ss.find? fun c => bgB c t).getD ⟨#[]⟩
theorem ars_hit {ss : List ByteArray} {t : ByteArray} {k : Nat} (h : k < ss.length) (hb : bgB ss[k] t = true) (hn : ∀ j (hj : j < ss.length), j < k → bgB ss[j] t = false) : ars ss t = ss[k] := by
  unfold ars
  rw [(List.find?_eq_some_iff_getElem (p := fun c => bgB c t)).2 ⟨hb, k, h, rfl, fun j hj => by simp [hn j (by omega) hj]⟩]
  rfl
theorem ars_none {ss : List ByteArray} {t : ByteArray} (hn : ∀ j (hj : j < ss.length), bgB ss[j] t = false) : ars ss t = ⟨#[]⟩ := by
  unfold ars
  rw [List.find?_eq_none.2 fun x hx => by obtain ⟨j, hj, rfl⟩ := List.mem_iff_getElem.1 hx; simp [hn j hj]]
  rfl
theorem any_none {p : ByteArray → Bool} {ss : List ByteArray} (hn : ∀ j (hj : j < ss.length), p ss[j] = false) : ss.any p = false := by
  rw [List.any_eq_false]
  intro x hx
  obtain ⟨j, hj, rfl⟩ := List.mem_iff_getElem.1 hx
  simp [hn j hj]
theorem ars_mem {ss : List ByteArray} {t : ByteArray} (h : ss.any (fun c => bgB c t) = true) : ars ss t ∈ ss ∧ bgB (ars ss t) t = true := by
  unfold ars
  cases hf : ss.find? fun c => bgB c t
  · rw [List.find?_eq_none] at hf
    obtain ⟨x, hx, hb⟩ := List.any_eq_true.1 h
    exact absurd hb (hf x hx)
  · exact ⟨List.mem_of_find?_eq_some hf, by have := List.find?_some hf; exact this⟩
theorem ars_no {ss : List ByteArray} {t : ByteArray} (h : ss.any (fun c => bgB c t) = false) : ars ss t = ⟨#[]⟩ := by
  unfold ars
  rw [List.any_eq_false] at h
  rw [List.find?_eq_none.2 h]
  rfl
/-- In a plan no code is empty, so an empty area tells that there is none. -/
theorem ars_ne {ss : List ByteArray} {t : ByteArray} (hp : PlB ss) (h : ss.any (fun c => bgB c t) = true) : 1 ≤ (ars ss t).size := by
  have := isDg_size (hp.cd _ (ars_mem h).1)
  omega

theorem ret_s1 {a a' : ByteArray} (h : a = a') : Ending.returned (.string a) = .returned (.string a') := by rw [h]

set_option maxHeartbeats 1000000 in
theorem plArea_any (v : Value) (ss : List ByteArray) (t : ByteArray) (w : World) (h : Strs w v ss) : Calls Try.prog 95 #[v, .string t] w fun e w' => e = .returned (.string (ars ss t)) ∧ w = w' := by
  have hl := h.1
  unfold maxLen at hl
  have HS := Lib.hid h
  obtain ⟨a, cap, hv, hnil⟩ := h.at
  rw [hv] at HS ⊢
  clear hv hnil h v
  go_enter Try.func95, Try.ntmps95
  go_wp2
  go_loop [9] (fun i => ∃ k : Nat, k ≤ ss.length ∧ i = .int .i64 k ∧ (∀ j (hj : j < ss.length), j < k → bgB ss[j] t = false)) (fun i => ss.length - (intOf i).toNat)
  case atStart => exact ⟨0, Nat.zero_le _, rfl, fun j _ h => absurd h (Nat.not_lt_zero _)⟩
  case round =>
    obtain ⟨k, hk, rfl, hall⟩ := hrel
    have HA := Lib.hid hall
    clear hall
    by_cases hlt : k < ss.length
    · obtain ⟨b, off, ha, e1⟩ := HS.out.get2 k hlt
      subst ha
      have HH := Lib.hid (fun (h : bgB ss[k] t = true) => ars_hit hlt h HA.out)
      cases hB : bgB ss[k] t
      · have HK := Lib.hid hB
        clear hB
        go_wp2_with (go_at_call 89; refine (plBeg_any _ _ _).mono ?_; rintro e w' ⟨rfl, rfl⟩; rw [HK.out])
        go_round
        case rel =>
          refine ⟨k + 1, by omega, by go_num, fun j hj hjk => ?_⟩
          by_cases e : j = k
          · subst e; exact HK.out
          · exact HA.out j hj (by omega)
        case measure => simp [intOf]; omega
      · have HK := Lib.hid hB
        have HV := Lib.hid (HH.out hB)
        clear hB
        go_wp2_with (go_at_call 89; refine (plBeg_any _ _ _).mono ?_; rintro e w' ⟨rfl, rfl⟩; rw [HK.out])
        go_ret
        exact ⟨ret_s1 HV.out.symm, rfl⟩
    · have HV := Lib.hid (ars_none (ss := ss) (t := t) (fun j hj => HA.out j hj (by omega)))
      go_wp2
      go_ret
      exact ⟨ret_s1 HV.out.symm, rfl⟩

/-! ### AreaOf -/
def okA (ss : List ByteArray) (t : ByteArray) : Bool := plB ss && (isDg 1 12 t && ss.any fun c => bgB c t)
def vA (ss : List ByteArray) (t : ByteArray) : ByteArray := if okA ss t then ars ss t else ⟨#[]⟩
theorem okA_p {ss : List ByteArray} {t : ByteArray} (h : plB ss = false) : okA ss t = false := by unfold okA; rw [h]; rfl
theorem okA_d {ss : List ByteArray} {t : ByteArray} (h : isDg 1 12 t = false) : okA ss t = false := by unfold okA; rw [h]; simp
theorem okA_a {ss : List ByteArray} {t : ByteArray} (h : plB ss = true) (h2 : isDg 1 12 t = true) : okA ss t = ss.any fun c => bgB c t := by unfold okA; rw [h, h2]; rfl
theorem vA_no {ss : List ByteArray} {t : ByteArray} (h : okA ss t = false) : vA ss t = ⟨#[]⟩ := by unfold vA; rw [h]; rfl
theorem vA_yes {ss : List ByteArray} {t : ByteArray} (h : plB ss = true) (h2 : isDg 1 12 t = true) : vA ss t = ars ss t := by
  cases h3 : okA ss t
  · rw [vA_no h3]
    rw [okA_a h h2] at h3
    exact (ars_no h3).symm
  · unfold vA; rw [h3]; rfl
theorem ret_sb {a a' : ByteArray} {b b' : Bool} (h : a = a') (h2 : b = b') : Ending.returned (.tuple #[.string a, .bool b]) = .returned (.tuple #[.string a', .bool b']) := by rw [h, h2]
theorem emp_b {s : ByteArray} (h : s.size = 0) : (s.toList == []) = true := by
  have : s = ⟨#[]⟩ := by apply ByteArray.ext; exact Array.eq_empty_of_size_eq_zero h
  subst this; rw [Lib.toList_data]; rfl
theorem emp_n {s : ByteArray} (h : 1 ≤ s.size) : (s.toList == []) = false := by
  rw [beq_eq_false_iff_ne]
  intro h2
  rw [Lib.toList_data] at h2
  have h3 : s.data.toList.length = 0 := by rw [h2]; rfl
  rw [Array.length_toList] at h3
  have : s.size = s.data.size := rfl
  omega

end Go.Proofs.Ytinojlbnmnlmhab
