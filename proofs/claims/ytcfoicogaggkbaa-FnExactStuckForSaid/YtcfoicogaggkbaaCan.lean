/- Whether texts can be shown so, and the dead or stuck letters that tell it: both sides. No conditions. -/
import Derived.Test.YtcfoicogaggkbaaTell3
namespace Go.Proofs.Ytcfoicogaggkbaa
open Go.RowKit

theorem tB_eq {l : List UInt8} {s : ByteArray} : tB l = s ↔ l = s.data.toList := by
  constructor
  · rintro rfl
    exact (tB_list l).symm
  · rintro rfl
    exact tB_all s
theorem isT_mem {n : Nat} {t : ByteArray} (h : isT n t = true) {c : UInt8} (hc : c ∈ t.data.toList) : 97 ≤ c.toNat ∧ c.toNat ≤ 122 := by
  obtain ⟨p, hp, rfl⟩ := List.mem_iff_getElem.1 hc
  have hp2 : p < t.size := by simpa using hp
  exact isT_bd h p hp2
theorem hasB_nil (c : UInt8) : hasB (⟨#[]⟩ : ByteArray).data.toList c = false := rfl
/-- Both ways of telling it are one. -/
theorem can_eq {t s : ByteArray} (ht : isT 20 t = true) : (tB (shw (by2 (hasB (tB (ltB (dBc t s) 26)).data.toList) (hasB (tB (ltB (sBc t s) 26)).data.toList)) t.data.toList) = s) ↔ (tB (shw (fIc t s) t.data.toList) = s) := by
  rw [tB_eq, tB_eq, tB_list, tB_list, fIc_eq, can_iff]
  rw [shw_congr (g := by2 (dB t.data.toList s.data.toList) (sB t.data.toList s.data.toList)) (fun c hc => by
    unfold by2
    rw [ltB_has (isT_mem ht hc), ltB_has (isT_mem ht hc), dBc_eq, sBc_eq])]
theorem dead_eq {t s : ByteArray} (ht : isT 20 t = true) : (tB (shw (by2 (hasB (tB (ltB (dBc t s) 26)).data.toList) (hasB (⟨#[]⟩ : ByteArray).data.toList)) t.data.toList) = s) ↔ shw (by2 (dB t.data.toList s.data.toList) nob) t.data.toList = s.data.toList := by
  rw [tB_eq, tB_list]
  rw [shw_congr (g := by2 (dB t.data.toList s.data.toList) nob) (fun c hc => by
    unfold by2
    rw [ltB_has (isT_mem ht hc), dBc_eq]
    rfl)]
theorem stuck_eq {t s : ByteArray} (ht : isT 20 t = true) : (tB (shw (by2 (hasB (⟨#[]⟩ : ByteArray).data.toList) (hasB (tB (ltB (sBc t s) 26)).data.toList)) t.data.toList) = s) ↔ shw (by2 nob (sB t.data.toList s.data.toList)) t.data.toList = s.data.toList := by
  rw [tB_eq, tB_list]
  rw [shw_congr (g := by2 nob (sB t.data.toList s.data.toList)) (fun c hc => by
    unfold by2
    rw [ltB_has (isT_mem ht hc), sBc_eq]
    rfl)]
theorem byteOfL {c : UInt8} (hc : 97 ≤ c.toNat ∧ c.toNat ≤ 122) : ∃ j, j < 26 ∧ c = (97 + j).toUInt8 := ⟨c.toNat - 97, by omega, ((let_eq hc (by omega)).2 rfl).symm⟩
theorem sameR_iff (a b : UInt8 → Nat) : sameR (rwF a) (rwF b) = true ↔ ∀ c : UInt8, 97 ≤ c.toNat ∧ c.toNat ≤ 122 → a c = b c := by
  unfold sameR
  rw [List.all_eq_true]
  constructor
  · intro h c hc
    obtain ⟨j, hj, rfl⟩ := byteOfL hc
    have := of_decide_eq_true (h j (List.mem_range.2 hj))
    unfold rwF at this
    exact Int.ofNat.inj this
  · intro h j hj
    have hj2 := List.mem_range.1 hj
    have := h (97 + j).toUInt8 (by rw [byte97 j hj2]; omega)
    refine decide_eq_true ?_
    unfold rwF
    rw [this]
theorem swR_d (d : ByteArray) : swR d ⟨#[]⟩ = rwF (by2 (hasB d.data.toList) nob) := by
  funext j
  unfold swR
  rw [if_pos (show disj d.data.toList (⟨#[]⟩ : ByteArray).data.toList = true from rfl)]
  rfl
theorem swR_s (s : ByteArray) : swR ⟨#[]⟩ s = rwF (by2 nob (hasB s.data.toList)) := by
  funext j
  unfold swR
  rw [if_pos (disj_empty s)]
  rfl
/-- The row against that of dead letters alone. -/
theorem same_dead (t s : ByteArray) : sameR (rwF (fIc t s)) (swR (tB (ltB (fun c => decide (fIc t s c = 0)) 26)) ⟨#[]⟩) = true ↔ ∀ c : UInt8, 97 ≤ c.toNat ∧ c.toNat ≤ 122 → fIc t s c ≠ 2 := by
  rw [swR_d, sameR_iff]
  refine forall_congr' fun c => forall_congr' fun hc => ?_
  unfold by2 nob
  rw [tB_list, ltB_has hc]
  have := fIc_le t s c
  by_cases h : fIc t s c = 0
  · rw [if_pos (decide_eq_true h)]; omega
  · rw [if_neg (by simpa using h), if_neg (by simp)]; omega
theorem same_stuck (t s : ByteArray) : sameR (rwF (fIc t s)) (swR ⟨#[]⟩ (tB (ltB (fun c => decide (fIc t s c = 2)) 26))) = true ↔ ∀ c : UInt8, 97 ≤ c.toNat ∧ c.toNat ≤ 122 → fIc t s c ≠ 0 := by
  rw [swR_s, sameR_iff]
  refine forall_congr' fun c => forall_congr' fun hc => ?_
  unfold by2 nob
  rw [tB_list, ltB_has hc, if_neg (by simp)]
  have := fIc_le t s c
  by_cases h : fIc t s c = 2
  · rw [if_pos (decide_eq_true h)]; omega
  · rw [if_neg (by simpa using h)]; omega
theorem all_let {t s : ByteArray} (ht : isT 20 t = true) (m : Nat) (hm : m ≠ 1) : (∀ c : UInt8, 97 ≤ c.toNat ∧ c.toNat ≤ 122 → fIc t s c ≠ m) ↔ ∀ c : UInt8, fI t.data.toList s.data.toList c ≠ m := by
  constructor
  · intro h c
    by_cases hc : c ∈ t.data.toList
    · exact h c (isT_mem ht hc)
    · rw [fI_out hc]
      exact fun e => hm e.symm
  · intro h c _
    exact h c

/-! ### CanShow -/
def csOk (t s : ByteArray) : Bool := isT 20 t && isT 40 s
def csV (t s : ByteArray) : Bool := csOk t s && decide (tB (shw (fIc t s) t.data.toList) = s)
theorem csV_no {t s : ByteArray} (h : csOk t s = false) : csV t s = false := by unfold csV; rw [h]; rfl
theorem csV_yes {t s : ByteArray} (h : csOk t s = true) : csV t s = decide (tB (shw (fIc t s) t.data.toList) = s) := by unfold csV; rw [h]; rfl
theorem csOk_t {t s : ByteArray} (h : isT 20 t = false) : csOk t s = false := by unfold csOk; rw [h]; rfl
theorem csOk_s {t s : ByteArray} (h : isT 40 s = false) : csOk t s = false := by unfold csOk; rw [h, Bool.and_false]
theorem csOk_y {t s : ByteArray} (h : isT 20 t = true) (h2 : isT 40 s = true) : csOk t s = true := by unfold csOk; rw [h, h2]; rfl
theorem csOk_p {t s : ByteArray} (h : csOk t s = true) : isT 20 t = true ∧ isT 40 s = true := by unfold csOk at h; rw [Bool.and_eq_true] at h; exact h
theorem ret_BBc {a a' b b' : Bool} (h : a = a') (h2 : b = b') : Ending.returned (.tuple #[.bool a, .bool b]) = .returned (.tuple #[.bool a', .bool b']) := by rw [h, h2]

set_option maxRecDepth 100000 in
set_option maxHeartbeats 4000000 in
theorem csI_any (t s : ByteArray) (w : World) (ht : t.size ≤ maxLen) (hs : s.size ≤ maxLen) : Calls Try.prog 15 #[.string t, .string s] w fun e w' => e = .returned (.tuple #[.bool (csV t s), .bool (csOk t s)]) ∧ Ext w w' := by
  cases h1 : isT 20 t
  · have HO := Lib.hid (csOk_t (s := s) h1)
    go_enter Try.func15, Try.ntmps15
    go_wp2_with (go_at_call 39; refine (isTyped_any _ _ ht).mono ?_; rintro e w1 ⟨rfl, x1⟩; rw [h1])
    go_ret2
    exact ⟨ret_BBc (csV_no HO.out).symm HO.out.symm, x1⟩
  cases h2 : isT 40 s
  · have HO := Lib.hid (csOk_s (t := t) h2)
    go_enter Try.func15, Try.ntmps15
    go_wp2_with (first | (go_at_call 39; refine (isTyped_any _ _ ht).mono ?_; rintro e w1 ⟨rfl, x1⟩; rw [h1]) | (go_at_call 40; refine (isShown_any _ _ hs).mono ?_; rintro e w2 ⟨rfl, x2⟩; rw [h2]))
    go_ret2
    exact ⟨ret_BBc (csV_no HO.out).symm HO.out.symm, x1.trans x2⟩
  have HO := Lib.hid (csOk_y h1 h2)
  have HS := Lib.hid (fun w => showsFor_any t s w h1 h2)
  have HV := Lib.hid (csV_yes (csOk_y h1 h2))
  obtain ⟨RR, hRR⟩ : ∃ RR, RR = (row26 (rwF (fIc t s))).toArray := ⟨_, rfl⟩
  obtain ⟨b, hb⟩ : ∃ b, b = decide (tB (shw (fIc t s) t.data.toList) = s) := ⟨_, rfl⟩
  rw [← hRR, ← hb] at HS
  rw [← hb] at HV
  have HRR := Lib.hid hRR
  have hRRs : RR.size = 26 := by rw [hRR, List.size_toArray, row26_len]
  clear hRR hb
  go_enter Try.func15, Try.ntmps15
  go_wp2_with (first | (go_at_call 39; refine (isTyped_any _ _ ht).mono ?_; rintro e w1 ⟨rfl, x1⟩; rw [h1]) | (go_at_call 40; refine (isShown_any _ _ hs).mono ?_; rintro e w2 ⟨rfl, x2⟩; rw [h2]) | (go_at_call 41; refine (HS.out _).mono ?_; rintro e w3 ⟨rfl, x3⟩; obtain ⟨W6, st6, T6, X6, _⟩ := new26 w w3 RR _ HRR.out ((x1.trans x2).trans x3)))
  go_ret2
  exact ⟨ret_BBc HV.out.symm HO.out.symm, X6⟩

set_option maxRecDepth 100000 in
set_option maxHeartbeats 4000000 in
theorem csS_any (t s : ByteArray) (w : World) (ht : t.size ≤ maxLen) (hs : s.size ≤ maxLen) : Calls Try.prog 14 #[.string t, .string s] w fun e w' => e = .returned (.tuple #[.bool (csV t s), .bool (csOk t s)]) ∧ Ext w w' := by
  have HTW := Lib.hid (show ∀ w, Calls Try.prog 36 #[.string t, .string s] w fun e w' => e = .returned (.bool (csOk t s)) ∧ w = w' from fun w => two_any t s w ht hs)
  cases h : csOk t s
  · have HO := Lib.hid (csV_no h)
    rw [h] at HTW
    go_enter Try.func14, Try.ntmps14
    go_wp2_with (go_at_call 36; refine (HTW.out _).mono ?_; rintro e w1 ⟨rfl, rfl⟩)
    go_ret2
    exact ⟨ret_BBc HO.out.symm rfl, Ext.refl _⟩
  have HV := Lib.hid (csV_yes h)
  rw [h] at HTW
  obtain ⟨h1, h2⟩ := csOk_p h
  have h20 := isT_size h1
  have h40 := isT_size h2
  have HC := Lib.hid (can_eq (s := s) h1)
  have HTL := Lib.hid (fun w => tell_any t s w h20 h40)
  have z1 : (tB (ltB (dBc t s) 26)).size ≤ maxLen := by rw [tB_size]; have := ltB_len (dBc t s) 26; unfold maxLen; omega
  have z2 : (tB (ltB (sBc t s) 26)).size ≤ maxLen := by rw [tB_size]; have := ltB_len (sBc t s) 26; unfold maxLen; omega
  obtain ⟨D, hD⟩ : ∃ D, D = tB (ltB (dBc t s) 26) := ⟨_, rfl⟩
  obtain ⟨U, hU⟩ : ∃ U, U = tB (ltB (sBc t s) 26) := ⟨_, rfl⟩
  rw [← hD, ← hU] at HC HTL
  rw [← hD] at z1
  rw [← hU] at z2
  clear hD hU
  have HSW := Lib.hid (fun w => showS_any t D U w h20 z1 z2)
  have HQ := Lib.hid (beqU (tB (shw (by2 (hasB D.data.toList) (hasB U.data.toList)) t.data.toList)) s)
  obtain ⟨Q, hQ⟩ : ∃ Q, Q = tB (shw (by2 (hasB D.data.toList) (hasB U.data.toList)) t.data.toList) := ⟨_, rfl⟩
  rw [← hQ] at HSW HQ HC
  clear hQ
  have HF := Lib.hid (show (Q.toList == s.toList) = csV t s by rw [HQ.out, HV.out]; exact decide_eq_decide.2 HC.out)
  clear HQ HC HV
  go_enter Try.func14, Try.ntmps14
  go_wp2_with (first | (go_at_call 36; refine (HTW.out _).mono ?_; rintro e w1 ⟨rfl, rfl⟩) | (go_at_call 37; refine (HTL.out _).mono ?_; rintro e w2 ⟨rfl, rfl⟩) | (go_at_call 38; refine (HSW.out _).mono ?_; rintro e w3 ⟨rfl, x3⟩))
  go_ret2
  exact ⟨ret_BBc HF.out rfl, by first | exact Ext.refl _ | exact x3⟩
end Go.Proofs.Ytcfoicogaggkbaa
