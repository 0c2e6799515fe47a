/- The digits to which a piece goes from one: both sides. No conditions. -/
import Derived.Test.YtmpajijnpoekgadMv
import Derived.Test.YtmpajijnpoekgadDgTx
import Derived.Test.YtmpajijnpoekgadIsWk
namespace Go.Proofs.Ytmpajijnpoekgad
open Go.RowKit

theorem ixMvA (A : Array Value) (k : Nat) (hk : k < 10) (v : Value) (hv : A[k]? = some v) (w : World) : (Instr.index 47 (.agg A) (.int .i64 (k : Int))).run Try.prog w = .ok v w := by
  have h2 : (0 : Int) ≤ (k : Int) := by omega
  simp [go_sem, Instr.index, part, hv]
  intro h
  omega
theorem ixMv (vs : List Value) (d : Nat) (hd : d < 10) (hl : vs.length = 10) (w : World) : (Instr.index 47 (.agg vs.toArray) (.int .i64 (d : Int))).run Try.prog w = .ok (vs.getD d nil1) w :=
  ixMvA _ d hd _ (by rw [List.getElem?_toArray, List.getD_eq_getElem?_getD, List.getElem?_eq_getElem (by rw [hl]; exact hd)]; rfl) w

/-! ### NextKeys -/
def nkV (s t : ByteArray) : ByteArray := if isAsk s t then dT (nx (pcI s) (dg1 t)) else ⟨#[]⟩
theorem nkV_no {s t : ByteArray} (h : isAsk s t = false) : nkV s t = ⟨#[]⟩ := by unfold nkV; rw [h]; rfl
theorem nkV_yes {p : Nat} {t : ByteArray} (h : isAsk (pcT p) t = true) (hp : p < 4) : nkV (pcT p) t = dT (nx p (dg1 t)) := by unfold nkV; rw [h, pcI_T hp]; rfl
theorem ret_sBn {a a' : ByteArray} {b b' : Bool} (h : a = a') (h2 : b = b') : Ending.returned (.tuple #[.string a, .bool b]) = .returned (.tuple #[.string a', .bool b']) := by rw [h, h2]

set_option maxHeartbeats 1000000 in
theorem nkI_any (s t : ByteArray) (w : World) (hs : s.size ≤ maxLen) (ht : t.size ≤ maxLen) : Calls Try.prog 12 #[.string s, .string t] w fun e w' => e = .returned (.tuple #[.string (nkV s t), .bool (isAsk s t)]) ∧ Ext w w' := by
  have X0 : Ext w (w.alloc (.cells #[.string t] 9)) := Below.alloc (Ext.refl _) (Nat.le_refl _) _
  have S0 := Lib.hid (strs1 w t 9 ht)
  cases h : isAsk s t
  · have HV := Lib.hid (nkV_no h)
    go_enter Try.func12, Try.ntmps12
    go_wp2_with (go_at_call 32; refine (canWalk_any _ _ _ _ S0.out hs).mono ?_; rintro e w1 ⟨rfl, x1⟩; rw [cw1, h])
    go_ret2
    exact ⟨ret_sBn HV.out.symm rfl, X0.trans x1⟩
  · obtain ⟨h1, h2, h3⟩ := isAsk_parts h
    obtain ⟨p, hp, rfl⟩ := isP_yes h1
    have HV := Lib.hid (nkV_yes h hp)
    obtain ⟨d1, d2⟩ := dg1_of h2 h3
    have HD := Lib.hid (fun w => digitOf_any t (dg1 t) w (by omega) d1 d2)
    obtain ⟨d, hd⟩ : ∃ d, d = dg1 t := ⟨_, rfl⟩
    rw [← hd] at HV HD d1
    have HH := Lib.hid h
    clear hd d2 h
    go_enter Try.func12, Try.ntmps12
    go_wp2_with (go_at_call 32; refine (canWalk_any _ _ _ _ S0.out hs).mono ?_; rintro e w1 ⟨rfl, x1⟩; rw [cw1, HH.out])
    refine (movesOf_any p w1 hp).mono ?_
    rintro e w2 ⟨vs, rfl, hvs, x2⟩
    have hix := fun w => ixMv vs d d1 hvs.1 w
    have HPS := Lib.hid ((hvs.2 d d1).ps (by have := nx_len p d; unfold maxLen; omega))
    have hl := nx_len p d
    obtain ⟨v, hv⟩ : ∃ v, v = vs.getD d nil1 := ⟨_, rfl⟩
    rw [← hv] at hix HPS
    clear hv hvs
    go_wp2_with (first | (go_at_call 35; refine (HD.out _).mono ?_; rintro e w' ⟨rfl, rfl⟩))
    refine (digitsText_any _ _ _ HPS.out (fun q hq => nx_lt hq) (by omega)).mono ?_
    rintro e w3 ⟨rfl, x3⟩
    go_wp2
    go_ret2
    exact ⟨ret_sBn HV.out.symm rfl, ((X0.trans x1).trans x2).trans x3⟩

set_option maxHeartbeats 1000000 in
theorem nkS_any (s t : ByteArray) (w : World) (_hs : s.size ≤ maxLen) (ht : t.size ≤ maxLen) : Calls Try.prog 11 #[.string s, .string t] w fun e w' => e = .returned (.tuple #[.string (nkV s t), .bool (isAsk s t)]) ∧ Ext w w' := by
  cases h : isAsk s t
  · have HV := Lib.hid (nkV_no h)
    go_enter Try.func11, Try.ntmps11
    go_wp2_with (go_at_call 30; refine (asked_any _ _ _ ht).mono ?_; rintro e w1 ⟨rfl, rfl⟩; rw [h])
    go_ret2
    exact ⟨ret_sBn HV.out.symm rfl, Ext.refl _⟩
  · obtain ⟨h1, h2, h3⟩ := isAsk_parts h
    obtain ⟨p, hp, rfl⟩ := isP_yes h1
    have HV := Lib.hid (nkV_yes h hp)
    obtain ⟨d1, d2⟩ := dg1_of h2 h3
    have h0 : 0 < t.size := by omega
    have hix := fun w => ixS0 t h0 w
    rw [d2] at hix
    have HN := Lib.hid (fun w => wkNext_any p (dg1 t) ((dg1 t : Int) + 48) w hp d1 rfl)
    obtain ⟨d, hd⟩ : ∃ d, d = dg1 t := ⟨_, rfl⟩
    rw [← hd] at HV HN hix
    have HH := Lib.hid h
    clear hd d2 d1 h
    go_enter Try.func11, Try.ntmps11
    go_wp2_with (first | (go_at_call 30; refine (asked_any _ _ _ ht).mono ?_; rintro e w1 ⟨rfl, rfl⟩; rw [HH.out]) | (go_at_call 31; refine (HN.out _).mono ?_; rintro e w1 ⟨rfl, rfl⟩))
    go_ret2
    exact ⟨ret_sBn HV.out.symm rfl, Ext.refl _⟩
end Go.Proofs.Ytmpajijnpoekgad
