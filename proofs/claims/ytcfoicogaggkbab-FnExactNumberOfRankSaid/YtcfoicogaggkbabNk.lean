/- The digits to which a piece goes from one: both sides. No conditions. -/
import Derived.Test.YtcfoicogaggkbabMv
import Derived.Test.YtcfoicogaggkbabBldB
import Derived.Test.YtcfoicogaggkbabIsWk
namespace Go.Proofs.Ytcfoicogaggkbab
open Go.RowKit

theorem ixMvA (A : Array Value) (k : Nat) (hk : k < 10) (v : Value) (hv : A[k]? = some v) (w : World) : (Instr.index 44 (.agg A) (.int .i64 (k : Int))).run Try.prog w = .ok v w := by
  have h2 : (0 : Int) ≤ (k : Int) := by omega
  simp [go_sem, Instr.index, part, hv]
  intro h
  omega
theorem ixMv (vs : List Value) (d : Nat) (hd : d < 10) (hl : vs.length = 10) (w : World) : (Instr.index 44 (.agg vs.toArray) (.int .i64 (d : Int))).run Try.prog w = .ok (vs.getD d nil1) w :=
  ixMvA _ d hd _ (by rw [List.getElem?_toArray, List.getD_eq_getElem?_getD, List.getElem?_eq_getElem (by rw [hl]; exact hd)]; rfl) w
theorem dig10 : ∀ k : Nat, k < 10 → (((⟨#[48, 49, 50, 51, 52, 53, 54, 55, 56, 57]⟩ : ByteArray).data.toList.getD k 0).toNat : Int) = (((48 + k).toUInt8).toNat : Int) := of_decide_eq_true (by kernel_rfl)
theorem ix10 (k : Nat) (hk : k < 10) (w : World) : (Instr.index 9 (.string ⟨#[48, 49, 50, 51, 52, 53, 54, 55, 56, 57]⟩) (.int .i64 (k : Int))).run Try.prog w = .ok (.int .u8 (((48 + k).toUInt8).toNat : Int)) w := by
  have h1 := ixS ⟨#[48, 49, 50, 51, 52, 53, 54, 55, 56, 57]⟩ k hk w
  have h2 := dig10 k hk
  rw [List.getD_eq_getElem?_getD, List.getElem?_eq_getElem (show k < (⟨#[48, 49, 50, 51, 52, 53, 54, 55, 56, 57]⟩ : ByteArray).data.toList.length from hk)] at h2
  rw [h1, ← h2]
  rfl

set_option maxHeartbeats 1000000 in
theorem digitsText_any (v : Value) (ps : List Nat) (w : World) (h : Ps w v ps) (hps : ∀ q ∈ ps, q < 10) (hl : ps.length ≤ 1000) : Calls Try.prog 39 #[v] w fun e w' => e = .returned (.string (dT ps)) ∧ Ext w w' := by
  have H := Lib.hid h
  have HP := Lib.hid hps
  have HF := Lib.hid (Lib.fresh_isBuilder 73 5 w)
  have X0 : Ext w (w.alloc (.cells #[.pointer none, .slice none 0 0] 73)) := Below.alloc (Ext.refl _) (Nat.le_refl _) _
  obtain ⟨a, cap, hv⟩ := h.at
  rw [hv] at H ⊢
  clear hv h hps
  go_enter Try.func39, Try.ntmps39
  go_wp2
  go_loopw [8] (fun i wr => ∃ k : Nat, k ≤ ps.length ∧ i = .int .i64 k ∧ Bld w.heap.size w.heap.size (dA (ps.take k)) wr ∧ Ext w wr) (fun i _ => ps.length - (intOf i).toNat)
  case atStart => exact ⟨0, Nat.zero_le _, rfl, HF.out, X0⟩
  case round =>
    obtain ⟨k, hk, rfl, hb, hx⟩ := hrel
    have HB := Lib.hid hb
    clear hb
    have hsz := hx.size
    by_cases hlt : k < ps.length
    · obtain ⟨b, off, ha, hb, hcell⟩ := (H.out.ext hx).get k hlt
      have hq : ps[k] < 10 := HP.out _ (List.getElem_mem hlt)
      have HS := Lib.hid (show dA (ps.take (k + 1)) = dA (ps.take k) ++ [(48 + ps[k]).toUInt8] by
        rw [List.take_succ_eq_append_getElem hlt, dA_snoc])
      have hlen : (dA (ps.take k)).length ≤ 1000000 := by
        unfold dA
        rw [List.length_map, List.length_take]; omega
      have hix := fun w => ix10 ps[k] hq w
      obtain ⟨c, hc⟩ : ∃ c, c = (48 + ps[k]).toUInt8 := ⟨_, rfl⟩
      rw [← hc] at HS hix
      subst ha
      clear hb hc
      go_wp2_with fail
      refine (writeB_any _ _ _ c _ _ HB.out rfl hlen hsz).mono ?_
      rintro e w2 ⟨rfl, h2, x2⟩
      have HB2 := Lib.hid h2
      clear h2
      go_wp2
      go_roundw
      case rel => exact ⟨k + 1, by omega, by go_num, by rw [HS.out]; exact HB2.out, Below.trans hx x2⟩
      case measure => simp [intOf]; omega
    · have HE := Lib.hid (show ps.take k = ps from List.take_of_length_le (by omega))
      go_wp2_with fail
      refine (string_any _ _ _ _ HB.out hsz).mono ?_
      rintro e w2 ⟨rfl, x2⟩
      go_wp2
      go_ret
      exact ⟨by rw [HE.out]; rfl, Below.trans hx x2⟩

/-! ### NextKeys -/
def nkV (s t : ByteArray) : ByteArray := if isAsk s t then dT (nx (pcI s) (dg1 t)) else ⟨#[]⟩
theorem nkV_no {s t : ByteArray} (h : isAsk s t = false) : nkV s t = ⟨#[]⟩ := by unfold nkV; rw [h]; rfl
theorem nkV_yes {p : Nat} {t : ByteArray} (h : isAsk (pcT p) t = true) (hp : p < 4) : nkV (pcT p) t = dT (nx p (dg1 t)) := by unfold nkV; rw [h, pcI_T hp]; rfl
theorem ret_sBn {a a' : ByteArray} {b b' : Bool} (h : a = a') (h2 : b = b') : Ending.returned (.tuple #[.string a, .bool b]) = .returned (.tuple #[.string a', .bool b']) := by rw [h, h2]

set_option maxHeartbeats 1000000 in
theorem nkI_any (s t : ByteArray) (w : World) (hs : s.size ≤ maxLen) (ht : t.size ≤ maxLen) : Calls Try.prog 15 #[.string s, .string t] w fun e w' => e = .returned (.tuple #[.string (nkV s t), .bool (isAsk s t)]) ∧ Ext w w' := by
  have X0 : Ext w (w.alloc (.cells #[.string t] 9)) := Below.alloc (Ext.refl _) (Nat.le_refl _) _
  have S0 := Lib.hid (strs1 w t 9 ht)
  cases h : isAsk s t
  · have HV := Lib.hid (nkV_no h)
    go_enter Try.func15, Try.ntmps15
    go_wp2_with (go_at_call 38; refine (canWalk_any _ _ _ _ S0.out hs).mono ?_; rintro e w1 ⟨rfl, x1⟩; rw [cw1, h])
    go_ret2
    exact ⟨ret_sBn HV.out.symm rfl, X0.trans x1⟩
  · obtain ⟨h1, h2, h3⟩ := isAsk_parts h
    obtain ⟨p, hp, rfl⟩ := isP_yes h1
    have HV := Lib.hid (nkV_yes h hp)
    obtain ⟨d1, d2⟩ := dg1_of h2 h3
    have HD := Lib.hid (fun w => digitOf_any t (dg1 t) w (by omega) d1 d2)
    obtain ⟨d, hd⟩ : ∃ d, d = dg1 t := ⟨_, rfl⟩
    rw [← hd] at HV HD d1
    have HH := Lib.hid h
    clear hd d2 h
    go_enter Try.func15, Try.ntmps15
    go_wp2_with (go_at_call 38; refine (canWalk_any _ _ _ _ S0.out hs).mono ?_; rintro e w1 ⟨rfl, x1⟩; rw [cw1, HH.out])
    refine (movesOf_any p w1 hp).mono ?_
    rintro e w2 ⟨vs, rfl, hvs, x2⟩
    have hix := fun w => ixMv vs d d1 hvs.1 w
    have HPS := Lib.hid ((hvs.2 d d1).ps (by have := nx_len p d; unfold maxLen; omega))
    have hl := nx_len p d
    obtain ⟨v, hv⟩ : ∃ v, v = vs.getD d nil1 := ⟨_, rfl⟩
    rw [← hv] at hix HPS
    clear hv hvs
    go_wp2_with (first | (go_at_call 41; refine (HD.out _).mono ?_; rintro e w' ⟨rfl, rfl⟩))
    refine (digitsText_any _ _ _ HPS.out (fun q hq => nx_lt hq) (by omega)).mono ?_
    rintro e w3 ⟨rfl, x3⟩
    go_wp2
    go_ret2
    exact ⟨ret_sBn HV.out.symm rfl, ((X0.trans x1).trans x2).trans x3⟩

set_option maxHeartbeats 1000000 in
theorem nkS_any (s t : ByteArray) (w : World) (_hs : s.size ≤ maxLen) (ht : t.size ≤ maxLen) : Calls Try.prog 14 #[.string s, .string t] w fun e w' => e = .returned (.tuple #[.string (nkV s t), .bool (isAsk s t)]) ∧ Ext w w' := by
  cases h : isAsk s t
  · have HV := Lib.hid (nkV_no h)
    go_enter Try.func14, Try.ntmps14
    go_wp2_with (go_at_call 36; refine (asked_any _ _ _ ht).mono ?_; rintro e w1 ⟨rfl, rfl⟩; rw [h])
    go_ret2
    exact ⟨ret_sBn HV.out.symm rfl, Ext.refl _⟩
  · obtain ⟨h1, h2, h3⟩ := isAsk_parts h
    obtain ⟨p, hp, rfl⟩ := isP_yes h1
    have HV := Lib.hid (nkV_yes h hp)
    obtain ⟨d1, d2⟩ := dg1_of h2 h3
    have h0 : 0 < t.size := by omega
    have hix := fun w => ixS0 t h0 w
    rw [d2] at hix
    have HN := Lib.hid (fun w => wkNext_any p (dg1 t) ((dg1 t : Int) + 48) w hp d1 rfl)
    obtain ⟨d, hd⟩ : ∃ d, d = dg1 t := ⟨_, rfl⟩
    rw [← hd] at HV HN hix
    have HH := Lib.hid h
    clear hd d2 d1 h
    go_enter Try.func14, Try.ntmps14
    go_wp2_with (first | (go_at_call 36; refine (asked_any _ _ _ ht).mono ?_; rintro e w1 ⟨rfl, rfl⟩; rw [HH.out]) | (go_at_call 37; refine (HN.out _).mono ?_; rintro e w1 ⟨rfl, rfl⟩))
    go_ret2
    exact ⟨ret_sBn HV.out.symm rfl, Ext.refl _⟩
end Go.Proofs.Ytcfoicogaggkbab
