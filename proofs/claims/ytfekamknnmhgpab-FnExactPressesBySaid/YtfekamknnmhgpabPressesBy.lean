/- For every list of texts and text the program's PressesBy answers as its model does, and leaves the list alone. No conditions. -/
import Derived.Test.YtfekamknnmhgpabRows
import Derived.Test.YtfekamknnmhgpabLaw
import Derived.Test.YtfekamknnmhgpabPlaces
import Derived.Test.YtfekamknnmhgpabOpenS
namespace Go.Proofs.Ytfekamknnmhgpab.pressesBy
open Go.ChangeShapes Go.WideShapes Go.ChangeAt Go.RowKit
open Go.ChangeMaps (open_string shut_string)

def pbL (ss : List ByteArray) : List UInt8 → Int
  | [] => 0
  | c :: l => (pf ss c : Int) + 1 + pbL ss l
theorem pbL_snoc (ss : List ByteArray) (l : List UInt8) (c : UInt8) : pbL ss (l ++ [c]) = pbL ss l + ((pf ss c : Int) + 1) := by
  induction l with
  | nil => simp [pbL]
  | cons d l ih => simp only [List.cons_append, pbL, ih]; omega
theorem pbL_bd (ss : List ByteArray) (h : sumLen ss ≤ 1048576) : ∀ l : List UInt8, 0 ≤ pbL ss l ∧ pbL ss l ≤ 1048577 * l.length
  | [] => by simp [pbL]
  | c :: l => by
    have h1 := pf_le ss c
    have h2 := pbL_bd ss h l
    simp only [pbL, List.length_cons]
    omega
def okB (ss : List ByteArray) (s : ByteArray) : Bool := layB ss && isW s
def pbV (ss : List ByteArray) (s : ByteArray) : Int := if okB ss s then pbL ss s.data.toList else 0
theorem okB_l {ss : List ByteArray} {s : ByteArray} (h : layB ss = false) : okB ss s = false := by unfold okB; simp [h]
theorem okB_w {ss : List ByteArray} {s : ByteArray} (h : isW s = false) : okB ss s = false := by unfold okB; simp [h]
theorem okB_yes {ss : List ByteArray} {s : ByteArray} (h : layB ss = true) (h2 : isW s = true) : okB ss s = true := by unfold okB; simp [h, h2]
theorem pbV_no {ss : List ByteArray} {s : ByteArray} (h : okB ss s = false) : pbV ss s = 0 := by unfold pbV; simp [h]
theorem pbV_yes {ss : List ByteArray} {s : ByteArray} (h : okB ss s = true) : pbV ss s = pbL ss s.data.toList := by unfold pbV; simp [h]

set_option maxHeartbeats 2000000 in
theorem spec_any (v : Value) (ss : List ByteArray) (s : ByteArray) (w : World) (h : Strs w v ss) (hs : s.size ≤ maxLen) (hn : ss.length ≤ 1048576) (hb : sumLen ss ≤ 1048576) : Calls Try.prog 12 #[v, .string s] w fun e w' => e = .returned (.tuple #[.int .i64 (pbV ss s), .bool (okB ss s)]) ∧ Ext w w' := by
  have HS := Lib.hid h
  clear h
  cases hl : layB ss
  · have H := Lib.hid (okB_l (s := s) hl)
    go_enter Try.func12, Try.ntmps12
    go_wp2_with (go_at_call 23; refine (prLayout_any _ _ _ HS.out hb).mono ?_; rintro e w1 ⟨rfl, x1⟩)
    go_ret2
    exact ⟨ret_ib (pbV_no H.out).symm H.out.symm, x1⟩
  cases hw : isW s
  · have H := Lib.hid (okB_w (ss := ss) hw)
    go_enter Try.func12, Try.ntmps12
    go_wp2_with (first | (go_at_call 23; refine (prLayout_any _ _ _ HS.out hb).mono ?_; rintro e w1 ⟨rfl, x1⟩) | (go_at_call 25; refine (prW_any _ _ hs).mono ?_; rintro e w' ⟨rfl, rfl⟩))
    go_ret2
    exact ⟨ret_ib (pbV_no H.out).symm H.out.symm, x1⟩
  obtain ⟨hz1, hz2⟩ := wsize hw
  have H := Lib.hid (okB_yes hl hw)
  have HL := Lib.hid (And.intro hl hw)
  go_enter Try.func12, Try.ntmps12
  go_wp2_with (first | (go_at_call 23; refine (prLayout_any _ _ _ HS.out hb).mono ?_; rintro e w1 ⟨rfl, x1⟩) | (go_at_call 25; refine (prW_any _ _ hs).mono ?_; rintro e w' ⟨rfl, rfl⟩))
  clear hl hw
  go_loop [6, 7] (fun n i => ∃ k : Nat, k ≤ s.size ∧ i = .int .i64 k ∧ n = .int .i64 (pbL ss (s.data.toList.take k))) (fun _ i => s.size - (intOf i).toNat)
  case atStart => exact ⟨0, Nat.zero_le _, rfl, rfl⟩
  case round =>
    obtain ⟨k, hk, rfl, rfl⟩ := hrel
    obtain ⟨hb1, hb2⟩ := pbL_bd ss hb (s.data.toList.take k)
    have hl : (s.data.toList.take k).length ≤ k := List.length_take_le _ _
    by_cases hlt : k < s.size
    · have hp := pf_le ss s[k]
      have HK := Lib.hid (kf_lt HL.out.1 s[k] (wget HL.out.2 k hlt))
      have HN := Lib.hid (pbL_snoc ss (s.data.toList.take k) s[k])
      have HT := Lib.hid (wtake s k hlt)
      go_wp2_with (go_at_call 26; refine (prPlace_any _ _ _ _ (HS.out.ext x1) hn hb HK.out).mono ?_; rintro e w' ⟨rfl, rfl⟩)
      go_round
      case rel => exact ⟨k + 1, by omega, by go_num, by rw [HT.out, HN.out]⟩
      case measure => simp [intOf]; omega
    · have HT := Lib.hid (wall s k (by omega))
      go_wp2
      go_ret2
      exact ⟨ret_ib (by rw [pbV_yes H.out, HT.out]) H.out.symm, x1⟩

theorem idx_pf (ss : List ByteArray) (c : UInt8) (hk : kf ss c < ss.length) (w : World) : Calls Try.prog 29 #[.string ss[kf ss c], .int .u8 (c.toNat : Int)] w fun e w' => e = .returned (.int .i64 (pf ss c : Int)) ∧ w' = w := by
  refine (idx_same ss[kf ss c] c w).mono fun e w' h => ?_
  have h2 : has c ss[kf ss c] = true := List.findIdx_getElem (xs := ss) (p := has c) (w := hk)
  have h3 : Lib.indexByte ss[kf ss c].data.toList c = (pf ss c : Int) := by
    rw [idx_has, if_pos (show ss[kf ss c].data.toList.contains c = true from h2)]
    unfold pf
    rw [List.getD_eq_getElem?_getD, List.getElem?_eq_getElem hk]
    rfl
  rw [h3] at h
  exact h
theorem ix_str (s : ByteArray) (k : Nat) (hk : k < s.size) (w : World) : (Instr.index 9 (.string s) (.int .i64 (k : Int))).run Try.prog w = .ok (.int .u8 s[k].toNat) w := by
  have h1 : (k : Int) < (s.size : Int) := by omega
  simp [go_sem, hk]

set_option maxHeartbeats 2000000 in
theorem impl_any (v : Value) (ss : List ByteArray) (s : ByteArray) (w : World) (h : Strs w v ss) (hs : s.size ≤ maxLen) (hn : ss.length ≤ 1048576) (hb : sumLen ss ≤ 1048576) : Calls Try.prog 13 #[v, .string s] w fun e w' => e = .returned (.tuple #[.int .i64 (pbV ss s), .bool (okB ss s)]) ∧ Ext w w' := by
  have HS := Lib.hid h
  obtain ⟨a, cap, hv, _⟩ := h.at
  rw [hv] at HS ⊢
  clear hv h v
  cases hl : layB ss
  · have H := Lib.hid (okB_l (s := s) hl)
    go_enter Try.func13, Try.ntmps13
    go_wp2_with (go_at_call 10; refine (impLayout_any _ _ _ HS.out hb).mono ?_; rintro e w1 ⟨rfl, x1⟩)
    go_ret2
    exact ⟨ret_ib (pbV_no H.out).symm H.out.symm, x1⟩
  cases hw : isW s
  · have H := Lib.hid (okB_w (ss := ss) hw)
    go_enter Try.func13, Try.ntmps13
    go_wp2_with (first | (go_at_call 10; refine (impLayout_any _ _ _ HS.out hb).mono ?_; rintro e w1 ⟨rfl, x1⟩) | (go_at_call 27; refine (isW_any _ _ hs).mono ?_; rintro e w' ⟨rfl, rfl⟩))
    go_ret2
    exact ⟨ret_ib (pbV_no H.out).symm H.out.symm, x1⟩
  obtain ⟨hz1, hz2⟩ := wsize hw
  have H := Lib.hid (okB_yes hl hw)
  have HL := Lib.hid (And.intro hl hw)
  go_enter Try.func13, Try.ntmps13
  go_wp2_with (first | (go_at_call 10; refine (impLayout_any _ _ _ HS.out hb).mono ?_; rintro e w1 ⟨rfl, x1⟩) | (go_at_call 27; refine (isW_any _ _ hs).mono ?_; rintro e w' ⟨rfl, rfl⟩))
  clear hl hw
  go_loopw [6, 19] (fun n i wr => ∃ k : Nat, k ≤ s.size ∧ i = .int .i64 k ∧ n = .int .i64 (pbL ss (s.data.toList.take k)) ∧ Ext w wr) (fun _ i _ => s.size - (intOf i).toNat)
  case atStart => exact ⟨0, Nat.zero_le _, rfl, rfl, x1⟩
  case round =>
    obtain ⟨k, hk, rfl, rfl, hx⟩ := hrel
    obtain ⟨hb1, hb2⟩ := pbL_bd ss hb (s.data.toList.take k)
    have hl : (s.data.toList.take k).length ≤ k := List.length_take_le _ _
    by_cases hlt : k < s.size
    · have hp := pf_le ss s[k]
      have hkf := kf_lt HL.out.1 s[k] (wget HL.out.2 k hlt)
      have HK := Lib.hid hkf
      have HN := Lib.hid (pbL_snoc ss (s.data.toList.take k) s[k])
      have HT := Lib.hid (wtake s k hlt)
      have hidx : ∀ w, (Instr.index 9 (.string s) (.int .i64 (k : Int))).run Try.prog w = .ok (.int .u8 s[k].toNat) w := fun w => ix_str s k hlt w
      have W1 : IntKind.i64.wrap ((pf ss s[k] : Int) + 1) = (pf ss s[k] : Int) + 1 := IntWalk.i64_in _ (by omega)
      have W2 : IntKind.i64.wrap (pbL ss (s.data.toList.take k) + ((pf ss s[k] : Int) + 1)) = pbL ss (s.data.toList.take k) + ((pf ss s[k] : Int) + 1) := IntWalk.i64_in _ (by omega)
      have b1 : (kf ss s[k] : Int) < (ss.length : Int) := by omega
      rcases (HS.out.ext hx).2.2 with ⟨h2, _⟩ | ⟨b, off, cap', h1, hbb, hc⟩
      · rw [h2] at hkf; exact absurd hkf (by simp)
      have ha : a = some ⟨b, off, none⟩ := by injection h1
      have hcell := hc (kf ss s[k]) hkf
      rw [ha]
      clear hc h1 hbb
      go_wp2_with (go_at_call 28; refine (keyIn_any _ _ _ _ (ha ▸ HS.out.ext hx) hn HK.out).mono ?_; rintro e w' ⟨rfl, rfl⟩)
      go_quiet ((go_at_call 29; exact Calls.quiet_of_same (idx_pf ss _ HK.out _)))
      go_wp2
      go_roundw
      case rel => exact ⟨k + 1, by omega, by go_num, by rw [HT.out, HN.out], ext_drewN hx _⟩
      case measure => simp [intOf]; omega
    · have HT := Lib.hid (wall s k (by omega))
      go_wp2
      go_ret2
      exact ⟨ret_ib (by rw [pbV_yes H.out, HT.out]) H.out.symm, hx⟩

set_option maxHeartbeats 1000000 in
theorem walk (w : World) (v : Value) (ss : List ByteArray) (h : Strs w v ss) (s : ByteArray) (hs : s.size ≤ maxLen) : Calls Try.prog 4 #[v, .string s] w fun e w' => e = .returned (.bool true) ∧ Ext w w' := by
  have H := Lib.hid h
  have h63 : s.size ≤ 9223372036854775807 := hs
  clear h
  by_cases hbig : 1048576 < s.size
  · go_enter Try.func4, Try.ntmps4
    go_wp2
    go_ret
    exact ⟨rfl, Ext.refl _⟩
  go_enter Try.func4, Try.ntmps4
  go_wp2_with (first | (go_at_call 7; refine (szS_any _ _ _ H.out).mono ?_; rintro e w' ⟨r, hr, rfl, rfl⟩))
  · go_ret
    exact ⟨rfl, Ext.refl _⟩
  · have hf := hr (by assumption)
    obtain ⟨hn, hb⟩ := hf
    refine (toS_any _ _ _ H.out hn).mono ?_
    rintro e w1 ⟨u1, rfl, hu1, x1, _⟩
    have H1 := Lib.hid hu1
    clear hu1 hr
    go_wp2_with fail
    refine (spec_any _ _ _ _ H1.out hs hn hb).mono ?_
    rintro e w2 ⟨rfl, x2⟩
    go_wp2_with fail
    refine (toS_any _ _ _ (H.out.ext (x1.trans x2)) hn).mono ?_
    rintro e w3 ⟨u3, rfl, hu3, x3, _⟩
    have H3 := Lib.hid hu3
    clear hu3
    go_wp2_with fail
    refine (impl_any _ _ _ _ H3.out hs hn hb).mono ?_
    rintro e w4 ⟨rfl, x4⟩
    go_wp2_with fail
    refine (toS_any _ _ _ (H.out.ext (((x1.trans x2).trans x3).trans x4)) hn).mono ?_
    rintro e w5 ⟨u5, rfl, hu5, x5, _⟩
    have H5 := Lib.hid hu5
    clear hu5
    go_wp2_with fail
    refine (eqS_any _ _ _ _ (H3.out.ext (x4.trans x5)) H5.out hn).mono ?_
    rintro e w6 ⟨rfl, x6⟩
    go_wp2_with fail
    go_ret
    exact ⟨rfl, ((((x1.trans x2).trans x3).trans x4).trans x5).trans x6⟩

theorem contract (H : Type) (enc : TypeId × Value → H) (W : World) (base : Nat) (args : Array Value) (ds gs : List (DataW H)) (before : List MemPlace)
    (hval : ∀ (j : Nat) t v, Try.f4.params[j]? = some t → args[j]? = some v → Value.okWide Try.prog W .any base t v)
    (hW : DataW.Whole enc Try.prog Try.f4.params.toList Rows.fnExactPressesBySpec.vars false W args.toList ds gs before) :
    Calls Try.prog 4 args W fun e W' => ∃ v, e = .returned v ∧ Rows.fnExactPressesBySpec.post enc Try.prog Try.f4 false true false false W args v W' := by
  have hW' := hW
  obtain ⟨p, q, hA0, hV, rfl, hfz, hnd⟩ := hW
  have hA : DataW.TrodAll enc Try.prog W 0 (fun _ => true) true Try.f4.params.toList args.toList ds p := hA0
  rw [Try.params4] at hA hval
  obtain ⟨v0, vs0, d0, ds0, p0, q0, hargs0, rfl, rfl, h0, r0⟩ := trodAll_cons hA
  obtain ⟨v1, vs1, d1, ds1, p1, q1, hargs1, rfl, rfl, h1, r1⟩ := trodAll_cons r0
  obtain ⟨rfl, rfl, rfl⟩ := trodAll_nil r1
  subst hargs1
  obtain rfl : args = #[v0, v1] := Array.toList_inj.1 hargs0
  obtain ⟨s0, z0⟩ := strs_of (hval 0 22 v0 rfl rfl) h0
  obtain ⟨s1, rfl, rfl, rfl, z1⟩ := open_string Try.underlying9 (hval 1 9 v1 rfl rfl) h1
  clear hA0
  refine (walk W v0 s0 z0 s1 z1).mono fun e W' ⟨he, hx⟩ => ?_
  subst he
  exact ⟨_, rfl, post_true (tb := 4) laidOut (by rw [Try.params4]; intro t ht; simp at ht; rcases ht with rfl | rfl <;> exact ⟨by kernel_rfl, of_decide_eq_true (by kernel_rfl)⟩) (by kernel_rfl) hW' hx (by obtain ⟨rfl, rfl⟩ := trodVars_none hV; rfl) rfl Try.underlying4⟩

set_option maxRecDepth 100000 in
theorem lifted (os : Os) (started : os.Started) (H : Type) (enc : TypeId × Value → H) :
    ReturnsInHanded {} Try.checked os 4 .any (Rows.fnExactPressesBySpec.pre6 enc Try.prog Try.f4 Rows.fnExactPressesByRow.domain false) (Rows.fnExactPressesBySpec.post enc Try.prog Try.f4 false true false false) := by
  refine returnsInHanded_of_change (C := Try.checked) own started (by kernel_rfl) Try.func4
    (ChangeSpec.witness6 (enc := enc) (C := Try.checked) false ⟨#[], #[.slice none 0 0, .string ByteArray.empty], []⟩ 8 (by kernel_rfl) (by kernel_rfl) (by kernel_rfl) (by kernel_rfl)) ?_
  intro W base args ds gs before hval hW _ _
  exact contract H enc W base args ds gs before hval hW

theorem said : Rows.FnExactPressesBySaid :=
  OpenClaim.holds_of_wide 4 Try.f4 rfl rfl rfl rfl rfl rfl rfl ⟨rfl, rfl, rfl, rfl, rfl⟩ rfl rfl rfl rfl rfl (by kernel_rfl) Try.func4 (by kernel_rfl)
    (of_decide_eq_true (by kernel_rfl)) (by unfold Func.isWrapper; first | (rw [if_pos (by decide +kernel)]; kernel_rfl) | (rw [if_neg (by decide +kernel)]; exact ⟨rfl, rfl⟩))
    (fun os started H enc _ => lifted os started H enc)
end Go.Proofs.Ytfekamknnmhgpab.pressesBy
