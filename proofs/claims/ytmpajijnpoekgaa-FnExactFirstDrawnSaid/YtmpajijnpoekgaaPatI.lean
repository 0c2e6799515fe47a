/- Patterns on nine points: the program's tests. No conditions. -/
import Derived.Test.YtmpajijnpoekgaaPat
import Derived.Test.YtmpajijnpoekgaaStrs
import Derived.Deep.MidRow
namespace Go.Proofs.Ytmpajijnpoekgaa
open Go.RowKit

theorem idxs_any (s : ByteArray) (b : UInt8) (w : World) : Calls Try.prog 81 #[.string s, .int .u8 b.toNat] w fun e w' => e = .returned (.int .i64 (Lib.indexByte s.data.toList b)) ∧ w = w' := by
  have h := idx_any s (b.toNat : Int) w
  rw [byteBack] at h
  exact h

set_option maxRecDepth 100000 in
set_option maxHeartbeats 1000000 in
theorem lindex_any (s : ByteArray) (b : UInt8) (w : World) : Calls Try.prog 98 #[.string s, .string ⟨#[b]⟩] w fun e w' => e = .returned (.int .i64 (Lib.indexByte s.data.toList b)) ∧ w = w' := by
  by_cases hs : s = ⟨#[b]⟩
  · subst hs
    have HV := Lib.hid (show Lib.indexByte (⟨#[b]⟩ : ByteArray).data.toList b = 0 by simp [Lib.indexByte])
    go_enter Try.func98, Try.ntmps98
    go_wp2
    go_ret
    exact ⟨ret_iD HV.out.symm, rfl⟩
  have hne : ¬ [b] = s.toList := fun e => hs (by
    rw [Lib.toList_data] at e
    apply ByteArray.ext
    exact (Array.toList_inj.1 e.symm))
  have hnb : ([b] == s.toList) = false := beq_eq_false_iff_ne.2 hne
  have hz : 0 < (⟨#[b]⟩ : ByteArray).size := Nat.zero_lt_one
  obtain ⟨x, hx⟩ : ∃ x, x = Lib.indexByte s.data.toList b := ⟨_, rfl⟩
  have he : ∀ w, (callFunc 99 #[.string s, .int .u8 ((⟨#[b]⟩ : ByteArray)[0]'hz).toNat]).run Try.prog w = .ok (.value (.int .i64 x)) w := fun w => by
    rw [run_callFunc_extern Try.func99 (by kernel_rfl) (by kernel_rfl) (by kernel_rfl) (e := Extern.BytealgIndexByte.indexByte) (by kernel_rfl), Lib.run_indexByteString]
    have e1 : (((⟨#[b]⟩ : ByteArray)[0]'hz).toNat : Int).toNat.toUInt8 = b := byteBack b
    rw [e1, hx]
    rfl
  rw [← hx]
  clear hs hx
  go_enter Try.func98, Try.ntmps98
  go_wp2
  go_ret
  exact ⟨rfl, rfl⟩
theorem lIndex_any (s : ByteArray) (b : UInt8) (w : World) : Calls Try.prog 94 #[.string s, .string ⟨#[b]⟩] w fun e w' => e = .returned (.int .i64 (Lib.indexByte s.data.toList b)) ∧ w = w' := by
  go_enter Try.func94, Try.ntmps94
  go_wp2_with (go_at_call 98; refine (lindex_any _ _ _).mono ?_; rintro e w' ⟨rfl, rfl⟩)
  go_ret
  exact ⟨rfl, rfl⟩
theorem lcont_any (s : ByteArray) (b : UInt8) (w : World) : Calls Try.prog 80 #[.string s, .string ⟨#[b]⟩] w fun e w' => e = .returned (.bool (hasT s b.toNat)) ∧ w = w' := by
  have HP := Lib.hid (has_idx s b)
  obtain ⟨x, hx⟩ : ∃ x, x = Lib.indexByte s.data.toList b := ⟨_, rfl⟩
  have HI := Lib.hid (fun w => lIndex_any s b w)
  rw [← hx] at HP HI
  clear hx
  go_enter Try.func80, Try.ntmps80
  go_wp2_with (go_at_call 94; refine (HI.out _).mono ?_; rintro e w' ⟨rfl, rfl⟩)
  go_ret
  exact ⟨ret_bool HP.out, rfl⟩

set_option maxHeartbeats 1000000 in
theorem isPat_any (s : ByteArray) (w : World) (hs : s.size ≤ maxLen) : Calls Try.prog 44 #[.string s] w fun e w' => e = .returned (.bool (isPt s)) ∧ Ext w w' := by
  cases h1 : isDg 1 9 s
  · have HV := Lib.hid (show isPt s = false by
      cases e : isPt s
      · rfl
      · rw [isPt_dg e] at h1; cases h1)
    go_enter Try.func44, Try.ntmps44
    go_wp2_with (go_at_call 62; refine (areDig_any _ _ _ _ hs).mono ?_; rintro e w' ⟨rfl, rfl⟩; rw [h1])
    go_ret
    exact ⟨ret_bool HV.out.symm, Ext.refl _⟩
  have HC := Lib.hid (fun w => (show Calls Try.prog 80 #[.string s, .string ⟨#[48]⟩] w fun e w' => e = .returned (.bool (hasT s 48)) ∧ w = w' from lcont_any s 48 w))
  by_cases h2 : hasT s 48 = true
  · have HV := Lib.hid (show isPt s = false by
      cases e : isPt s
      · rfl
      · rw [isPt_0 e] at h2; cases h2)
    rw [h2] at HC
    go_enter Try.func44, Try.ntmps44
    go_wp2_with (first | (go_at_call 62; refine (areDig_any _ _ _ _ hs).mono ?_; rintro e w' ⟨rfl, rfl⟩; rw [h1]) | (go_at_call 80; refine (HC.out _).mono ?_; rintro e w' ⟨rfl, rfl⟩))
    go_ret
    exact ⟨ret_bool HV.out.symm, Ext.refl _⟩
  rw [Bool.not_eq_true] at h2
  rw [h2] at HC
  have hz := isDg_size h1
  have HD := Lib.hid h1
  have HH2 := Lib.hid h2
  go_enter Try.func44, Try.ntmps44
  go_wp2_with (first | (go_at_call 62; refine (areDig_any _ _ _ _ hs).mono ?_; rintro e w' ⟨rfl, rfl⟩; rw [h1]) | (go_at_call 80; refine (HC.out _).mono ?_; rintro e w' ⟨rfl, rfl⟩))
  clear h1 h2
  go_loopw [13] (fun i wr => ∃ k : Nat, k ≤ s.size ∧ i = .int .i64 k ∧ ptK s k = true ∧ Ext w wr) (fun i _ => s.size - (intOf i).toNat)
  case atStart => exact ⟨0, Nat.zero_le _, rfl, rfl, Ext.refl _⟩
  case round =>
    obtain ⟨k, hk, rfl, hall, hx⟩ := hrel
    have HA := Lib.hid hall
    clear hall
    by_cases hlt : k < s.size
    · have ik : ∀ w, (Instr.index 9 (.string s) (.int .i64 (k : Int))).run Try.prog w = .ok (.int .u8 s[k].toNat) w := fun w => ixS s k hlt w
      have hsl : ∀ w, (Instr.slice 9 (.string s) none (some (.int .i64 (k : Int))) none).run Try.prog w = .ok (.string (s.extract 0 k)) w := fun w => by
        have a1 : (0 : Int) ≤ (k : Int) := by omega
        have a2 : (k : Int) ≤ (s.size : Int) := by omega
        simp [go_sem, hk]
      have hbd := isDg_bd HD.out k hlt
      have h48 : s[k].toNat ≠ 48 := by
        intro e
        have := HH2.out
        unfold hasT at this
        rw [List.any_eq_false] at this
        have hm : s[k] ∈ s.data.toList := by
          have h2 : k < s.data.toList.length := by simpa using hlt
          have : s.data.toList[k] = s[k] := rfl
          rw [← this]; exact List.getElem_mem h2
        exact this _ hm (by simp [e])
      have HX := Lib.hid (fun w => idxs_any (s.extract 0 k) s[k] w)
      have HP := Lib.hid (has_idx (s.extract 0 k) s[k])
      have HHA := Lib.hid (fun h => isPt_n (ptK_has hlt h) hlt)
      have HYE := Lib.hid (fun h3 => ptK_yes HA.out hlt (by omega) hbd.2 h3)
      obtain ⟨x, hxx⟩ : ∃ x, x = Lib.indexByte (s.extract 0 k).data.toList s[k] := ⟨_, rfl⟩
      rw [← hxx] at HX HP
      obtain ⟨b, hb⟩ : ∃ b : Nat, b = s[k].toNat := ⟨_, rfl⟩
      obtain ⟨E, hE⟩ : ∃ E, E = s.extract 0 k := ⟨_, rfl⟩
      rw [← hb] at ik HX HP HHA HYE
      rw [← hE] at hsl HX HP HHA HYE
      have hki : (k : Int) < (s.size : Int) := by omega
      have hks : ¬ (s.size : Int) < (k : Int) := by omega
      clear hxx hb hE hbd h48
      cases hg : hasT E b
      · have HN := Lib.hid (HYE.out hg)
        rw [hg] at HP
        have hx0 : ¬ 0 ≤ x := of_decide_eq_false HP.out
        clear hg
        go_wp2
        go_quiet (first | exact Calls.quiet_of_same ((HX.out _).mono fun e w' h => ⟨h.1, h.2.symm⟩))
        go_wp2
        go_roundw
        case rel => exact ⟨k + 1, by omega, by go_num, HN.out, ext_drewN hx _⟩
        case measure => simp [intOf]; omega
      · have HV := Lib.hid (HHA.out hg)
        rw [hg] at HP
        have hx0 : 0 ≤ x := of_decide_eq_true HP.out
        clear hg
        go_wp2
        go_quiet (first | exact Calls.quiet_of_same ((HX.out _).mono fun e w' h => ⟨h.1, h.2.symm⟩))
        go_wp2
        go_ret
        exact ⟨ret_bool HV.out.symm, ext_drewN hx _⟩
    · have HV := Lib.hid (isPt_y (s := s) (by omega) (by omega) ((show k = s.size by omega) ▸ HA.out))
      go_wp2
      go_ret
      exact ⟨ret_bool HV.out.symm, hx⟩

/-! ### Drawings -/
theorem tm2i : ∀ A : Nat, A < 3 → ∀ B : Nat, B < 3 → (((A : Int) - (B : Int)).tmod 2 == 0) = decide (A % 2 = B % 2) ∧ -1 ≤ ((A : Int) - (B : Int)).tmod 2 ∧ ((A : Int) - (B : Int)).tmod 2 ≤ 1 := of_decide_eq_true (by kernel_rfl)
set_option maxHeartbeats 1000000 in
theorem hasB_any (a b : Nat) (w : World) (ha : a < 9) (hb : b < 9) : Calls Try.prog 96 #[.int .i64 a, .int .i64 b] w fun e w' => e = .returned (.bool (hbP a b)) ∧ w = w' := by
  have H1 := Lib.hid (fun h => hbP_row (a := a) (b := b) h)
  have H2 := Lib.hid (fun h => hbP_all (a := a) (b := b) h)
  obtain ⟨A, hA⟩ : ∃ A, A = a / 3 := ⟨_, rfl⟩
  obtain ⟨B, hB⟩ : ∃ B, B = b / 3 := ⟨_, rfl⟩
  obtain ⟨C, hC⟩ : ∃ C, C = a % 3 := ⟨_, rfl⟩
  obtain ⟨D, hD⟩ : ∃ D, D = b % 3 := ⟨_, rfl⟩
  rw [← hA] at H1 H2
  rw [← hB] at H1 H2
  rw [← hC] at H2
  rw [← hD] at H2
  have EA := Lib.hid hA.symm
  have EB := Lib.hid hB.symm
  have EC := Lib.hid hC.symm
  have ED := Lib.hid hD.symm
  have ha12 : a < 12 := by omega
  have hb12 : b < 12 := by omega
  have A3 : A < 3 := by omega
  have B3 : B < 3 := by omega
  have C3 : C < 3 := by omega
  have D3 : D < 3 := by omega
  obtain ⟨t1, t2, t3⟩ := tm2i A A3 B B3
  obtain ⟨u1, u2, u3⟩ := tm2i C C3 D D3
  obtain ⟨r, hr⟩ : ∃ r, r = ((A : Int) - (B : Int)).tmod 2 := ⟨_, rfl⟩
  obtain ⟨q, hq⟩ : ∃ q, q = ((C : Int) - (D : Int)).tmod 2 := ⟨_, rfl⟩
  rw [← hr] at t1 t2 t3
  rw [← hq] at u1 u2 u3
  have Er := hr.symm
  have Eq' := hq.symm
  have Wr : IntKind.i64.wrap r = r := by simp only [IntKind.wrap_i64]; omega
  have Wq : IntKind.i64.wrap q = q := by simp only [IntKind.wrap_i64]; omega
  clear hr hq hA hB hC hD
  by_cases h1 : A % 2 = B % 2
  · rw [decide_eq_true h1] at t1
    have HV := Lib.hid (H2.out h1)
    have HU := Lib.hid u1
    have r0 : r = 0 := by simpa using t1
    subst r0
    clear h1 u1 t1 Wr
    go_enter Try.func96, Try.ntmps96
    go_wp2_with (first | (go_at_call 89; refine (padRow_any _ _ (by assumption)).mono ?_; rintro e w' ⟨rfl, rfl⟩; first | rw [EA.out] | rw [EB.out]) | (go_at_call 90; refine (padCol_any _ _ (by assumption)).mono ?_; rintro e w' ⟨rfl, rfl⟩; first | rw [EC.out] | rw [ED.out]))
    go_ret
    exact ⟨ret_bool (by rw [HV.out]; exact HU.out), rfl⟩
  · rw [decide_eq_false h1] at t1
    have HV := Lib.hid (H1.out h1)
    clear h1 u1
    go_enter Try.func96, Try.ntmps96
    go_wp2_with (first | (go_at_call 89; refine (padRow_any _ _ (by assumption)).mono ?_; rintro e w' ⟨rfl, rfl⟩; first | rw [EA.out] | rw [EB.out]))
    go_ret
    exact ⟨ret_bool HV.out.symm, rfl⟩

/-- A drawing: which points are drawn, and the last one. -/
def dv (d : Nat → Bool) (l : Nat) : Value := .agg #[.bool (d 0), .bool (d 1), .bool (d 2), .bool (d 3), .bool (d 4), .bool (d 5), .bool (d 6), .bool (d 7), .bool (d 8), .int .i64 l]
def inD (ps : List Nat) : Nat → Bool := fun q => decide (q ∈ ps)
def goD (d : Nat → Bool) (l p : Nat) : Bool := !d p && (!hbP l p || d ((l + p) / 2))
theorem goD_in (ps : List Nat) (l p : Nat) : goD (inD ps) l p = goP ps l p := rfl
theorem goD_y {d : Nat → Bool} {l p : Nat} (h : d p = true) : goD d l p = false := by unfold goD; rw [h]; rfl
theorem goD_far {d : Nat → Bool} {l p : Nat} (h : d p = false) (h2 : hbP l p = false) : goD d l p = true := by unfold goD; rw [h, h2]; rfl
theorem goD_mid {d : Nat → Bool} {l p : Nat} (h : d p = false) (h2 : hbP l p = true) : goD d l p = d ((l + p) / 2) := by unfold goD; rw [h, h2]; simp
theorem li9 (d : Nat → Bool) (l p : Nat) (hp : p < 9) : ∀ h : p < [Value.bool (d 0), .bool (d 1), .bool (d 2), .bool (d 3), .bool (d 4), .bool (d 5), .bool (d 6), .bool (d 7), .bool (d 8), .int .i64 (l : Int)].length, [Value.bool (d 0), .bool (d 1), .bool (d 2), .bool (d 3), .bool (d 4), .bool (d 5), .bool (d 6), .bool (d 7), .bool (d 8), .int .i64 (l : Int)][p]'h = .bool (d p) := by
  rcases (by omega : p = 0 ∨ p = 1 ∨ p = 2 ∨ p = 3 ∨ p = 4 ∨ p = 5 ∨ p = 6 ∨ p = 7 ∨ p = 8) with rfl | rfl | rfl | rfl | rfl | rfl | rfl | rfl | rfl <;> exact fun _ => rfl

set_option maxHeartbeats 1000000 in
theorem cango_any (d : Nat → Bool) (l p : Nat) (w : World) (hl : l < 9) (hp : p < 9) : Calls Try.prog 83 #[dv d l, .int .i64 p] w fun e w' => e = .returned (.bool (goD d l p)) ∧ Ext w w' := by
  have ix := li9 d l p hp
  have hp10 : p < 10 := by omega
  have HB := Lib.hid (fun w => hasB_any l p w hl hp)
  have V1 := Lib.hid (fun h => goD_y (d := d) (l := l) (p := p) h)
  have V2 := Lib.hid (fun h h2 => goD_far (d := d) (l := l) (p := p) h h2)
  have V3 := Lib.hid (fun h h2 => goD_mid (d := d) (l := l) (p := p) h h2)
  unfold dv
  cases g1 : d p
  · rw [g1] at ix
    cases g2 : hbP l p
    · have HV := Lib.hid (V2.out g1 g2)
      rw [g2] at HB
      clear g1 g2
      go_enter Try.func83, Try.ntmps83
      go_wp2_with (first | (go_at_call 96; refine (HB.out _).mono ?_; rintro e w' ⟨rfl, rfl⟩))
      go_ret
      exact ⟨ret_bool HV.out.symm, (Ext.refl _).alloc _⟩
    · have HV := Lib.hid (V3.out g1 g2)
      rw [g2] at HB
      have hm9 : (l + p) / 2 < 9 := by omega
      have ixm := li9 d l ((l + p) / 2) hm9
      have hm10 : (l + p) / 2 < 10 := by omega
      have hmi : ((l : Int) + (p : Int)) / 2 < 9 := by omega
      have hm0 : 0 ≤ ((l : Int) + (p : Int)) / 2 := by omega
      clear g1 g2
      go_enter Try.func83, Try.ntmps83
      go_wp2_with (first | (go_at_call 96; refine (HB.out _).mono ?_; rintro e w' ⟨rfl, rfl⟩))
      go_ret
      exact ⟨ret_bool HV.out.symm, (Ext.refl _).alloc _⟩
  · rw [g1] at ix
    have HV := Lib.hid (V1.out g1)
    clear g1
    go_enter Try.func83, Try.ntmps83
    go_wp2
    go_ret
    exact ⟨ret_bool HV.out.symm, (Ext.refl _).alloc _⟩
end Go.Proofs.Ytmpajijnpoekgaa
