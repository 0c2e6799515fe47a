/- Patterns on nine points: the model's tests. No conditions. -/
import Derived.Test.YtmpajijnpoekgaaPat
import Derived.Test.YtmpajijnpoekgaaStrs
import Derived.Lib.Strings
namespace Go.Proofs.Ytmpajijnpoekgaa
open Go.RowKit

theorem hasT_take (s : ByteArray) (c : Int) (k : Nat) (h : k < s.size) : (s.data.toList.take (k + 1)).any (fun b => decide ((b.toNat : Int) = c)) = ((s.data.toList.take k).any (fun b => decide ((b.toNat : Int) = c)) || decide ((s[k].toNat : Int) = c)) := by
  have h2 : s.data.toList.take (k + 1) = s.data.toList.take k ++ [s[k]] := by
    rw [List.take_succ_eq_append_getElem (by simpa using h)]; rfl
  rw [h2, List.any_append]; simp
theorem hasT_hit {s : ByteArray} {c : Int} {k : Nat} (h : k < s.size) (he : (s[k].toNat : Int) = c) : hasT s c = true := by
  unfold hasT
  rw [List.any_eq_true]
  have h2 : k < s.data.toList.length := by simpa using h
  exact ⟨s[k], by have : s.data.toList[k] = s[k] := rfl
                  rw [← this]; exact List.getElem_mem h2, decide_eq_true he⟩

set_option maxHeartbeats 400000 in
theorem piHas_any (s : ByteArray) (c : Int) (w : World) (hs : s.size ≤ maxLen) : Calls Try.prog 79 #[.string s, .int .u8 c] w fun e w' => e = .returned (.bool (hasT s c)) ∧ w = w' := by
  unfold maxLen at hs
  go_enter Try.func79, Try.ntmps79
  go_wp2
  go_loop [5] (fun i => ∃ k : Nat, k ≤ s.size ∧ i = .int .i64 k ∧ (s.data.toList.take k).any (fun b => decide ((b.toNat : Int) = c)) = false) (fun i => s.size - (intOf i).toNat)
  case atStart => exact ⟨0, Nat.zero_le _, rfl, rfl⟩
  case round =>
    obtain ⟨k, hk, rfl, hall⟩ := hrel
    have HA := Lib.hid hall
    clear hall
    by_cases hlt : k < s.size
    · have ik : ∀ w, (Instr.index 9 (.string s) (.int .i64 (k : Int))).run Try.prog w = .ok (.int .u8 s[k].toNat) w := fun w => ixS s k hlt w
      have HT := Lib.hid (hasT_take s c k hlt)
      have HH := Lib.hid (fun h => hasT_hit (c := c) hlt h)
      obtain ⟨b, hb⟩ : ∃ b : Nat, b = s[k].toNat := ⟨_, rfl⟩
      rw [← hb] at ik HT HH
      clear hb
      by_cases he : (b : Int) = c
      · have HV := Lib.hid (HH.out he)
        have hbe : ((b : Int) == c) = true := beq_iff_eq.2 he
        clear he
        go_wp2
        go_ret
        exact ⟨ret_bool HV.out.symm, rfl⟩
      · have HN := Lib.hid (show (s.data.toList.take (k + 1)).any (fun b => decide ((b.toNat : Int) = c)) = false by rw [HT.out, HA.out, decide_eq_false he]; rfl)
        have hbe : ((b : Int) == c) = false := beq_eq_false_iff_ne.2 he
        clear he
        go_wp2
        go_round
        case rel => exact ⟨k + 1, by omega, by go_num, HN.out⟩
        case measure => simp [intOf]; omega
    · have HV := Lib.hid (show hasT s c = false by
        have := HA.out
        rw [List.take_of_length_le (by simp; omega)] at this
        exact this)
      go_wp2
      go_ret
      exact ⟨ret_bool HV.out.symm, rfl⟩

set_option maxHeartbeats 1000000 in
theorem piPat_any (s : ByteArray) (w : World) (hs : s.size ≤ maxLen) : Calls Try.prog 42 #[.string s] w fun e w' => e = .returned (.bool (isPt s)) ∧ Ext w w' := by
  unfold maxLen at hs
  by_cases h1 : s.size < 1
  · have H := Lib.hid (isPt_short h1)
    have hi := inW_lo (n := s.size) (lo := 1) (hi := 9) (by omega)
    go_enter Try.func42, Try.ntmps42
    go_wp2_with (go_at_call 55; refine (inW_any _ _ _ _).mono ?_; rintro e w' ⟨rfl, rfl⟩; rw [hi])
    go_ret
    exact ⟨ret_bool H.out.symm, Ext.refl _⟩
  by_cases h2 : 9 < s.size
  · have H := Lib.hid (isPt_long h2)
    have hi := inW_hi (n := s.size) (lo := 1) (hi := 9) (by omega)
    go_enter Try.func42, Try.ntmps42
    go_wp2_with (go_at_call 55; refine (inW_any _ _ _ _).mono ?_; rintro e w' ⟨rfl, rfl⟩; rw [hi])
    go_ret
    exact ⟨ret_bool H.out.symm, Ext.refl _⟩
  have hi := inW_yes (n := s.size) (lo := 1) (hi := 9) (by omega) (by omega)
  go_enter Try.func42, Try.ntmps42
  go_wp2_with (go_at_call 55; refine (inW_any _ _ _ _).mono ?_; rintro e w' ⟨rfl, rfl⟩; rw [hi])
  clear hi
  go_loopw [3] (fun i wr => ∃ k : Nat, k ≤ s.size ∧ i = .int .i64 k ∧ ptK s k = true ∧ Ext w wr) (fun i _ => s.size - (intOf i).toNat)
  case atStart => exact ⟨0, Nat.zero_le _, rfl, rfl, Ext.refl _⟩
  case round =>
    obtain ⟨k, hk, rfl, hall, hx⟩ := hrel
    have HA := Lib.hid hall
    clear hall
    by_cases hlt : k < s.size
    · have ik : ∀ w, (Instr.index 9 (.string s) (.int .i64 (k : Int))).run Try.prog w = .ok (.int .u8 s[k].toNat) w := fun w => ixS s k hlt w
      have hsl : ∀ w, (Instr.slice 9 (.string s) none (some (.int .i64 (k : Int))) none).run Try.prog w = .ok (.string (s.extract 0 k)) w := fun w => by
        have a1 : (0 : Int) ≤ (k : Int) := by omega
        have a2 : (k : Int) ≤ (s.size : Int) := by omega
        simp [go_sem, hk]
      have HH := Lib.hid (fun w => piHas_any (s.extract 0 k) (s[k].toNat : Int) w (by rw [ByteArray.size_extract]; unfold maxLen; omega))
      have HLO := Lib.hid (fun h => isPt_n (ptK_lo hlt h) hlt)
      have HHI := Lib.hid (fun h => isPt_n (ptK_hi hlt h) hlt)
      have HHA := Lib.hid (fun h => isPt_n (ptK_has hlt h) hlt)
      have HYE := Lib.hid (fun h1 h2 h3 => ptK_yes HA.out hlt h1 h2 h3)
      obtain ⟨b, hb⟩ : ∃ b : Nat, b = s[k].toNat := ⟨_, rfl⟩
      obtain ⟨E, hE⟩ : ∃ E, E = s.extract 0 k := ⟨_, rfl⟩
      rw [← hb] at ik HH HLO HHI HHA HYE
      rw [← hE] at hsl HH HHA HYE
      have hki : (k : Int) < (s.size : Int) := by omega
      have hks : ¬ (s.size : Int) < (k : Int) := by omega
      clear hb hE
      by_cases hA : b < 49
      · have HV := Lib.hid (HLO.out hA)
        have hAi : (b : Int) < 49 := by omega
        clear hA
        go_wp2
        go_quiet (fail)
        go_wp2
        go_ret
        exact ⟨ret_bool HV.out.symm, ext_drewN hx _⟩
      have hAi : ¬ (b : Int) < 49 := by omega
      by_cases hB : 57 < b
      · have HV := Lib.hid (HHI.out hB)
        have hBi : (57 : Int) < (b : Int) := by omega
        clear hB hA
        go_wp2
        go_quiet (fail)
        go_wp2
        go_ret
        exact ⟨ret_bool HV.out.symm, ext_drewN hx _⟩
      have hBi : ¬ (57 : Int) < (b : Int) := by omega
      cases hg : hasT E b
      · have HN := Lib.hid (HYE.out (by omega) (by omega) hg)
        rw [hg] at HH
        clear hA hB hg
        go_wp2
        go_quiet (first | exact Calls.quiet_of_same ((HH.out _).mono fun e w' h => ⟨h.1, h.2.symm⟩))
        go_wp2
        go_roundw
        case rel => exact ⟨k + 1, by omega, by go_num, HN.out, ext_drewN hx _⟩
        case measure => simp [intOf]; omega
      · have HV := Lib.hid (HHA.out hg)
        rw [hg] at HH
        clear hA hB hg
        go_wp2
        go_quiet (first | exact Calls.quiet_of_same ((HH.out _).mono fun e w' h => ⟨h.1, h.2.symm⟩))
        go_wp2
        go_ret
        exact ⟨ret_bool HV.out.symm, ext_drewN hx _⟩
    · have HV := Lib.hid (isPt_y (s := s) (by omega) (by omega) ((show k = s.size by omega) ▸ HA.out))
      go_wp2
      go_ret
      exact ⟨ret_bool HV.out.symm, hx⟩

/-- The point between, by its sign, or 0. -/
def bwP (a b : Nat) : Nat := if hbP a b then 49 + (a + b) / 2 else 0
theorem bwP_no {a b : Nat} (h : hbP a b = false) : bwP a b = 0 := by unfold bwP; rw [h]; rfl
theorem bwP_yes {a b : Nat} (h : hbP a b = true) : bwP a b = 49 + (a + b) / 2 := by unfold bwP; rw [h]; rfl
theorem tm2 : ∀ A : Nat, A < 3 → ∀ B : Nat, B < 3 → (((A : Int) - (B : Int)).tmod 2 == 0) = decide (A % 2 = B % 2) ∧ -1 ≤ ((A : Int) - (B : Int)).tmod 2 ∧ ((A : Int) - (B : Int)).tmod 2 ≤ 1 := of_decide_eq_true (by kernel_rfl)

set_option maxHeartbeats 1000000 in
theorem piBet_any (a b : Nat) (x y : Int) (w : World) (ha : a < 9) (hb : b < 9) (hx : x = 49 + (a : Int)) (hy : y = 49 + (b : Int)) : Calls Try.prog 84 #[.int .u8 x, .int .u8 y] w fun e w' => e = .returned (.int .u8 (bwP a b : Nat)) ∧ w = w' := by
  subst hx hy
  have Wa : IntKind.u8.wrap (49 + (a : Int) - 49) = (a : Int) := by rw [IntWalk.u8_in _ (by omega)]; omega
  have Wb : IntKind.u8.wrap (49 + (b : Int) - 49) = (b : Int) := by rw [IntWalk.u8_in _ (by omega)]; omega
  obtain ⟨A, hA⟩ : ∃ A, A = a / 3 := ⟨_, rfl⟩
  obtain ⟨B, hB⟩ : ∃ B, B = b / 3 := ⟨_, rfl⟩
  obtain ⟨C, hC⟩ : ∃ C, C = a % 3 := ⟨_, rfl⟩
  obtain ⟨D, hD⟩ : ∃ D, D = b % 3 := ⟨_, rfl⟩
  have eA : (a : Int) / 3 = (A : Int) := by omega
  have eB : (b : Int) / 3 = (B : Int) := by omega
  have eC : (a : Int) % 3 = (C : Int) := by omega
  have eD : (b : Int) % 3 = (D : Int) := by omega
  have A3 : A < 3 := by omega
  have B3 : B < 3 := by omega
  have C3 : C < 3 := by omega
  have D3 : D < 3 := by omega
  obtain ⟨t1, t2, t3⟩ := tm2 A A3 B B3
  obtain ⟨u1, u2, u3⟩ := tm2 C C3 D D3
  obtain ⟨r, hr⟩ : ∃ r, r = ((A : Int) - (B : Int)).tmod 2 := ⟨_, rfl⟩
  obtain ⟨q, hq⟩ : ∃ q, q = ((C : Int) - (D : Int)).tmod 2 := ⟨_, rfl⟩
  rw [← hr] at t1 t2 t3
  rw [← hq] at u1 u2 u3
  have Er := hr.symm
  have Eq' := hq.symm
  have Wr : IntKind.i64.wrap r = r := by simp only [IntKind.wrap_i64]; omega
  have Wq : IntKind.i64.wrap q = q := by simp only [IntKind.wrap_i64]; omega
  by_cases h1 : A % 2 = B % 2
  · rw [decide_eq_true h1] at t1
    by_cases h2 : C % 2 = D % 2
    · rw [decide_eq_true h2] at u1
      have HV := Lib.hid (bwP_yes (hbP_yes (a := a) (b := b) (by rw [← hA, ← hB]; exact h1) (by rw [← hC, ← hD]; exact h2)))
      obtain ⟨m, hm⟩ : ∃ m, m = (a + b) / 2 := ⟨_, rfl⟩
      have em : ((a : Int) + (b : Int)) / 2 = (m : Int) := by omega
      rw [← hm] at HV
      have hm9 : m < 9 := by omega
      have Wm : IntKind.u8.wrap (m : Int) = (m : Int) := IntWalk.u8_in _ (by omega)
      have Wm2 : IntKind.u8.wrap ((m : Int) + 49) = (m : Int) + 49 := IntWalk.u8_in _ (by omega)
      have r0 : r = 0 := by simpa using t1
      have q0 : q = 0 := by simpa using u1
      subst r0 q0
      clear hr hq hA hB hC hD hm h1 h2 Wr Wq
      go_enter Try.func84, Try.ntmps84
      go_wp2
      go_ret
      exact ⟨by rw [HV.out]; exact ret_iD (by omega), rfl⟩
    · rw [decide_eq_false h2] at u1
      have HV := Lib.hid (bwP_no (hbP_col (a := a) (b := b) (by rw [← hC, ← hD]; exact h2)))
      have r0 : r = 0 := by simpa using t1
      subst r0
      clear hr hq hA hB hC hD h1 h2 Wr
      go_enter Try.func84, Try.ntmps84
      go_wp2
      go_ret
      exact ⟨by rw [HV.out]; rfl, rfl⟩
  · rw [decide_eq_false h1] at t1
    have HV := Lib.hid (bwP_no (hbP_row (a := a) (b := b) (by rw [← hA, ← hB]; exact h1)))
    clear hr hq hA hB hC hD h1
    go_enter Try.func84, Try.ntmps84
    go_wp2
    go_ret
    exact ⟨by rw [HV.out]; rfl, rfl⟩

/-- Drawn points: no more than nine, each a point. -/
def Pts (ps : List Nat) : Prop := ps.length ≤ 9 ∧ ∀ p ∈ ps, p < 9
theorem pT_sz {ps : List Nat} (h : Pts ps) : (pT ps).size ≤ 9 := by rw [pT_size]; exact h.1

set_option maxHeartbeats 1000000 in
theorem piGoes_any (ps : List Nat) (l p : Nat) (x : Int) (w : World) (h : Pts (ps ++ [l])) (hp : p < 9) (hx : x = 49 + (p : Int)) : Calls Try.prog 46 #[.string (pT (ps ++ [l])), .int .u8 x] w fun e w' => e = .returned (.bool (goP (ps ++ [l]) l p)) ∧ w = w' := by
  subst hx
  have hl : l < 9 := h.2 l (by simp)
  have hz : (pT (ps ++ [l])).size = ps.length + 1 := by rw [pT_size]; simp
  have hn : ps.length + 1 ≤ 9 := by have := h.1; simp at this; omega
  have HH := Lib.hid (fun (q : Nat) (hq : q < 9) w => (show Calls Try.prog 79 #[.string (pT (ps ++ [l])), .int .u8 (49 + (q : Int))] w fun e w' => e = .returned (.bool (decide (q ∈ ps ++ [l]))) ∧ w = w' from by rw [← hasT_pT h.2 hq]; exact piHas_any _ _ w (by rw [hz]; unfold maxLen; omega)))
  have hk1 : ps.length < (pT (ps ++ [l])).size := by omega
  have HI := Lib.hid (fun w => ixS (pT (ps ++ [l])) ps.length hk1 w)
  rw [pT_get _ _ hk1 (by simp), List.getElem_append_right (Nat.le_refl _)] at HI
  simp only [Nat.sub_self, List.getElem_cons_zero] at HI
  rw [pBn l hl] at HI
  have HB := Lib.hid (fun w => piBet_any l p (49 + (l : Int)) (49 + (p : Int)) w hl hp rfl rfl)
  have G1 := Lib.hid (fun h => goP_in (ps := ps ++ [l]) (l := l) (p := p) h)
  have G2 := Lib.hid (fun h h2 => goP_far (ps := ps ++ [l]) (l := l) (p := p) h h2)
  have G3 := Lib.hid (fun h h2 => goP_mid (ps := ps ++ [l]) (l := l) (p := p) h h2)
  obtain ⟨T, hT⟩ : ∃ T, T = pT (ps ++ [l]) := ⟨_, rfl⟩
  rw [← hT] at HH HI hz ⊢
  obtain ⟨Q, hQ⟩ : ∃ Q, Q = ps ++ [l] := ⟨_, rfl⟩
  rw [← hQ] at HH G1 G2 G3 ⊢
  obtain ⟨n, hnn⟩ : ∃ n, n = ps.length := ⟨_, rfl⟩
  rw [← hnn] at hz hn HI
  have ix := HI.out
  have Wn : IntKind.i64.wrap ((T.size : Int) - 1) = (n : Int) := by simp only [IntKind.wrap_i64]; omega
  have Wn2 : (T.size : Int) - 1 = (n : Int) := by omega
  have hTs : T.size ≤ 9 := by omega
  clear hT hQ hnn hk1 h
  cases g1 : decide (p ∈ Q)
  · have GG := Lib.hid g1
    cases g2 : hbP l p
    · have HV := Lib.hid (G2.out g1 g2)
      rw [bwP_no g2] at HB
      clear g1 g2
      go_enter Try.func46, Try.ntmps46
      go_wp2_with (first | (go_at_call 79; refine (HH.out _ (by assumption) _).mono ?_; rintro e w' ⟨rfl, rfl⟩; rw [GG.out]) | (go_at_call 84; refine (HB.out _).mono ?_; rintro e w' ⟨rfl, rfl⟩))
      go_ret
      exact ⟨ret_bool HV.out.symm, rfl⟩
    · have HV := Lib.hid (G3.out g1 g2)
      rw [bwP_yes g2] at HB
      obtain ⟨m, hm⟩ : ∃ m, m = (l + p) / 2 := ⟨_, rfl⟩
      have hm9 : m < 9 := by omega
      rw [← hm] at HB HV
      have e1 : ((49 + m : Nat) : Int) = 49 + (m : Int) := by omega
      rw [e1] at HB
      have hm0 : ((49 : Int) + (m : Int) == 0) = false := by simp; omega
      have hm1 : ¬ (49 : Int) + (m : Int) = 0 := by omega
      have HV2 := Lib.hid (show decide (m ∈ Q) = goP Q l p from HV.out.symm)
      clear hm e1 g1 g2 HV
      go_enter Try.func46, Try.ntmps46
      go_wp2_with (first | (go_at_call 79; refine (HH.out _ (by assumption) _).mono ?_; rintro e w' ⟨rfl, rfl⟩; first | rw [GG.out] | rw [HV2.out]) | (go_at_call 84; refine (HB.out _).mono ?_; rintro e w' ⟨rfl, rfl⟩))
      go_ret
      exact ⟨rfl, rfl⟩
  · have GG := Lib.hid g1
    have HV := Lib.hid (G1.out g1)
    clear g1
    go_enter Try.func46, Try.ntmps46
    go_wp2_with (first | (go_at_call 79; refine (HH.out _ (by assumption) _).mono ?_; rintro e w' ⟨rfl, rfl⟩; rw [GG.out]))
    go_ret
    exact ⟨ret_bool HV.out.symm, rfl⟩
end Go.Proofs.Ytmpajijnpoekgaa
