/- How many patterns there are: both sides. No conditions. -/
import Derived.Test.YtmpajijnpoekgaaPatK
namespace Go.Proofs.Ytmpajijnpoekgaa
open Go.RowKit

set_option maxHeartbeats 2000000 in
theorem piCnt_any (k : Nat) : ∀ (qs : List Nat) (l : Nat) (w : World), Pts (qs ++ [l]) → qs.length + 1 + k ≤ 9 → Calls Try.prog 50 #[.string (pT (qs ++ [l])), .int .i64 k] w fun e w' => e = .returned (.int .i64 (cntP k (qs ++ [l]) l : Nat)) ∧ Ext w w' := by
  induction k with
  | zero =>
    intro qs l w hP hk
    have HV := Lib.hid (show cntP 0 (qs ++ [l]) l = 1 from rfl)
    obtain ⟨T, hT⟩ : ∃ T, T = pT (qs ++ [l]) := ⟨_, rfl⟩
    rw [← hT]
    clear hT
    go_enter Try.func50, Try.ntmps50
    go_wp2_with fail
    go_ret
    exact ⟨ret_iD (by rw [HV.out]; rfl), Ext.refl _⟩
  | succ k ih =>
    intro qs l w hP hk
    have HG := Lib.hid (fun (p : Nat) (hp : p < 9) w => piGoes_any qs l p (49 + (p : Int)) w hP hp rfl)
    have HI := Lib.hid (fun (p : Nat) (w : World) (hp : p < 9) => (show Calls Try.prog 50 #[.string (pT (qs ++ [l]) ++ ⟨#[(49 + p).toUInt8]⟩), .int .i64 k] w fun e w' => e = .returned (.int .i64 (cntP k (qs ++ [l] ++ [p]) p : Nat)) ∧ Ext w w' from by
      rw [← pT_snoc]
      refine ih (qs ++ [l]) p w ⟨by simp; omega, fun q hq => ?_⟩ (by simp; omega)
      rcases List.mem_append.1 hq with h | h
      · exact hP.2 q h
      · simp at h; omega))
    have HEND := Lib.hid (cntS_9 k (qs ++ [l]) l)
    have h9 := pow9 k (by omega)
    have hTs : (pT (qs ++ [l])).size ≤ 9 := pT_sz hP
    obtain ⟨ps, hps⟩ : ∃ ps, ps = qs ++ [l] := ⟨_, rfl⟩
    rw [← hps] at HG HI HEND hTs ⊢
    obtain ⟨T, hT⟩ : ∃ T, T = pT ps := ⟨_, rfl⟩
    rw [← hT] at HG HI hTs ⊢
    obtain ⟨k1, hk1⟩ : ∃ k1, k1 = k + 1 := ⟨_, rfl⟩
    rw [← hk1] at HEND ⊢
    have hkz : ((k1 : Int) == 0) = false := by simp; omega
    have hkm : (k1 : Int) - 1 = (k : Int) := by omega
    have Wk : IntKind.i64.wrap ((k1 : Int) - 1) = (k : Int) := by simp only [IntKind.wrap_i64]; omega
    have hk18 : k1 ≤ 8 := by omega
    clear hk1 ih hP hps hT
    go_enter Try.func50, Try.ntmps50
    go_wp2_with fail
    go_loopw [5, 6] (fun o t wr => ∃ j : Nat, j ≤ 9 ∧ t = .int .u8 (49 + (j : Int)) ∧ o = .int .i64 (cntS k ps l j : Nat) ∧ Ext w wr) (fun _ t _ => 58 - (intOf t).toNat)
    case atStart => exact ⟨0, Nat.zero_le _, rfl, rfl, Ext.refl _⟩
    case round =>
      obtain ⟨j, hj, rfl, rfl, hx⟩ := hrel
      by_cases hlt : j < 9
      · have HGj := Lib.hid (fun w => HG.out j hlt w)
        have HIj := Lib.hid (fun w => HI.out j w hlt)
        have HY := Lib.hid (fun h => cntS_yes (k := k) (ps := ps) (l := l) (j := j) h)
        have HN := Lib.hid (fun h => cntS_no (k := k) (ps := ps) (l := l) (j := j) h)
        have b1 := cntS_bd k ps l j
        have b2 := cntP_bd k (ps ++ [j]) j
        have b3 : j * 9 ^ k ≤ 9 * 9 ^ k := Nat.mul_le_mul_right _ (by omega)
        obtain ⟨x, hxx⟩ : ∃ x, x = cntS k ps l j := ⟨_, rfl⟩
        obtain ⟨y, hy⟩ : ∃ y, y = cntP k (ps ++ [j]) j := ⟨_, rfl⟩
        rw [← hxx] at b1 HY HN ⊢
        rw [← hy] at b2 HY HIj
        have hx1 : x ≤ 400000000 := by omega
        have hy1 : y ≤ 400000000 := by omega
        have Wxy : IntKind.i64.wrap ((x : Int) + (y : Int)) = (x : Int) + (y : Int) := by simp only [IntKind.wrap_i64]; omega
        have hle : (49 : Int) + (j : Int) ≤ 57 := by omega
        have HE := pBu j hlt
        obtain ⟨c, hc⟩ : ∃ c, c = (49 + j).toUInt8 := ⟨_, rfl⟩
        rw [← hc] at HE HIj
        have Wc : IntKind.i32.wrap (49 + (j : Int)) = 49 + (j : Int) := by simp only [IntKind.wrap_i32]; omega
        have Wu : IntKind.u8.wrap (49 + (j : Int) + 1) = 49 + (j : Int) + 1 := IntWalk.u8_in _ (by omega)
        clear hxx hy b1 b2 b3 hc
        cases hg : goP ps l j
        · have HV := Lib.hid (HN.out hg)
          rw [hg] at HGj
          clear hg
          go_wp2_with (first | (go_at_call 46; refine (HGj.out _).mono ?_; rintro e w2 ⟨rfl, rfl⟩))
          go_roundw
          case rel => exact ⟨j + 1, by omega, by rw [show 49 + ((j + 1 : Nat) : Int) = 49 + (j : Int) + 1 by omega], by rw [HV.out], hx⟩
          case measure => simp [intOf]; omega
        · have HV := Lib.hid (HY.out hg)
          rw [hg] at HGj
          clear hg
          go_wp2_with (first | (go_at_call 46; refine (HGj.out _).mono ?_; rintro e w2 ⟨rfl, rfl⟩) | (go_at_call 50; refine (HIj.out _).mono ?_; rintro e w4 ⟨rfl, x4⟩))
          go_roundw
          case rel => exact ⟨j + 1, by omega, by rw [show 49 + ((j + 1 : Nat) : Int) = 49 + (j : Int) + 1 by omega], by rw [HV.out]; first | rfl | go_num, hx.trans x4⟩
          case measure => simp [intOf]; omega
      · obtain rfl : j = 9 := by omega
        go_wp2
        go_ret
        exact ⟨ret_iD (by rw [HEND.out]), hx⟩

/-! ### Starts -/
def stG (s : ByteArray) (n : Int) : Bool := decide (s.size = 1) && (isPt s && inW n 1 9)
theorem stG_1 {s : ByteArray} {n : Int} (h : ¬ s.size = 1) : stG s n = false := by unfold stG; rw [decide_eq_false h]; rfl
theorem stG_p {s : ByteArray} {n : Int} (h : isPt s = false) : stG s n = false := by unfold stG; rw [h]; simp
theorem stG_n {s : ByteArray} {n : Int} (h : inW n 1 9 = false) : stG s n = false := by unfold stG; rw [h]; simp
theorem stG_y {s : ByteArray} {n : Int} (h1 : s.size = 1) (h2 : isPt s = true) (h3 : inW n 1 9 = true) : stG s n = true := by unfold stG; rw [decide_eq_true h1, h2, h3]; rfl
theorem st_of {s : ByteArray} (h1 : s.size = 1) (h2 : isPt s = true) : ∃ b : UInt8, s = ⟨#[b]⟩ ∧ 49 ≤ b.toNat ∧ b.toNat ≤ 57 ∧ pn b < 9 ∧ s = pT ([] ++ [pn b]) ∧ plcs s = [pn b] := by
  have hb := isPt_at h2 0 (by omega)
  have e1 := one_eq h1
  have hl : plcs s = [pn (s[0]'(by omega))] := by
    conv => lhs; rw [e1]
    rfl
  refine ⟨s[0]'(by omega), e1, hb.1, hb.2.1, pn_9 hb.1 hb.2.1, ?_, hl⟩
  have := isPt_pT h2
  rw [hl] at this
  exact this.symm
theorem isPoint_any (s : ByteArray) (w : World) (hs : s.size ≤ maxLen) : Calls Try.prog 51 #[.string s] w fun e w' => e = .returned (.bool (decide (s.size = 1) && isPt s)) ∧ Ext w w' := by
  have hs2 := hs
  unfold maxLen at hs2
  by_cases h1 : s.size = 1
  · have t : ((s.size : Int) == 1) = true := by simp [h1]
    have H := Lib.hid (show (decide (s.size = 1) && isPt s) = isPt s by rw [decide_eq_true h1]; rfl)
    clear h1
    go_enter Try.func51, Try.ntmps51
    go_wp2_with (go_at_call 44; refine (isPat_any _ _ hs).mono ?_; rintro e w1 ⟨rfl, x1⟩)
    go_ret
    exact ⟨ret_bool H.out.symm, x1⟩
  · have t : ((s.size : Int) == 1) = false := by simp; omega
    have H := Lib.hid (show (decide (s.size = 1) && isPt s) = false by rw [decide_eq_false h1]; rfl)
    clear h1
    go_enter Try.func51, Try.ntmps51
    go_wp2_with fail
    go_ret
    exact ⟨ret_bool H.out.symm, Ext.refl _⟩
theorem isLongP_any (n m : Int) (w : World) : Calls Try.prog 52 #[.int .i64 n, .int .i64 m] w fun e w' => e = .returned (.bool (inW n 1 m)) ∧ w = w' := by
  by_cases h1 : 1 ≤ n
  · by_cases h2 : n ≤ m
    · have HV := Lib.hid (inW_yes h1 h2)
      go_enter Try.func52, Try.ntmps52
      go_wp2
      go_ret
      exact ⟨ret_bool (by rw [HV.out]), rfl⟩
    · have HV := Lib.hid (inW_hi (lo := 1) (show m < n by omega))
      go_enter Try.func52, Try.ntmps52
      go_wp2
      go_ret
      exact ⟨ret_bool (by rw [HV.out]), rfl⟩
  · have HV := Lib.hid (inW_lo (hi := m) (show n < 1 by omega))
    go_enter Try.func52, Try.ntmps52
    go_wp2
    go_ret
    exact ⟨ret_bool (by rw [HV.out]), rfl⟩
theorem piStart_any (s : ByteArray) (n : Int) (w : World) (hs : s.size ≤ maxLen) : Calls Try.prog 49 #[.string s, .int .i64 n] w fun e w' => e = .returned (.bool (stG s n)) ∧ Ext w w' := by
  have hs2 := hs
  unfold maxLen at hs2
  by_cases h1 : s.size = 1
  · have t : ((s.size : Int) == 1) = true := by simp [h1]
    cases h2 : isPt s
    · have H := Lib.hid (stG_p (n := n) h2)
      clear h1
      go_enter Try.func49, Try.ntmps49
      go_wp2_with (go_at_call 42; refine (piPat_any _ _ hs).mono ?_; rintro e w1 ⟨rfl, x1⟩; rw [h2])
      go_ret
      exact ⟨ret_bool H.out.symm, x1⟩
    · have H := Lib.hid (show stG s n = inW n 1 9 by unfold stG; rw [decide_eq_true h1, h2]; rfl)
      clear h1
      go_enter Try.func49, Try.ntmps49
      go_wp2_with (first | (go_at_call 42; refine (piPat_any _ _ hs).mono ?_; rintro e w1 ⟨rfl, x1⟩; rw [h2]) | (go_at_call 55; refine (inW_any _ _ _ _).mono ?_; rintro e w' ⟨rfl, rfl⟩))
      go_ret
      exact ⟨ret_bool H.out.symm, x1⟩
  · have t : ((s.size : Int) == 1) = false := by simp; omega
    have H := Lib.hid (stG_1 (n := n) h1)
    clear h1
    go_enter Try.func49, Try.ntmps49
    go_wp2_with fail
    go_ret
    exact ⟨ret_bool H.out.symm, Ext.refl _⟩
end Go.Proofs.Ytmpajijnpoekgaa
