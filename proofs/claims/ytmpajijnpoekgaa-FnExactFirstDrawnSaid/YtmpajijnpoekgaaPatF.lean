/- The first pattern from a point: both sides. No conditions. -/
import Derived.Test.YtmpajijnpoekgaaPatL
import Derived.Test.YtmpajijnpoekgaaPatN
namespace Go.Proofs.Ytmpajijnpoekgaa
open Go.RowKit

theorem fp_is {ps : List Nat} {l j : Nat} (hp : ∀ p ∈ ps, p < 9) (hl : l ∈ ps) (hlen : ps.length < 9) (hno : ∀ q, q < j → goP ps l q = false) (hg : goP ps l j = true) : j = fpP ps l := by
  obtain ⟨h1, h2, h3, _⟩ := fpP_of hp hl hlen
  rcases Nat.lt_trichotomy j (fpP ps l) with h | h | h
  · rw [h3 j h] at hg; cases hg
  · exact h
  · rw [hno _ h] at h2; cases h2

set_option maxRecDepth 100000 in
set_option maxHeartbeats 2000000 in
theorem piFst_any (k : Nat) : ∀ (qs : List Nat) (l : Nat) (w : World), Pts (qs ++ [l]) → qs.length + 1 + k ≤ 9 → Calls Try.prog 57 #[.string (pT (qs ++ [l])), .int .i64 k] w fun e w' => e = .returned (.tuple #[.string (pT (grP k (qs ++ [l]) l)), .bool true]) ∧ Ext w w' := by
  induction k with
  | zero =>
    intro qs l w hP hk
    have HV := Lib.hid (show grP 0 (qs ++ [l]) l = qs ++ [l] from rfl)
    obtain ⟨T, hT⟩ : ∃ T, T = pT (qs ++ [l]) := ⟨_, rfl⟩
    have HT := Lib.hid (show T = pT (grP 0 (qs ++ [l]) l) by rw [HV.out]; exact hT)
    rw [← HT.out, ← hT]
    clear hT
    go_enter Try.func57, Try.ntmps57
    go_wp2_with fail
    go_ret2
    exact ⟨rfl, Ext.refl _⟩
  | succ k ih =>
    intro qs l w hP hk
    have HG := Lib.hid (fun (p : Nat) (hp : p < 9) w => piGoes_any qs l p (49 + (p : Int)) w hP hp rfl)
    have HI := Lib.hid (fun (p : Nat) (w : World) (hp : p < 9) => (show Calls Try.prog 57 #[.string (pT (qs ++ [l]) ++ ⟨#[(49 + p).toUInt8]⟩), .int .i64 k] w fun e w' => e = .returned (.tuple #[.string (pT (grP k (qs ++ [l] ++ [p]) p)), .bool true]) ∧ Ext w w' from by
      rw [← pT_snoc]
      refine ih (qs ++ [l]) p w ⟨by simp; omega, fun q hq => ?_⟩ (by simp; omega)
      rcases List.mem_append.1 hq with h | h
      · exact hP.2 q h
      · simp at h; omega))
    have HFP := Lib.hid (fpP_of (ps := qs ++ [l]) (l := l) hP.2 (by simp) (by simp; omega))
    have HIS := Lib.hid (fun (j : Nat) hno hg => fp_is (ps := qs ++ [l]) (l := l) (j := j) hP.2 (by simp) (by simp; omega) hno hg)
    have HEND := Lib.hid (show grP (k + 1) (qs ++ [l]) l = grP k (qs ++ [l] ++ [fpP (qs ++ [l]) l]) (fpP (qs ++ [l]) l) from rfl)
    have hTs : (pT (qs ++ [l])).size ≤ 9 := pT_sz hP
    obtain ⟨ps, hps⟩ : ∃ ps, ps = qs ++ [l] := ⟨_, rfl⟩
    rw [← hps] at HG HI HEND HFP HIS hTs ⊢
    obtain ⟨T, hT⟩ : ∃ T, T = pT ps := ⟨_, rfl⟩
    rw [← hT] at HG HI hTs ⊢
    obtain ⟨R, hR⟩ : ∃ R, R = pT (grP (k + 1) ps l) := ⟨_, rfl⟩
    have HR := Lib.hid hR
    rw [← hR]
    obtain ⟨k1, hk1⟩ : ∃ k1, k1 = k + 1 := ⟨_, rfl⟩
    rw [← hk1]
    have hkz : ((k1 : Int) == 0) = false := by simp; omega
    have hkm : (k1 : Int) - 1 = (k : Int) := by omega
    have Wk : IntKind.i64.wrap ((k1 : Int) - 1) = (k : Int) := by simp only [IntKind.wrap_i64]; omega
    have hk18 : k1 ≤ 8 := by omega
    clear hk1 ih hP hps hT hR
    go_enter Try.func57, Try.ntmps57
    go_wp2_with fail
    go_loopw [6] (fun t wr => ∃ j : Nat, j ≤ 9 ∧ t = .int .u8 (49 + (j : Int)) ∧ (∀ q, q < j → goP ps l q = false) ∧ Ext w wr) (fun t _ => 58 - (intOf t).toNat)
    case atStart => exact ⟨0, Nat.zero_le _, rfl, fun q hq => absurd hq (Nat.not_lt_zero _), Ext.refl _⟩
    case round =>
      obtain ⟨j, hj, rfl, hno, hx⟩ := hrel
      have HNO := Lib.hid hno
      clear hno
      by_cases hlt : j < 9
      · have HGj := Lib.hid (fun w => HG.out j hlt w)
        have HIj := Lib.hid (fun w => HI.out j w hlt)
        have hle : (49 : Int) + (j : Int) ≤ 57 := by omega
        have HE := pBu j hlt
        have HISj := Lib.hid (fun hg => HIS.out j HNO.out hg)
        obtain ⟨c, hc⟩ : ∃ c, c = (49 + j).toUInt8 := ⟨_, rfl⟩
        rw [← hc] at HE HIj
        have Wc : IntKind.i32.wrap (49 + (j : Int)) = 49 + (j : Int) := by simp only [IntKind.wrap_i32]; omega
        have Wu : IntKind.u8.wrap (49 + (j : Int) + 1) = 49 + (j : Int) + 1 := IntWalk.u8_in _ (by omega)
        clear hc
        cases hg : goP ps l j
        · have HN := Lib.hid (show ∀ q, q < j + 1 → goP ps l q = false from fun q hq => by
            by_cases e : q = j
            · rw [e]; exact hg
            · exact HNO.out q (by omega))
          rw [hg] at HGj
          clear hg
          go_wp2_with (first | (go_at_call 46; refine (HGj.out _).mono ?_; rintro e w2 ⟨rfl, rfl⟩))
          go_roundw
          case rel => exact ⟨j + 1, by omega, by rw [show 49 + ((j + 1 : Nat) : Int) = 49 + (j : Int) + 1 by omega], HN.out, hx⟩
          case measure => simp [intOf]; omega
        · have HJ := Lib.hid (HISj.out hg)
          rw [hg] at HGj
          have HIj2 := Lib.hid (fun w => (show Calls Try.prog 57 #[.string (T ++ ⟨#[c]⟩), .int .i64 k] w fun e w' => e = .returned (.tuple #[.string R, .bool true]) ∧ Ext w w' from by
            rw [HR.out, HEND.out, ← HJ.out]
            exact HIj.out w))
          clear hg
          go_wp2_with (first | (go_at_call 46; refine (HGj.out _).mono ?_; rintro e w2 ⟨rfl, rfl⟩))
          refine (HIj2.out _).mono ?_
          rintro e w4 ⟨rfl, x4⟩
          go_wp2
          go_ret2
          exact ⟨rfl, hx.trans x4⟩
      · have hf : False := by
          have h1 := HFP.out
          have h2 := HNO.out (fpP ps l) (by omega)
          rw [h1.2.1] at h2
          cases h2
        exact hf.elim

/-! ### FirstDrawn -/
def fdV (s : ByteArray) (n : Int) : ByteArray := if stG s n then pT (grP (n - 1).toNat (plcs s) (laP (plcs s))) else ⟨#[]⟩
theorem fdV_no {s : ByteArray} {n : Int} (h : stG s n = false) : fdV s n = ⟨#[]⟩ := by unfold fdV; rw [h]; rfl
theorem fdV_yes {s : ByteArray} {m : Nat} {p : Nat} (h : stG s ((m + 1 : Nat) : Int) = true) (hp : plcs s = [p]) : fdV s ((m + 1 : Nat) : Int) = pT (grP m [p] p) := by
  have e : (((m + 1 : Nat) : Int) - 1).toNat = m := by omega
  unfold fdV
  rw [h, hp, e]
  rfl
theorem ret_sBf {a a' : ByteArray} {b b' : Bool} (h : a = a') (h2 : b = b') : Ending.returned (.tuple #[.string a, .bool b]) = .returned (.tuple #[.string a', .bool b']) := by rw [h, h2]
theorem inW_bdf {n lo hi : Int} (h : inW n lo hi = true) : lo ≤ n ∧ n ≤ hi := by unfold inW at h; simp at h; exact h

set_option maxHeartbeats 1000000 in
theorem fdS_any (s : ByteArray) (n : Int) (w : World) (hs : s.size ≤ maxLen) : Calls Try.prog 23 #[.string s, .int .i64 n] w fun e w' => e = .returned (.tuple #[.string (fdV s n), .bool (stG s n)]) ∧ Ext w w' := by
  have HP := Lib.hid (fun w => piStart_any s n w hs)
  cases h1 : stG s n
  · have HG := Lib.hid h1
    have HV := Lib.hid (fdV_no h1)
    rw [h1] at HP
    go_enter Try.func23, Try.ntmps23
    go_wp2_with fail
    refine (HP.out _).mono ?_
    rintro e w1 ⟨rfl, x1⟩
    go_wp2
    go_ret2
    exact ⟨ret_sBf HV.out.symm rfl, x1⟩
  rw [h1] at HP
  have hG := h1
  unfold stG at h1
  rw [Bool.and_eq_true, Bool.and_eq_true] at h1
  have hz := of_decide_eq_true h1.1
  obtain ⟨n1, n2⟩ := inW_bdf h1.2.2
  obtain ⟨m, rfl⟩ : ∃ m : Nat, n = ((m + 1 : Nat) : Int) := ⟨(n - 1).toNat, by omega⟩
  obtain ⟨b, hsb, b1, b2, hp9, hpt, hpl⟩ := st_of hz h1.2.1
  have HV := Lib.hid (fdV_yes hG hpl)
  have HC := Lib.hid (fun w => piFst_any m [] (pn b) w ⟨by simp, fun q hq => by simp at hq; omega⟩ (by simp; omega))
  rw [← hpt] at HC
  have HC2 := Lib.hid (fun w => (show Calls Try.prog 57 #[.string s, .int .i64 m] w fun e w' => e = .returned (.tuple #[.string (pT (grP m [pn b] (pn b))), .bool true]) ∧ Ext w w' from HC.out w))
  obtain ⟨x, hx⟩ : ∃ x, x = pT (grP m [pn b] (pn b)) := ⟨_, rfl⟩
  rw [← hx] at HC2 HV
  obtain ⟨m1, hm1⟩ : ∃ m1 : Nat, m1 = m + 1 := ⟨_, rfl⟩
  have em : (m1 : Int) - 1 = (m : Int) := by omega
  have Wm : IntKind.i64.wrap ((m1 : Int) - 1) = (m : Int) := by simp only [IntKind.wrap_i64]; omega
  have hm19 : m1 ≤ 9 := by omega
  rw [← hm1] at HV HP ⊢
  clear hx hsb hpl hG hm1 h1 hz n1 n2 hpt HC
  go_enter Try.func23, Try.ntmps23
  go_wp2_with fail
  refine (HP.out _).mono ?_
  rintro e w1 ⟨rfl, x1⟩
  go_wp2_with fail
  refine (HC2.out _).mono ?_
  rintro e w3 ⟨rfl, x3⟩
  go_wp2
  go_ret2
  exact ⟨ret_sBf HV.out.symm rfl, x1.trans x3⟩
end Go.Proofs.Ytmpajijnpoekgaa
