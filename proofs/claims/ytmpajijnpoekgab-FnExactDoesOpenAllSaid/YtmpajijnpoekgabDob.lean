/- Whether a text opens all locks: both sides. No conditions. -/
import Derived.Test.YtmpajijnpoekgabDoa
import Derived.Deep.RegionWith
namespace Go.Proofs.Ytmpajijnpoekgab
open Go.RowKit

theorem pinLo_any (n : Int) (w : World) : Calls Try.prog 86 #[.int .i64 n] w fun e w' => e = .returned (.bool (inW n 2 4)) ∧ w = w' := by
  by_cases h1 : 2 ≤ n
  · by_cases h2 : n ≤ 4
    · have HV := Lib.hid (inW_yes h1 h2)
      go_enter Try.func86, Try.ntmps86
      go_wp2
      go_ret
      exact ⟨ret_bool (by rw [HV.out]), rfl⟩
    · have HV := Lib.hid (inW_hi (lo := 2) (show 4 < n by omega))
      go_enter Try.func86, Try.ntmps86
      go_wp2
      go_ret
      exact ⟨ret_bool (by rw [HV.out]), rfl⟩
  · have HV := Lib.hid (inW_lo (hi := 4) (show n < 2 by omega))
    go_enter Try.func86, Try.ntmps86
    go_wp2
    go_ret
    exact ⟨ret_bool (by rw [HV.out]), rfl⟩
theorem inW_bdo {n lo hi : Int} (h : inW n lo hi = true) : lo ≤ n ∧ n ≤ hi := by unfold inW at h; simp at h; exact h
/-- There are such locks, and few enough pins. -/
def coG (D n : Int) : Bool := inW D 1 10 && (inW n 2 4 && decide (D.toNat ^ n.toNat ≤ 300))
theorem coG_D {D n : Int} (h : inW D 1 10 = false) : coG D n = false := by unfold coG; rw [h]; rfl
theorem coG_n {D n : Int} (h : inW n 2 4 = false) : coG D n = false := by unfold coG; rw [h]; simp
theorem coG_all {D n : Nat} (h : inW (D : Int) 1 10 = true) (h2 : inW (n : Int) 2 4 = true) : coG D n = decide (D ^ n ≤ 300) := by unfold coG; rw [h, h2]; rfl

set_option maxHeartbeats 1000000 in
theorem canOpen_any (D n : Int) (w : World) : Calls Try.prog 52 #[.int .i64 D, .int .i64 n] w fun e w' => e = .returned (.bool (coG D n)) ∧ w = w' := by
  by_cases h1 : D < 1
  · have HV := Lib.hid (coG_D (n := n) (inW_lo (hi := 10) h1))
    go_enter Try.func52, Try.ntmps52
    go_wp2_with fail
    go_ret
    exact ⟨ret_bool HV.out.symm, rfl⟩
  by_cases h2 : 10 < D
  · have HV := Lib.hid (coG_D (n := n) (inW_hi (lo := 1) h2))
    go_enter Try.func52, Try.ntmps52
    go_wp2_with fail
    go_ret
    exact ⟨ret_bool HV.out.symm, rfl⟩
  cases h3 : inW n 2 4
  · have HV := Lib.hid (coG_n (D := D) h3)
    go_enter Try.func52, Try.ntmps52
    go_wp2_with (first | (go_at_call 86; refine (pinLo_any _ _).mono ?_; rintro e w' ⟨rfl, rfl⟩; rw [h3]))
    go_ret
    exact ⟨ret_bool HV.out.symm, rfl⟩
  obtain ⟨n1, n2⟩ := inW_bdo h3
  obtain ⟨D, rfl⟩ : ∃ k : Nat, D = (k : Int) := Int.eq_ofNat_of_zero_le (by omega)
  obtain ⟨n, rfl⟩ : ∃ k : Nat, n = (k : Int) := Int.eq_ofNat_of_zero_le (by omega)
  have HC := Lib.hid (fun w => countPins_any D n w (by omega) (by omega))
  have HV := Lib.hid (coG_all (D := D) (inW_yes (by omega) (by omega)) h3)
  have hb := pow_bdD D (by omega) n (by omega)
  obtain ⟨x, hx⟩ : ∃ x, x = D ^ n := ⟨_, rfl⟩
  rw [← hx] at HC HV hb
  have HD := Lib.hid (show decide ((x : Int) ≤ 300) = decide (x ≤ 300) from decide_eq_decide.2 (by omega))
  have H3 := Lib.hid h3
  clear hx h3
  go_enter Try.func52, Try.ntmps52
  go_wp2_with (first | (go_at_call 86; refine (pinLo_any _ _).mono ?_; rintro e w' ⟨rfl, rfl⟩; rw [H3.out]) | (go_at_call 57; refine (HC.out _).mono ?_; rintro e w' ⟨rfl, rfl⟩))
  go_ret
  exact ⟨ret_bool (by rw [HV.out]; first | rfl | exact HD.out | simp), rfl⟩

/-! ### All pins -/
def opn (t : ByteArray) (D n r : Nat) : Bool := decide (0 ≤ idx t (dT (prD D r n)))
def alK (t : ByteArray) (D n : Nat) : Nat → Bool
  | 0 => true
  | k + 1 => alK t D n k && opn t D n k
theorem alK_yes {t : ByteArray} {D n k : Nat} (h : alK t D n k = true) (h2 : opn t D n k = true) : alK t D n (k + 1) = true := by rw [alK, h, h2]; rfl
theorem alK_no {t : ByteArray} {D n k : Nat} (h : opn t D n k = false) : ∀ m, k < m → alK t D n m = false := by
  intro m hm
  induction m with
  | zero => omega
  | succ m ih =>
    by_cases e : k = m
    · rw [alK, ← e, h, Bool.and_false]
    · rw [alK, ih (by omega)]; rfl
def daG (t : ByteArray) (D n : Int) : Bool := isDg 0 1300 t && coG D n
theorem daG_t {t : ByteArray} {D n : Int} (h : isDg 0 1300 t = false) : daG t D n = false := by unfold daG; rw [h]; rfl
theorem daG_c {t : ByteArray} {D n : Int} (h : coG D n = false) : daG t D n = false := by unfold daG; rw [h, Bool.and_false]
theorem daG_y {t : ByteArray} {D n : Int} (h : isDg 0 1300 t = true) (h2 : coG D n = true) : daG t D n = true := by unfold daG; rw [h, h2]; rfl
def daV (t : ByteArray) (D n : Int) : Bool := daG t D n && alK t D.toNat n.toNat (D.toNat ^ n.toNat)
theorem daV_no {t : ByteArray} {D n : Int} (h : daG t D n = false) : daV t D n = false := by unfold daV; rw [h]; rfl
theorem daV_yes {t : ByteArray} {D n : Nat} (h : daG t D n = true) : daV t D n = alK t D n (D ^ n) := by unfold daV; rw [h]; rfl
theorem ret_BBd {a a' b b' : Bool} (h : a = a') (h2 : b = b') : Ending.returned (.tuple #[.bool a, .bool b]) = .returned (.tuple #[.bool a', .bool b']) := by rw [h, h2]
theorem coG_parts {D n : Int} (h : coG D n = true) : ∃ d k : Nat, D = (d : Int) ∧ n = (k : Int) ∧ 1 ≤ d ∧ d ≤ 10 ∧ 2 ≤ k ∧ k ≤ 4 ∧ d ^ k ≤ 300 := by
  unfold coG at h
  rw [Bool.and_eq_true, Bool.and_eq_true] at h
  obtain ⟨a1, a2⟩ := inW_bdo h.1
  obtain ⟨b1, b2⟩ := inW_bdo h.2.1
  refine ⟨D.toNat, n.toNat, by omega, by omega, by omega, by omega, by omega, by omega, of_decide_eq_true h.2.2⟩

set_option maxHeartbeats 1000000 in
theorem daI_any (t : ByteArray) (D n m : Int) (w : World) (ht : t.size ≤ maxLen) (hM : MaxL m w) : Calls Try.prog 19 #[.string t, .int .i64 D, .int .i64 n] w fun e w' => e = .returned (.tuple #[.bool (daV t D n), .bool (daG t D n)]) ∧ Ext w w' := by
  cases h1 : isDg 0 1300 t
  · have HG := Lib.hid (daG_t (D := D) (n := n) h1)
    have HV := Lib.hid (daV_no HG.out)
    go_enter Try.func19, Try.ntmps19
    go_wp2_with (go_at_call 46; refine (lockText_any _ _ ht).mono ?_; rintro e w' ⟨rfl, rfl⟩; rw [h1])
    go_ret2
    exact ⟨ret_BBd HV.out.symm HG.out.symm, Ext.refl _⟩
  cases h2 : coG D n
  · have HG := Lib.hid (daG_c (t := t) h2)
    have HV := Lib.hid (daV_no HG.out)
    go_enter Try.func19, Try.ntmps19
    go_wp2_with (first | (go_at_call 46; refine (lockText_any _ _ ht).mono ?_; rintro e w' ⟨rfl, rfl⟩; rw [h1]) | (go_at_call 52; refine (canOpen_any _ _ _).mono ?_; rintro e w' ⟨rfl, rfl⟩; rw [h2]))
    go_ret2
    exact ⟨ret_BBd HV.out.symm HG.out.symm, Ext.refl _⟩
  have hz := isDg_size h1
  have hG := daG_y h1 h2
  obtain ⟨d, k, rfl, rfl, d1, d10, k2, k4, hp⟩ := coG_parts h2
  have HG := Lib.hid hG
  have HV := Lib.hid (daV_yes hG)
  have HC := Lib.hid (fun w => countPins_any d k w d10 k4)
  have HX := Lib.hid (fun (r : Nat) (w : World) (h : MaxL m w) => (show Calls Try.prog 58 #[.string t, .string (dT (prD d r k))] w fun e w' => e = .returned (.bool (opn t d k r)) ∧ w = w' from (Try.strings_Contains t (dT (prD d r k)) m w (by omega) h).mono fun e w' h => ⟨h.1, h.2.symm⟩))
  have HPO := Lib.hid (fun (r : Nat) (w : World) (hr : r < 300) => pinOf_any d r k w d1 d10 (by omega) (by omega) k4)
  obtain ⟨N, hN⟩ : ∃ N, N = d ^ k := ⟨_, rfl⟩
  rw [← hN] at HC HV hp
  have HMM := Lib.hid hM
  have H1 := Lib.hid h1
  have H2 := Lib.hid h2
  clear hN hM h1 h2 hG
  go_enter Try.func19, Try.ntmps19
  go_wp2_with (first | (go_at_call 46; refine (lockText_any _ _ ht).mono ?_; rintro e w' ⟨rfl, rfl⟩; rw [H1.out]) | (go_at_call 52; refine (canOpen_any _ _ _).mono ?_; rintro e w' ⟨rfl, rfl⟩; rw [H2.out]) | (go_at_call 57; refine (HC.out _).mono ?_; rintro e w' ⟨rfl, rfl⟩))
  go_loopw [21] (fun i wr => ∃ r : Nat, r ≤ N ∧ i = .int .i64 r ∧ alK t d k r = true ∧ Ext w wr) (fun i _ => N - (intOf i).toNat)
  case atStart => exact ⟨0, Nat.zero_le _, rfl, rfl, Ext.refl _⟩
  case round =>
    obtain ⟨r, hr, rfl, hall, hx⟩ := hrel
    have HA := Lib.hid hall
    have HX2 := Lib.hid hx
    have HM2 := Lib.hid (HMM.out.ext hx)
    clear hall hx
    by_cases hlt : r < N
    · have hri : (r : Int) < (N : Int) := by omega
      have HP := Lib.hid (fun w => HPO.out r w (by omega))
      have HS := Lib.hid (fun w h => HX.out r w h)
      have HY := Lib.hid (fun h => alK_yes (t := t) (D := d) (n := k) (k := r) HA.out h)
      have HN := Lib.hid (fun h => alK_no (t := t) (D := d) (n := k) (k := r) h N hlt)
      obtain ⟨P, hP⟩ : ∃ P, P = dT (prD d r k) := ⟨_, rfl⟩
      rw [← hP] at HP HS
      clear hP
      cases hg : opn t d k r
      · have HW := Lib.hid (HN.out hg)
        rw [hg] at HS
        clear hg
        go_wp2_with (first | (go_at_call 59; refine (HP.out _).mono ?_; rintro e w3 ⟨rfl, x3⟩) | (go_at_call 58; refine (HS.out _ (HM2.out.ext x3)).mono ?_; rintro e w4 ⟨rfl, rfl⟩))
        go_ret2
        exact ⟨ret_BBd (by rw [HV.out, HW.out]) HG.out.symm, HX2.out.trans x3⟩
      · have HW := Lib.hid (HY.out hg)
        rw [hg] at HS
        clear hg
        go_wp2_with (first | (go_at_call 59; refine (HP.out _).mono ?_; rintro e w3 ⟨rfl, x3⟩) | (go_at_call 58; refine (HS.out _ (HM2.out.ext x3)).mono ?_; rintro e w4 ⟨rfl, rfl⟩))
        go_roundw
        case rel => exact ⟨r + 1, by omega, by go_num, HW.out, HX2.out.trans x3⟩
        case measure => simp [intOf]; omega
    · obtain rfl : r = N := by omega
      go_wp2
      go_ret2
      exact ⟨ret_BBd (by rw [HV.out, HA.out]) HG.out.symm, HX2.out⟩
end Go.Proofs.Ytmpajijnpoekgab
