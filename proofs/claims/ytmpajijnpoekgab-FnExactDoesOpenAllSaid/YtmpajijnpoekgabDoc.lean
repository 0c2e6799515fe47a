/- Whether a text opens all locks: the model's side. No conditions. -/
import Derived.Test.YtmpajijnpoekgabDob
namespace Go.Proofs.Ytmpajijnpoekgab
open Go.RowKit

/-- How many pins, or -1. -/
def paV (D n : Int) : Int := if coG D n then ((D.toNat ^ n.toNat : Nat) : Int) else -1
theorem paV_no {D n : Int} (h : coG D n = false) : paV D n = -1 := by unfold paV; rw [h]; rfl
theorem paV_yes {D n : Nat} (h : coG D n = true) : paV D n = ((D ^ n : Nat) : Int) := by unfold paV; rw [h]; rfl

set_option maxHeartbeats 1000000 in
theorem piAll_any (D n : Int) (w : World) : Calls Try.prog 49 #[.int .i64 D, .int .i64 n] w fun e w' => e = .returned (.int .i64 (paV D n)) ∧ w = w' := by
  cases h1 : inW D 1 10
  · have HV := Lib.hid (paV_no (coG_D (n := n) h1))
    go_enter Try.func49, Try.ntmps49
    go_wp2_with (go_at_call 71; refine (inW_any _ _ _ _).mono ?_; rintro e w' ⟨rfl, rfl⟩; rw [h1])
    go_ret
    exact ⟨ret_iD HV.out.symm, rfl⟩
  cases h2 : inW n 2 4
  · have HV := Lib.hid (paV_no (coG_n (D := D) h2))
    go_enter Try.func49, Try.ntmps49
    go_wp2_with (go_at_call 71; refine (inW_any _ _ _ _).mono ?_; rintro e w' ⟨rfl, rfl⟩; first | rw [h1] | rw [h2])
    go_ret
    exact ⟨ret_iD HV.out.symm, rfl⟩
  obtain ⟨a1, a2⟩ := inW_bdo h1
  obtain ⟨n1, n2⟩ := inW_bdo h2
  obtain ⟨D, rfl⟩ : ∃ k : Nat, D = (k : Int) := Int.eq_ofNat_of_zero_le (by omega)
  obtain ⟨n, rfl⟩ : ∃ k : Nat, n = (k : Int) := Int.eq_ofNat_of_zero_le (by omega)
  have HA := Lib.hid (coG_all h1 h2)
  have H1 := Lib.hid h1
  have H2 := Lib.hid h2
  have hD10 : D ≤ 10 := by omega
  have hn4 : n ≤ 4 := by omega
  clear h1 h2 a1 a2 n1 n2
  go_enter Try.func49, Try.ntmps49
  go_wp2_with (go_at_call 71; refine (inW_any _ _ _ _).mono ?_; rintro e w' ⟨rfl, rfl⟩; first | rw [H1.out] | rw [H2.out])
  go_loop [1, 5] (fun l c => ∃ k : Nat, k ≤ n ∧ l = .int .i64 ((n : Int) - (k : Int)) ∧ c = .int .i64 ((D ^ k : Nat) : Int)) (fun l _ => (intOf l).toNat)
  case atStart => exact ⟨0, Nat.zero_le _, by simp, rfl⟩
  case round =>
    obtain ⟨k, hk, rfl, rfl⟩ := hrel
    by_cases hlt : k < n
    · have hlp : 0 < (n : Int) - (k : Int) := by omega
      have b1 := pow_bdD D (by omega) k (by omega)
      have b2 := pow_bdD D (by omega) (k + 1) (by omega)
      have HS := Lib.hid (show D ^ (k + 1) = D ^ k * D from Nat.pow_succ ..)
      rw [HS.out] at b2
      obtain ⟨x, hx⟩ : ∃ x, x = D ^ k := ⟨_, rfl⟩
      rw [← hx] at b1 b2 HS ⊢
      obtain ⟨y, hy⟩ : ∃ y, y = x * D := ⟨_, rfl⟩
      have E : (x : Int) * (D : Int) = (y : Int) := by rw [hy]; simp
      rw [← hy] at b2 HS
      have W : IntKind.i64.wrap ((x : Int) * (D : Int)) = (y : Int) := by rw [E]; simp only [IntKind.wrap_i64]; omega
      have W2 : IntKind.i64.wrap (y : Int) = (y : Int) := by simp only [IntKind.wrap_i64]; omega
      clear hx hy
      go_wp2
      go_round
      case rel => exact ⟨k + 1, by omega, by first | rfl | (congr 1; omega), by rw [HS.out]⟩
      case measure => simp [intOf]; omega
    · obtain rfl : k = n := by omega
      have hlp : ¬ 0 < (k : Int) - (k : Int) := by omega
      have b1 := pow_bdD D (by omega) k (by omega)
      by_cases hc : D ^ k ≤ 300
      · have HV := Lib.hid (paV_yes (by rw [HA.out, decide_eq_true hc]))
        obtain ⟨x, hx⟩ : ∃ x, x = D ^ k := ⟨_, rfl⟩
        rw [← hx] at b1 hc HV ⊢
        have hci : ¬ (300 : Int) < (x : Int) := by omega
        clear hx hc
        go_wp2
        go_ret
        exact ⟨ret_iD HV.out.symm, rfl⟩
      · have HV := Lib.hid (paV_no (D := (D : Int)) (n := (k : Int)) (by rw [HA.out, decide_eq_false hc]))
        obtain ⟨x, hx⟩ : ∃ x, x = D ^ k := ⟨_, rfl⟩
        rw [← hx] at b1 hc ⊢
        have hci : (300 : Int) < (x : Int) := by omega
        clear hx hc
        go_wp2
        go_ret
        exact ⟨ret_iD HV.out.symm, rfl⟩

/-- The last so many digits of a rank. -/
def sfD (D r n k : Nat) : List Nat := (prD D r n).drop (n - k)
theorem sfD_0 (D r n : Nat) : sfD D r n 0 = [] := by unfold sfD; rw [Nat.sub_zero, List.drop_of_length_le (by rw [prD_len]; exact Nat.le_refl _)]
theorem sfD_all (D r n : Nat) : sfD D r n n = prD D r n := by unfold sfD; rw [Nat.sub_self, List.drop_zero]
theorem sfD_len (D r n k : Nat) (h : k ≤ n) : (sfD D r n k).length = k := by unfold sfD; rw [List.length_drop, prD_len]; omega
theorem sfD_succ (D r n k : Nat) (h : k < n) : sfD D r n (k + 1) = (rkD D r k % D) :: sfD D r n k := by
  unfold sfD
  have hl : n - (k + 1) < (prD D r n).length := by rw [prD_len]; omega
  have e := List.drop_eq_getElem_cons hl
  rw [e]
  congr 1
  · have h1 := prD_at D r n (n - (k + 1)) (by omega)
    rw [List.getElem?_eq_getElem hl] at h1
    injection h1 with h1
    rw [h1, show n - 1 - (n - (k + 1)) = k by omega]
  · rw [show n - (k + 1) + 1 = n - k by omega]
theorem dT_cons (d : Nat) (L : List Nat) : dg1T d ++ dT L = dT (d :: L) := by
  apply ByteArray.ext
  rw [ByteArray.data_append]
  unfold dT dA dg1T
  simp

set_option maxHeartbeats 2000000 in
theorem daS_any (t : ByteArray) (D n : Int) (w : World) (ht : t.size ≤ maxLen) : Calls Try.prog 18 #[.string t, .int .i64 D, .int .i64 n] w fun e w' => e = .returned (.tuple #[.bool (daV t D n), .bool (daG t D n)]) ∧ Ext w w' := by
  have HPA := Lib.hid (fun w => piAll_any D n w)
  cases h1 : isDg 0 1300 t
  · have HG := Lib.hid (daG_t (D := D) (n := n) h1)
    have HV := Lib.hid (daV_no HG.out)
    obtain ⟨x, hx⟩ : ∃ x, x = paV D n := ⟨_, rfl⟩
    rw [← hx] at HPA
    clear hx
    go_enter Try.func18, Try.ntmps18
    go_wp2_with (first | (go_at_call 49; refine (HPA.out _).mono ?_; rintro e w' ⟨rfl, rfl⟩) | (go_at_call 43; refine (piDig_any _ _ _ _ ht).mono ?_; rintro e w' ⟨rfl, rfl⟩; rw [h1]))
    go_ret2
    exact ⟨ret_BBd HV.out.symm HG.out.symm, Ext.refl _⟩
  have hz := isDg_size h1
  have H1 := Lib.hid h1
  cases h2 : coG D n
  · have HG := Lib.hid (daG_c (t := t) h2)
    have HV := Lib.hid (daV_no HG.out)
    rw [paV_no h2] at HPA
    go_enter Try.func18, Try.ntmps18
    go_wp2_with (first | (go_at_call 49; refine (HPA.out _).mono ?_; rintro e w' ⟨rfl, rfl⟩) | (go_at_call 43; refine (piDig_any _ _ _ _ ht).mono ?_; rintro e w' ⟨rfl, rfl⟩; rw [h1]))
    go_ret2
    exact ⟨ret_BBd HV.out.symm HG.out.symm, Ext.refl _⟩
  have hG := daG_y h1 h2
  obtain ⟨d, k, rfl, rfl, d1, d10, k2, k4, hp⟩ := coG_parts h2
  have HG := Lib.hid hG
  have HV := Lib.hid (daV_yes hG)
  rw [paV_yes h2] at HPA
  have HO := Lib.hid (fun (r : Nat) (w : World) => piOpens_any t (dT (prD d r k)) w (by omega) (by rw [dT_size, prD_len]; omega) (by rw [dT_size, prD_len]; omega))
  obtain ⟨N, hN⟩ : ∃ N, N = d ^ k := ⟨_, rfl⟩
  rw [← hN] at HPA HV hp
  have hN0 : ¬ (N : Int) < 0 := by omega
  clear hN h1 h2 hG
  go_enter Try.func18, Try.ntmps18
  go_wp2_with (first | (go_at_call 49; refine (HPA.out _).mono ?_; rintro e w' ⟨rfl, rfl⟩) | (go_at_call 43; refine (piDig_any _ _ _ _ ht).mono ?_; rintro e w' ⟨rfl, rfl⟩; rw [H1.out]))
  go_loopw [9] (fun i wr => ∃ r : Nat, r ≤ N ∧ i = .int .i64 r ∧ alK t d k r = true ∧ Ext w wr) (fun i _ => N - (intOf i).toNat)
  case atStart => exact ⟨0, Nat.zero_le _, rfl, rfl, Ext.refl _⟩
  case round =>
    obtain ⟨r, hr, rfl, hall, hx⟩ := hrel
    have HA := Lib.hid hall
    have HX2 := Lib.hid hx
    clear hall hx
    by_cases hlt : r < N
    · have hri : (r : Int) < (N : Int) := by omega
      have HY := Lib.hid (fun h => alK_yes (t := t) (D := d) (n := k) (k := r) HA.out h)
      have HN := Lib.hid (fun h => alK_no (t := t) (D := d) (n := k) (k := r) h N hlt)
      have HOr := Lib.hid (fun w => HO.out r w)
      obtain ⟨wo, hwo⟩ : ∃ wo, wo = wr := ⟨_, rfl⟩
      rw [← hwo] at HX2 ⊢
      clear hwo
      go_wp2
      go_loopw [10, 11, 12] (fun p q i wr => ∃ j : Nat, j ≤ k ∧ i = .int .i64 j ∧ q = .int .i64 (rkD d r j : Nat) ∧ p = .string (dT (sfD d r k j)) ∧ Ext w wr) (fun _ _ i _ => k - (intOf i).toNat)
      case atStart => exact ⟨0, Nat.zero_le _, rfl, rfl, by rw [sfD_0]; rfl, HX2.out⟩
      case round =>
        obtain ⟨j, hj, rfl, rfl, rfl, hx⟩ := hrel
        have HX3 := Lib.hid hx
        clear hx
        by_cases hjk : j < k
        · have hjki : (j : Int) < (k : Int) := by omega
          have hrl := rkD_le d r j
          have HS := Lib.hid (show rkD d r (j + 1) = rkD d r j / d from rfl)
          have HSF := Lib.hid (show dT (sfD d r k (j + 1)) = dg1T (rkD d r j % d) ++ dT (sfD d r k j) by rw [sfD_succ d r k j hjk, dT_cons])
          have hsz : (dT (sfD d r k j)).size ≤ 4 := by rw [dT_size, sfD_len _ _ _ _ hj]; omega
          obtain ⟨R, hR⟩ : ∃ R, R = rkD d r j := ⟨_, rfl⟩
          rw [← hR] at hrl HS HSF ⊢
          have EQ : (R : Int) % (d : Int) = ((R % d : Nat) : Int) := by simp
          have EP : (R : Int) / (d : Int) = ((R / d : Nat) : Int) := by simp
          have hq10 : R % d < 10 := by have := Nat.mod_lt R (show 0 < d by omega); omega
          have HNM := Lib.hid (fun w => l1NumD_any (R % d) w hq10)
          have hPl : R / d ≤ R := Nat.div_le_self _ _
          obtain ⟨Q, hQ⟩ : ∃ Q, Q = R % d := ⟨_, rfl⟩
          obtain ⟨P, hP⟩ : ∃ P, P = R / d := ⟨_, rfl⟩
          rw [← hQ] at EQ HNM HSF
          rw [← hP] at EP HS hPl
          have WP : IntKind.i64.wrap (P : Int) = (P : Int) := by simp only [IntKind.wrap_i64]; omega
          obtain ⟨T, hT⟩ : ∃ T, T = dT (sfD d r k j) := ⟨_, rfl⟩
          rw [← hT] at HSF hsz ⊢
          obtain ⟨G, hG⟩ : ∃ G, G = dg1T Q := ⟨_, rfl⟩
          have hGz : G.size = 1 := by rw [hG]; rfl
          rw [← hG] at HSF HNM
          have hdz : ¬ d = 0 := by omega
          clear hR hQ hP hT hG hq10
          go_wp2_with (first | (go_at_call 56; refine (HNM.out _).mono ?_; rintro e w3 ⟨rfl, x3⟩))
          go_roundw
          case rel => exact ⟨j + 1, by omega, by go_num, by rw [HS.out], by rw [HSF.out], HX3.out.trans x3⟩
          case measure => simp [intOf]; omega
        · obtain rfl : j = k := by omega
          rw [sfD_all]
          have hjn : ¬ (j : Int) < (j : Int) := by omega
          cases hg : opn t d j r
          · have HW := Lib.hid (HN.out hg)
            have hlt0 : opV t (dT (prD d r j)) < 0 := by
              unfold opn at hg
              rw [opV_no (by have := of_decide_eq_false hg; omega)]; decide
            obtain ⟨x, hx⟩ : ∃ x, x = opV t (dT (prD d r j)) := ⟨_, rfl⟩
            obtain ⟨T, hT⟩ : ∃ T, T = dT (prD d r j) := ⟨_, rfl⟩
            rw [← hx, ← hT] at HOr
            rw [← hx] at hlt0
            rw [← hT]
            clear hx hT hg
            go_wp2_with (first | (go_at_call 45; refine (HOr.out _).mono ?_; rintro e w3 ⟨rfl, x3⟩))
            go_ret2
            exact ⟨ret_BBd (by rw [HV.out, HW.out]) HG.out.symm, HX3.out.trans x3⟩
          · have HW := Lib.hid (HY.out hg)
            have hlt0 : ¬ opV t (dT (prD d r j)) < 0 := by
              unfold opn at hg
              have h3 := of_decide_eq_true hg
              rw [opV_yes h3]; omega
            obtain ⟨x, hx⟩ : ∃ x, x = opV t (dT (prD d r j)) := ⟨_, rfl⟩
            obtain ⟨T, hT⟩ : ∃ T, T = dT (prD d r j) := ⟨_, rfl⟩
            rw [← hx, ← hT] at HOr
            rw [← hx] at hlt0
            rw [← hT]
            clear hx hT hg
            go_wp2_with (first | (go_at_call 45; refine (HOr.out _).mono ?_; rintro e w3 ⟨rfl, x3⟩))
            go_roundw
            case rel => exact ⟨r + 1, by omega, by go_num, HW.out, HX3.out.trans x3⟩
            case measure => simp [intOf]; omega
    · obtain rfl : r = N := by omega
      go_wp2
      go_ret2
      exact ⟨ret_BBd (by rw [HV.out, HA.out]) HG.out.symm, HX2.out⟩
end Go.Proofs.Ytmpajijnpoekgab
