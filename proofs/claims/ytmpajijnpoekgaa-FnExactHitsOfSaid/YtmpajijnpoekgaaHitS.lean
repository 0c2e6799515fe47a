/- Hits and near ones of two pins: the model's. No conditions. -/
import Derived.Test.YtmpajijnpoekgaaHit
import Derived.Test.YtmpajijnpoekgaaWheel
namespace Go.Proofs.Ytmpajijnpoekgaa
open Go.RowKit

set_option maxHeartbeats 1000000 in
theorem piHits_any (s t : ByteArray) (w : World) (h : evB s t = true) : Calls Try.prog 63 #[.string s, .string t] w fun e w' => e = .returned (.tuple #[.int .i64 (hitK s t s.size : Nat), .int .i64 (nrK s t 10 : Nat)]) ∧ Ext w w' := by
  obtain ⟨p1, p2, p3⟩ := evB_parts h
  have hz := pinB_size p1
  have HD1 := Lib.hid (pinB_wk p1)
  have HD2 := Lib.hid (pinB_wk p2)
  have HP3 := Lib.hid p3
  have HBO := Lib.hid (boK_nr s t (fun i hi => (dgt_of (pinB_wk p1) hi).1))
  have hz4 : s.size ≤ 4 := hz.2
  clear p1 p2 p3 h
  go_enter Try.func63, Try.ntmps63
  go_wp2
  go_loopw [6, 8] (fun o i wr => ∃ k : Nat, k ≤ s.size ∧ i = .int .i64 k ∧ o = .int .i64 (hitK s t k : Nat) ∧ Ext w wr) (fun _ i _ => s.size - (intOf i).toNat)
  case atStart => exact ⟨0, Nat.zero_le _, rfl, rfl, Ext.refl _⟩
  case round =>
    obtain ⟨k, hk, rfl, rfl, hx⟩ := hrel
    by_cases hlt : k < s.size
    · have hlt2 : k < t.size := by have := HP3.out; omega
      obtain ⟨a10, a48⟩ := dgt_of HD1.out hlt
      obtain ⟨b10, b48⟩ := dgt_of HD2.out hlt2
      have ia : ∀ w, (Instr.index 9 (.string s) (.int .i64 (k : Int))).run Try.prog w = .ok (.int .u8 ((dgt s k : Int) + 48)) w := fun w => by rw [← a48]; exact ixS s k hlt w
      have ib : ∀ w, (Instr.index 9 (.string t) (.int .i64 (k : Int))).run Try.prog w = .ok (.int .u8 ((dgt t k : Int) + 48)) w := fun w => by rw [← b48]; exact ixS t k hlt2 w
      have HS := Lib.hid (show hitK s t (k + 1) = hitK s t k + if dgt s k = dgt t k then 1 else 0 from rfl)
      have hle := hitK_le s t k
      obtain ⟨x, hx0⟩ : ∃ x, x = dgt s k := ⟨_, rfl⟩
      obtain ⟨y, hy0⟩ : ∃ y, y = dgt t k := ⟨_, rfl⟩
      obtain ⟨o, ho⟩ : ∃ o, o = hitK s t k := ⟨_, rfl⟩
      rw [← hx0] at ia HS
      rw [← hy0] at ib HS
      rw [← ho] at HS hle ⊢
      clear hx0 hy0 ho a48 b48 a10 b10
      by_cases he : x = y
      · have HV := Lib.hid (show hitK s t (k + 1) = o + 1 by rw [HS.out, if_pos he])
        have heb : ((x : Int) + 48 == (y : Int) + 48) = true := beq_iff_eq.2 (by omega)
        have hei : (x : Int) + 48 = (y : Int) + 48 := by omega
        have hei2 : (x : Int) = (y : Int) := by omega
        clear he
        go_wp2
        go_quiet (fail)
        go_wp2
        go_roundw
        case rel => exact ⟨k + 1, by omega, by go_num, by rw [HV.out]; first | rfl | go_num, ext_drewN hx _⟩
        case measure => simp [intOf]; omega
      · have HV := Lib.hid (show hitK s t (k + 1) = o by rw [HS.out, if_neg he]; rfl)
        have heb : ((x : Int) + 48 == (y : Int) + 48) = false := beq_eq_false_iff_ne.2 (by omega)
        have hei : ¬ (x : Int) + 48 = (y : Int) + 48 := by omega
        have hei2 : ¬ (x : Int) = (y : Int) := by omega
        clear he
        go_wp2
        go_quiet (fail)
        go_wp2
        go_roundw
        case rel => exact ⟨k + 1, by omega, by go_num, by rw [HV.out], ext_drewN hx _⟩
        case measure => simp [intOf]; omega
    · have hkn : ¬ (k : Int) < (s.size : Int) := by omega
      have HK := Lib.hid (show k = s.size by omega)
      obtain ⟨H, hH⟩ : ∃ H, H = hitK s t k := ⟨_, rfl⟩
      have HH := Lib.hid (show hitK s t s.size = H by rw [hH, HK.out])
      have HH4 : H ≤ 4 := by rw [hH]; have := hitK_le s t k; omega
      rw [← hH]
      clear hH
      have HX := Lib.hid hx
      obtain ⟨wo, rfl⟩ : ∃ wo, wo = wr := ⟨_, rfl⟩
      go_wp2
      go_loopw [7, 9] (fun o d wr => ∃ j : Nat, j ≤ 10 ∧ d = .int .u8 (48 + (j : Int)) ∧ o = .int .i64 (boK s t j : Nat) ∧ Ext w wr) (fun _ d _ => 58 - (intOf d).toNat)
      case atStart => exact ⟨0, Nat.zero_le _, rfl, rfl, HX.out⟩
      case round =>
        obtain ⟨j, hj, rfl, rfl, hx⟩ := hrel
        by_cases hlj : j < 10
        · have hle : (48 : Int) + (j : Int) ≤ 57 := by omega
          have HX2 := Lib.hid hx
          have Wu : IntKind.u8.wrap (48 + (j : Int) + 1) = 48 + (j : Int) + 1 := IntWalk.u8_in _ (by omega)
          have HBS := Lib.hid (boK_succ s t j)
          have hbl := boK_le s t j
          have hmul : j * s.size ≤ 10 * 4 := Nat.mul_le_mul (by omega) hz4
          obtain ⟨O, hO⟩ : ∃ O, O = boK s t j := ⟨_, rfl⟩
          rw [← hO] at HBS hbl ⊢
          have hO40 : O ≤ 40 := by omega
          clear hO hbl hmul hx
          obtain ⟨wp, hwp⟩ : ∃ wp, wp = wr := ⟨_, rfl⟩
          rw [← hwp] at HX2 ⊢
          clear hwp
          go_wp2
          go_loopw [10, 11, 12] (fun a b i wr => ∃ k : Nat, k ≤ s.size ∧ i = .int .i64 k ∧ a = .int .i64 (cnK s j k : Nat) ∧ b = .int .i64 (cnK t j k : Nat) ∧ Ext w wr) (fun _ _ i _ => s.size - (intOf i).toNat)
          case atStart => exact ⟨0, Nat.zero_le _, rfl, rfl, rfl, HX2.out⟩
          case round =>
            obtain ⟨k, hk, rfl, rfl, rfl, hx⟩ := hrel
            by_cases hlt : k < s.size
            · have hlt2 : k < t.size := by have := HP3.out; omega
              obtain ⟨a10, a48⟩ := dgt_of HD1.out hlt
              obtain ⟨b10, b48⟩ := dgt_of HD2.out hlt2
              have ia : ∀ w, (Instr.index 9 (.string s) (.int .i64 (k : Int))).run Try.prog w = .ok (.int .u8 ((dgt s k : Int) + 48)) w := fun w => by rw [← a48]; exact ixS s k hlt w
              have ib : ∀ w, (Instr.index 9 (.string t) (.int .i64 (k : Int))).run Try.prog w = .ok (.int .u8 ((dgt t k : Int) + 48)) w := fun w => by rw [← b48]; exact ixS t k hlt2 w
              have HSA := Lib.hid (show cnK s j (k + 1) = cnK s j k + if dgt s k = j then 1 else 0 from rfl)
              have HSB := Lib.hid (show cnK t j (k + 1) = cnK t j k + if dgt t k = j then 1 else 0 from rfl)
              have la := cnK_le s j k
              have lb := cnK_le t j k
              obtain ⟨x, hx0⟩ : ∃ x, x = dgt s k := ⟨_, rfl⟩
              obtain ⟨y, hy0⟩ : ∃ y, y = dgt t k := ⟨_, rfl⟩
              obtain ⟨a, ha⟩ : ∃ a, a = cnK s j k := ⟨_, rfl⟩
              obtain ⟨b, hb⟩ : ∃ b, b = cnK t j k := ⟨_, rfl⟩
              rw [← hx0] at ia HSA
              rw [← hy0] at ib HSB
              rw [← ha] at HSA la ⊢
              rw [← hb] at HSB lb ⊢
              clear hx0 hy0 ha hb a48 b48 a10 b10
              by_cases h1 : x = j <;> by_cases h2 : y = j
              · have HA := Lib.hid (show cnK s j (k + 1) = a + 1 by rw [HSA.out, if_pos h1])
                have HB := Lib.hid (show cnK t j (k + 1) = b + 1 by rw [HSB.out, if_pos h2])
                have e1 : ((x : Int) + 48 == 48 + (j : Int)) = true := beq_iff_eq.2 (by omega)
                have e2 : ((y : Int) + 48 == 48 + (j : Int)) = true := beq_iff_eq.2 (by omega)
                have i1 : (x : Int) + 48 = 48 + (j : Int) := by omega
                have i2 : (y : Int) + 48 = 48 + (j : Int) := by omega
                clear h1 h2
                go_wp2
                go_roundw
                case rel => exact ⟨k + 1, by omega, by go_num, by rw [HA.out]; first | rfl | go_num, by rw [HB.out]; first | rfl | go_num, hx⟩
                case measure => simp [intOf]; omega
              · have HA := Lib.hid (show cnK s j (k + 1) = a + 1 by rw [HSA.out, if_pos h1])
                have HB := Lib.hid (show cnK t j (k + 1) = b by rw [HSB.out, if_neg h2]; rfl)
                have e1 : ((x : Int) + 48 == 48 + (j : Int)) = true := beq_iff_eq.2 (by omega)
                have e2 : ((y : Int) + 48 == 48 + (j : Int)) = false := beq_eq_false_iff_ne.2 (by omega)
                have i1 : (x : Int) + 48 = 48 + (j : Int) := by omega
                have i2 : ¬ (y : Int) + 48 = 48 + (j : Int) := by omega
                clear h1 h2
                go_wp2
                go_roundw
                case rel => exact ⟨k + 1, by omega, by go_num, by rw [HA.out]; first | rfl | go_num, by rw [HB.out], hx⟩
                case measure => simp [intOf]; omega
              · have HA := Lib.hid (show cnK s j (k + 1) = a by rw [HSA.out, if_neg h1]; rfl)
                have HB := Lib.hid (show cnK t j (k + 1) = b + 1 by rw [HSB.out, if_pos h2])
                have e1 : ((x : Int) + 48 == 48 + (j : Int)) = false := beq_eq_false_iff_ne.2 (by omega)
                have e2 : ((y : Int) + 48 == 48 + (j : Int)) = true := beq_iff_eq.2 (by omega)
                have i1 : ¬ (x : Int) + 48 = 48 + (j : Int) := by omega
                have i2 : (y : Int) + 48 = 48 + (j : Int) := by omega
                clear h1 h2
                go_wp2
                go_roundw
                case rel => exact ⟨k + 1, by omega, by go_num, by rw [HA.out], by rw [HB.out]; first | rfl | go_num, hx⟩
                case measure => simp [intOf]; omega
              · have HA := Lib.hid (show cnK s j (k + 1) = a by rw [HSA.out, if_neg h1]; rfl)
                have HB := Lib.hid (show cnK t j (k + 1) = b by rw [HSB.out, if_neg h2]; rfl)
                have e1 : ((x : Int) + 48 == 48 + (j : Int)) = false := beq_eq_false_iff_ne.2 (by omega)
                have e2 : ((y : Int) + 48 == 48 + (j : Int)) = false := beq_eq_false_iff_ne.2 (by omega)
                have i1 : ¬ (x : Int) + 48 = 48 + (j : Int) := by omega
                have i2 : ¬ (y : Int) + 48 = 48 + (j : Int) := by omega
                clear h1 h2
                go_wp2
                go_roundw
                case rel => exact ⟨k + 1, by omega, by go_num, by rw [HA.out], by rw [HB.out], hx⟩
                case measure => simp [intOf]; omega
            · have hkn : ¬ (k : Int) < (s.size : Int) := by omega
              have HK2 := Lib.hid (show k = s.size by omega)
              have la := cnK_le s j k
              have lb := cnK_le t j k
              have HBS2 := Lib.hid (show boK s t (j + 1) = O + min (cnK s j k) (cnK t j k) by rw [HBS.out, HK2.out])
              obtain ⟨a, ha⟩ : ∃ a, a = cnK s j k := ⟨_, rfl⟩
              obtain ⟨b, hb⟩ : ∃ b, b = cnK t j k := ⟨_, rfl⟩
              rw [← ha] at la HBS2 ⊢
              rw [← hb] at lb HBS2 ⊢
              obtain ⟨r, hr⟩ : ∃ r, r = min a b := ⟨_, rfl⟩
              have hr4 : r ≤ 4 := by omega
              have HM := Lib.hid (fun w => (show Calls Try.prog 76 #[.int .i64 (a : Int), .int .i64 (b : Int)] w fun e w' => e = .returned (.int .i64 (r : Int)) ∧ w = w' from (least_any _ _ w).mono fun e w' h => ⟨h.1.trans (ret_iD (by rw [hr]; omega)), h.2⟩))
              rw [← hr] at HBS2
              clear ha hb hr
              go_wp2_with (go_at_call 76; refine (HM.out _).mono ?_; rintro e w' ⟨rfl, rfl⟩)
              go_roundw
              case rel => exact ⟨j + 1, by omega, by rw [show 48 + ((j + 1 : Nat) : Int) = 48 + (j : Int) + 1 by omega], by rw [HBS2.out]; first | rfl | go_num, hx⟩
              case measure => simp [intOf]; omega
        · obtain rfl : j = 10 := by omega
          have HE := Lib.hid (show boK s t 10 = nrK s t 10 + H by rw [HBO.out, HH.out])
          have hn := nrK_le s t 10
          have hn40 : nrK s t 10 ≤ 40 := by omega
          obtain ⟨N, hN⟩ : ∃ N, N = nrK s t 10 := ⟨_, rfl⟩
          obtain ⟨O, hO⟩ : ∃ O, O = boK s t 10 := ⟨_, rfl⟩
          rw [← hN] at HE hn40
          rw [← hO] at HE ⊢
          have hO2 : (O : Int) - (H : Int) = (N : Int) := by have := HE.out; omega
          have WO : IntKind.i64.wrap ((O : Int) - (H : Int)) = (N : Int) := by simp only [IntKind.wrap_i64]; omega
          have HNN := Lib.hid hN
          clear hN hO hn
          go_wp2
          go_ret2
          exact ⟨ret_II (by rw [HH.out]) (by rw [← HNN.out]), hx⟩
end Go.Proofs.Ytmpajijnpoekgaa
