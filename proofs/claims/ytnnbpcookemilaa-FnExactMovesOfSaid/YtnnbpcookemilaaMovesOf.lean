/- For every keys and start the program's MovesOf answers as its model does. No conditions. -/
import Derived.Test.YtnnbpcookemilaaRows
import Derived.Test.YtnnbpcookemilaaLaw
import Derived.Test.YtnnbpcookemilaaMoves
import Derived.Test.YtnnbpcookemilaaBld2
namespace Go.Proofs.Ytnnbpcookemilaa.movesOf
open Go.ChangeShapes Go.WideShapes Go.ChangeAt Go.RowKit
open Go.ChangeMaps (open_string shut_string)

def mv1 (a q : Nat) : List UInt8 := mvS 108 114 ((q % 3 : Nat) - (a % 3 : Nat)) ++ mvS 117 100 ((q / 3 : Nat) - (a / 3 : Nat)) ++ [46]
theorem mv1_len (a q : Nat) (ha : a < 12) (hq : q < 12) : (mv1 a q).length ≤ 6 := by
  unfold mv1
  rw [List.length_append, List.length_append, mvS_len, mvS_len]
  show _ + _ + 1 ≤ 6
  omega
def mvs (a : Nat) : List Nat → List UInt8
  | [] => []
  | q :: l => mv1 a q ++ mvs q l
theorem mvs_take : ∀ (ps : List Nat) (p : Nat) (k : Nat) (h : k < ps.length), mvs p (ps.take (k + 1)) = mvs p (ps.take k) ++ mv1 (bef p ps k) ps[k]
  | [], p, k, h => absurd h (Nat.not_lt_zero _)
  | q :: l, p, 0, _ => by simp [mvs, bef]
  | q :: l, p, k + 1, h => by
    have h2 : k < l.length := by simpa using h
    have := mvs_take l q k h2
    rw [List.take_succ_cons, List.take_succ_cons]
    show mv1 p q ++ mvs q (l.take (k + 1)) = (mv1 p q ++ mvs q (l.take k)) ++ mv1 (bef p (q :: l) (k + 1)) l[k]
    have e : bef p (q :: l) (k + 1) = bef q l k := rfl
    rw [this, e, List.append_assoc]
theorem mvs_len : ∀ (ps : List Nat) (p : Nat), p < 12 → (∀ q ∈ ps, q < 12) → (mvs p ps).length ≤ 6 * ps.length
  | [], _, _, _ => Nat.zero_le _
  | q :: l, p, hp, h => by
    have h1 := mv1_len p q hp (h q (by simp))
    have h2 := mvs_len l q (h q (by simp)) (fun x hx => h x (List.mem_cons_of_mem _ hx))
    show (mv1 p q ++ mvs q l).length ≤ 6 * (l.length + 1)
    rw [List.length_append]
    omega
def moV (s a : ByteArray) : ByteArray := if dlB s [a] then ⟨(mvs (p1 a) (plcs s)).toArray⟩ else ⟨#[]⟩
theorem moV_no {s a : ByteArray} (h : dlB s [a] = false) : moV s a = ⟨#[]⟩ := by unfold moV; rw [h]; rfl
theorem moV_yes {s a : ByteArray} (h : dlB s [a] = true) : moV s a = ⟨(mvs (p1 a) (plcs s)).toArray⟩ := by unfold moV; rw [h]; rfl
theorem dl1 {s a : ByteArray} (h : dlB s [a] = true) : oneD a = true ∧ isD s = true := by unfold dlB at h; simpa using h
theorem dl1_no {s a : ByteArray} (h : oneD a = false) : dlB s [a] = false := by unfold dlB; simp [h]
theorem dl1_no2 {s a : ByteArray} (h : isD s = false) : dlB s [a] = false := by unfold dlB; simp [h]

set_option maxHeartbeats 2000000 in
theorem impl_any (s a : ByteArray) (w : World) (hs : s.size ≤ maxLen) (ha : a.size ≤ maxLen) : Calls Try.prog 38 #[.string s, .string a] w fun e w' => e = .returned (.tuple #[.string (moV s a), .bool (dlB s [a])]) ∧ Ext w w' := by
  have X0 : Ext w (w.alloc (.cells #[.string a] 9)) := Below.alloc (Ext.refl _) (Nat.le_refl _) _
  have S0 := Lib.hid (strs1 w a 9 ha)
  cases h : dlB s [a]
  · have HV := Lib.hid (moV_no h)
    go_enter Try.func38, Try.ntmps38
    go_wp2_with (go_at_call 51; refine (canDial_any _ _ _ _ S0.out hs).mono ?_; rintro e w1 ⟨rfl, x1⟩; rw [h])
    go_ret2
    exact ⟨by rw [HV.out]; rfl, X0.trans x1⟩
  · have HV := Lib.hid (moV_yes h)
    obtain ⟨ho, hd⟩ := dl1 h
    have hp := p1_lt a
    have HPL := Lib.hid (plcs_lt s)
    have h30 : (plcs s).length ≤ 30 := by rw [plcs_len]; exact isD_size hd
    have hml : (plcs s).length ≤ maxLen := by unfold maxLen; omega
    go_enter Try.func38, Try.ntmps38
    go_wp2_with (first | (go_at_call 51; refine (canDial_any _ _ _ _ S0.out hs).mono ?_; rintro e w1 ⟨rfl, x1⟩; rw [h]) | (go_at_call 49; refine (place1_any _ _ (by assumption)).mono ?_; rintro e w' ⟨rfl, rfl⟩))
    have X1 : Ext w w1 := X0.trans x1
    refine (placesOf_any s _ hd).mono ?_
    rintro e w3 ⟨v, rfl, hv, x3⟩
    have HB0 := Lib.hid (Bl2.fresh x3)
    obtain ⟨b, hbe⟩ : ∃ b, b = w1.heap.size := ⟨_, rfl⟩
    have hvb : v.ownBlock ≠ some b := by
      intro e
      have := (World.ownsRow.lt hv b e).1
      simp [go_sem] at this
      omega
    have hbw : w.heap.size ≤ b := by rw [hbe]; exact X1.size
    obtain ⟨ps, hps⟩ : ∃ ps, ps = plcs s := ⟨_, rfl⟩
    have HP := Lib.hid (RowP.ps hv hml)
    rw [← hbe] at HB0 ⊢
    rw [← hps] at HV HPL h30 HP
    have X3 : Ext w w3 := Below.trans X1 (Below.trans (Below.alloc (Below.refl _ _) X1.size _) (x3.mono (by have := X1.size; simp [go_sem]; omega)))
    obtain ⟨R, hR⟩ : ∃ R, R = w3.heap.size := ⟨_, rfl⟩
    have HR := Lib.hid hR
    rw [← hR] at HB0
    have hwR : w.heap.size ≤ R := by rw [hR]; exact X3.size
    obtain ⟨a0, cap, hvs⟩ := hv.shape
    rw [← hps] at hvs
    rw [hvs] at HP hvb ⊢
    clear hv hvs hps hbe hR
    have HVB := Lib.hid hvb
    clear hvb
    obtain ⟨p, hpe⟩ : ∃ p, p = p1 a := ⟨_, rfl⟩
    rw [← hpe] at hp HV ⊢
    clear hpe
    go_wp2_with fail
    go_loopw [7, 20] (fun t i wr => ∃ k : Nat, k ≤ ps.length ∧ i = .int .i64 k ∧ t = .int .i64 (bef p ps k : Nat) ∧ Bl2 R b (mvs p (ps.take k)) wr ∧ But R b w3 wr) (fun _ i _ => ps.length - (intOf i).toNat)
    case atStart => exact ⟨0, Nat.zero_le _, rfl, rfl, HB0.out, But.refl _ _ _⟩
    case round =>
      obtain ⟨k, hk, rfl, rfl, hb, hx⟩ := hrel
      have HB := Lib.hid hb
      clear hb
      have hRr : R ≤ wr.heap.size := by rw [HR.out]; exact hx.size
      by_cases hlt : k < ps.length
      · obtain ⟨g, off, ha, _, hcell⟩ := (hx.ps HP.out HR.out HVB.out).get k hlt
        have hq : ps[k] < 12 := HPL.out _ (List.getElem_mem hlt)
        have hf := bef_lt hp HPL.out k
        have hle := mvs_len (ps.take k) p hp (mem_takeN HPL.out)
        have hle2 : (mvs p (ps.take k)).length ≤ 180 := by rw [List.length_take] at hle; omega
        have HT := Lib.hid (mvs_take ps p k hlt)
        have HBF := Lib.hid (bef_succ p ps k hlt)
        obtain ⟨f, hfe⟩ : ∃ f, f = bef p ps k := ⟨_, rfl⟩
        obtain ⟨q, hqe⟩ : ∃ q, q = ps[k] := ⟨_, rfl⟩
        rw [← hfe, ← hqe] at HT
        rw [← hfe] at hf ⊢
        rw [← hqe] at hq hcell HBF
        subst ha
        clear hle hfe hqe
        go_wp2_with (first | (go_at_call 68; refine (padCol_any _ _ (by assumption)).mono ?_; rintro e w' ⟨rfl, rfl⟩) | (go_at_call 69; refine (padRow_any _ _ (by assumption)).mono ?_; rintro e w' ⟨rfl, rfl⟩) | (go_at_call 67; refine (between_any _ _ _ _ (by omega) (by omega)).mono ?_; rintro e w4 ⟨rfl, x4⟩))
        have hm1 : (mvS 108 114 ((q : Int) % 3 - (f : Int) % 3)).length ≤ 3 := by rw [mvS_len]; omega
        have hm2 : (mvS 117 100 ((q : Int) / 3 - (f : Int) / 3)).length ≤ 3 := by rw [mvS_len]; omega
        have HM := Lib.hid (show mv1 f q = mvS 108 114 ((q : Int) % 3 - (f : Int) % 3) ++ mvS 117 100 ((q : Int) / 3 - (f : Int) / 3) ++ [46] from rfl)
        obtain ⟨m1, hm1e⟩ : ∃ m, m = mvS 108 114 ((q : Int) % 3 - (f : Int) % 3) := ⟨_, rfl⟩
        rw [← hm1e] at hm1 HM ⊢
        clear hm1e
        refine (write2_any R b _ _ w4 (HB.out.ext x4) (by show _ + m1.toArray.size ≤ _; rw [List.size_toArray]; omega) (Nat.le_trans hRr x4.size)).mono ?_
        rintro e w5 ⟨rfl, hb5, b5⟩
        have HB5 := Lib.hid hb5
        clear hb5
        go_wp2_with (first | (go_at_call 68; refine (padCol_any _ _ (by assumption)).mono ?_; rintro e w' ⟨rfl, rfl⟩) | (go_at_call 69; refine (padRow_any _ _ (by assumption)).mono ?_; rintro e w' ⟨rfl, rfl⟩) | (go_at_call 67; refine (between_any _ _ _ _ (by omega) (by omega)).mono ?_; rintro e w6 ⟨rfl, x6⟩))
        obtain ⟨m2, hm2e⟩ : ∃ m, m = mvS 117 100 ((q : Int) / 3 - (f : Int) / 3) := ⟨_, rfl⟩
        rw [← hm2e] at hm2 HM ⊢
        clear hm2e
        have hR5 : R ≤ w5.heap.size := Nat.le_trans hRr (Nat.le_trans x4.size b5.size)
        refine (write2_any R b _ _ w6 (HB5.out.ext x6) (by show (_ ++ m1).length + m2.toArray.size ≤ _; rw [List.size_toArray, List.length_append]; omega) (Nat.le_trans hR5 x6.size)).mono ?_
        rintro e w7 ⟨rfl, hb7, b7⟩
        have HB7 := Lib.hid hb7
        clear hb7
        go_wp2_with fail
        have hR7 : R ≤ w7.heap.size := Nat.le_trans hR5 (Nat.le_trans x6.size b7.size)
        refine (write2_any R b _ _ w7 HB7.out (by show ((_ ++ m1) ++ m2).length + 1 ≤ _; rw [List.length_append, List.length_append]; omega) hR7).mono ?_
        rintro e w8 ⟨rfl, hb8, b8⟩
        have HB8 := Lib.hid (show Bl2 R b (mvs p (ps.take (k + 1))) w8 by
          rw [HT.out, HM.out, ← List.append_assoc, ← List.append_assoc]
          exact hb8)
        clear hb8
        have hx8 : But R b w3 w8 := ((((hx.trans (But.ext x4 hRr)).trans b5).trans (But.ext x6 hR5)).trans b7).trans b8
        go_wp2
        go_roundw
        case rel => exact ⟨k + 1, by omega, by go_num, by rw [HBF.out], HB8.out, hx8⟩
        case measure => simp [intOf]; omega
      · have HE := Lib.hid (show ps.take k = ps from List.take_of_length_le (by omega))
        go_wp2_with fail
        refine (string2_any R b _ wr HB.out hRr).mono ?_
        rintro e w9 ⟨rfl, x9⟩
        go_wp2
        go_ret2
        exact ⟨by rw [HV.out, HE.out]; rfl, Below.trans X3 (Below.trans (hx.below hwR hbw) (x9.mono hbw))⟩

set_option maxHeartbeats 2000000 in
theorem spec_any (s a : ByteArray) (w : World) (hs : s.size ≤ maxLen) (ha : a.size ≤ maxLen) : Calls Try.prog 37 #[.string s, .string a] w fun e w' => e = .returned (.tuple #[.string (moV s a), .bool (dlB s [a])]) ∧ Ext w w' := by
  cases h1 : isD s
  · have H := Lib.hid (dl1_no2 (a := a) h1)
    have HV := Lib.hid (moV_no H.out)
    go_enter Try.func37, Try.ntmps37
    go_wp2_with (go_at_call 43; refine (thGood_any _ _ hs).mono ?_; rintro e w' ⟨rfl, rfl⟩; rw [h1])
    go_ret2
    exact ⟨by rw [HV.out, H.out]; rfl, Ext.refl _⟩
  cases h2 : oneD a
  · have H := Lib.hid (dl1_no (s := s) h2)
    have HV := Lib.hid (moV_no H.out)
    go_enter Try.func37, Try.ntmps37
    go_wp2_with (first | (go_at_call 43; refine (thGood_any _ _ hs).mono ?_; rintro e w' ⟨rfl, rfl⟩; rw [h1]) | (go_at_call 45; refine (thOne_any _ _ ha).mono ?_; rintro e w' ⟨rfl, rfl⟩; rw [h2]))
    go_ret2
    exact ⟨by rw [HV.out, H.out]; rfl, Ext.refl _⟩
  have H := Lib.hid (show dlB s [a] = true by unfold dlB; simp [h1, h2])
  have HV := Lib.hid (moV_yes H.out)
  have g1 := oneD_get h2
  have e1 := Lib.hid (p1_get h2)
  have k1 := oneD_size h2
  have i1 : 0 < a.size := by omega
  have h30 := isD_size h1
  have HD := Lib.hid h1
  have HL := Lib.hid (plcs_len s)
  have HPL := Lib.hid (plcs_lt s)
  have hp := p1_lt a
  go_enter Try.func37, Try.ntmps37
  go_wp2_with (first | (go_at_call 43; refine (thGood_any _ _ hs).mono ?_; rintro e w' ⟨rfl, rfl⟩; rw [h1]) | (go_at_call 45; refine (thOne_any _ _ ha).mono ?_; rintro e w' ⟨rfl, rfl⟩; rw [h2]) | (go_at_call 59; refine (thPl_any _ _ (by assumption)).mono ?_; rintro e w' ⟨rfl, rfl⟩; rw [e1.out]))
  obtain ⟨p, hpe⟩ : ∃ p, p = p1 a := ⟨_, rfl⟩
  rw [← hpe] at hp HV ⊢
  clear hpe
  go_loop [6, 7, 8] (fun o t i => ∃ k : Nat, k ≤ s.size ∧ i = .int .i64 k ∧ t = .int .i64 (bef p (plcs s) k : Nat) ∧ o = .string ⟨(mvs p ((plcs s).take k)).toArray⟩) (fun _ _ i => s.size - (intOf i).toNat)
  case atStart => exact ⟨0, Nat.zero_le _, rfl, rfl, rfl⟩
  case round =>
    obtain ⟨k, hk, rfl, rfl, rfl⟩ := hrel
    by_cases hlt : k < s.size
    · have hlt' : k < (plcs s).length := by rw [HL.out]; exact hlt
      have hK := isD_get HD.out k hlt
      have hf := bef_lt hp HPL.out k
      have hle := mvs_len ((plcs s).take k) p hp (mem_takeN HPL.out)
      have hle2 : (mvs p ((plcs s).take k)).length ≤ 180 := by rw [List.length_take, HL.out] at hle; omega
      have HT := Lib.hid (show mvs p ((plcs s).take (k + 1)) = mvs p ((plcs s).take k) ++ mv1 (bef p (plcs s) k) (pn s[k]) by rw [mvs_take _ p k hlt', plcs_at])
      have HB := Lib.hid (show pn s[k] = bef p (plcs s) (k + 1) by rw [bef_succ _ _ k hlt', plcs_at])
      have hq := pn_lt s[k]
      obtain ⟨f, hfe⟩ : ∃ f, f = bef p (plcs s) k := ⟨_, rfl⟩
      obtain ⟨q, hqe⟩ : ∃ q, q = pn s[k] := ⟨_, rfl⟩
      have HQ := Lib.hid hqe
      rw [← hfe, ← hqe] at HT
      rw [← hfe] at hf ⊢
      rw [← hqe] at hq HB
      have hm1 : (mvS 108 114 ((q : Int) % 3 - (f : Int) % 3)).length ≤ 3 := by rw [mvS_len]; omega
      have hm2 : (mvS 117 100 ((q : Int) / 3 - (f : Int) / 3)).length ≤ 3 := by rw [mvS_len]; omega
      have HM := Lib.hid (show mv1 f q = mvS 108 114 ((q : Int) % 3 - (f : Int) % 3) ++ mvS 117 100 ((q : Int) / 3 - (f : Int) / 3) ++ [46] from rfl)
      obtain ⟨A, hA⟩ : ∃ A : ByteArray, A = ⟨(mvS 108 114 ((q : Int) % 3 - (f : Int) % 3)).toArray⟩ := ⟨_, rfl⟩
      obtain ⟨B, hB⟩ : ∃ B : ByteArray, B = ⟨(mvS 117 100 ((q : Int) / 3 - (f : Int) / 3)).toArray⟩ := ⟨_, rfl⟩
      obtain ⟨T, hT⟩ : ∃ T : ByteArray, T = ⟨(mvs p ((plcs s).take k)).toArray⟩ := ⟨_, rfl⟩
      have HA := Lib.hid hA
      have HBB := Lib.hid hB
      have HTT := Lib.hid hT
      have hAs : A.size ≤ 3 := by rw [hA]; show (mvS _ _ _).toArray.size ≤ 3; rw [List.size_toArray]; exact hm1
      have hBs : B.size ≤ 3 := by rw [hB]; show (mvS _ _ _).toArray.size ≤ 3; rw [List.size_toArray]; exact hm2
      have hTs : T.size ≤ 180 := by rw [hT]; show (mvs _ _).toArray.size ≤ 180; rw [List.size_toArray]; exact hle2
      have hDs : (⟨#[46]⟩ : ByteArray).size = 1 := rfl
      have HN := Lib.hid (show (⟨(mvs p ((plcs s).take (k + 1))).toArray⟩ : ByteArray) = T ++ ((A ++ B) ++ ⟨#[46]⟩) by
        apply ByteArray.ext
        rw [ByteArray.data_append, ByteArray.data_append, ByteArray.data_append]
        apply Array.toList_inj.1
        rw [Array.toList_append, Array.toList_append, Array.toList_append, hA, hB, hT]
        show mvs p ((plcs s).take (k + 1)) = mvs p ((plcs s).take k) ++ ((mvS 108 114 ((q : Int) % 3 - (f : Int) % 3) ++ mvS 117 100 ((q : Int) / 3 - (f : Int) / 3)) ++ [46])
        rw [HT.out, HM.out])
      rw [← hT]
      clear hle hfe hqe hA hB hT hm1 hm2
      go_wp2_with (first | (go_at_call 59; refine (thPl_any _ _ (by assumption)).mono ?_; rintro e w' ⟨rfl, rfl⟩; rw [← HQ.out]) | (go_at_call 65; refine (thSteps_any _ _ _ _ (by omega) (by omega)).mono ?_; rintro e w' ⟨rfl, rfl⟩; first | rw [← HA.out] | rw [← HBB.out]))
      go_round
      case rel => exact ⟨k + 1, by omega, by go_num, by rw [HB.out], by rw [HN.out]⟩
      case measure => simp [intOf]; omega
    · have HE := Lib.hid (show (plcs s).take k = plcs s from List.take_of_length_le (by rw [HL.out]; omega))
      go_wp2
      go_ret2
      exact ⟨by rw [HV.out, HE.out, H.out]; rfl, Ext.refl _⟩

set_option maxHeartbeats 1000000 in
theorem walk (s0 : ByteArray) (hs0 : s0.size ≤ maxLen) (s1 : ByteArray) (hs1 : s1.size ≤ maxLen) (w : World) : Calls Try.prog 12 #[.string s0, .string s1] w fun e w' => e = .returned (.bool true) ∧ Ext w w' := by
  have h63_0 : s0.size ≤ 9223372036854775807 := hs0
  have h63_1 : s1.size ≤ 9223372036854775807 := hs1
  obtain ⟨X0, hX0⟩ : ∃ X, X = (moV s0 s1) := ⟨_, rfl⟩
  obtain ⟨ok, hok⟩ : ∃ X, X = (dlB s0 [s1]) := ⟨_, rfl⟩
  have HP := Lib.hid (show ∀ w, Calls Try.prog 37 #[.string s0, .string s1] w fun e w' => e = .returned (.tuple #[.string X0, .bool ok]) ∧ Ext w w' from fun w => by rw [hX0, hok]; exact spec_any s0 s1 w hs0 hs1 )
  have HM := Lib.hid (show ∀ w, Calls Try.prog 38 #[.string s0, .string s1] w fun e w' => e = .returned (.tuple #[.string X0, .bool ok]) ∧ Ext w w' from fun w => by rw [hX0, hok]; exact impl_any s0 s1 w hs0 hs1 )
  clear hX0 hok
  by_cases hbig0 : 1048576 < s0.size
  · go_enter Try.func12, Try.ntmps12
    go_wp2
    go_ret
    exact ⟨rfl, Ext.refl _⟩
  by_cases hbig1 : 1048576 < s1.size
  · go_enter Try.func12, Try.ntmps12
    go_wp2
    go_ret
    exact ⟨rfl, Ext.refl _⟩
  go_enter Try.func12, Try.ntmps12
  go_wp2_with fail
  refine (HP.out _).mono ?_
  rintro e w1 ⟨rfl, x1⟩
  go_wp2_with fail
  refine (HM.out _).mono ?_
  rintro e w2 ⟨rfl, x2⟩
  go_wp2
  go_ret
  exact ⟨rfl, x1.trans x2⟩

set_option maxRecDepth 100000 in
theorem contract (H : Type) (enc : TypeId × Value → H) (W : World) (base : Nat) (args : Array Value) (ds gs : List (DataW H)) (before : List MemPlace)
    (hval : ∀ (j : Nat) t v, Try.f12.params[j]? = some t → args[j]? = some v → Value.okWide Try.prog W .any base t v)
    (hW : DataW.Whole enc Try.prog Try.f12.params.toList Rows.fnExactMovesOfSpec.vars false W args.toList ds gs before) :
    Calls Try.prog 12 args W fun e W' => ∃ v, e = .returned v ∧ Rows.fnExactMovesOfSpec.post enc Try.prog Try.f12 false true false false W args v W' := by
  have hW' := hW
  obtain ⟨p, q, hA0, hV, rfl, hfz, hnd⟩ := hW
  have hA : DataW.TrodAll enc Try.prog W 0 (fun _ => true) true Try.f12.params.toList args.toList ds p := hA0
  rw [Try.params12] at hA hval
  obtain ⟨v0, vs0, d0, ds0, p0, q0, hargs0, rfl, rfl, h0, r0⟩ := trodAll_cons hA
  obtain ⟨v1, vs1, d1, ds1, p1, q1, hargs1, rfl, rfl, h1, r1⟩ := trodAll_cons r0
  obtain ⟨rfl, rfl, rfl⟩ := trodAll_nil r1
  subst hargs1
  obtain rfl : args = #[v0, v1] := Array.toList_inj.1 hargs0
  obtain ⟨s0, rfl, rfl, rfl, z0⟩ := open_string Try.underlying9 (hval 0 9 v0 rfl rfl) h0
  obtain ⟨s1, rfl, rfl, rfl, z1⟩ := open_string Try.underlying9 (hval 1 9 v1 rfl rfl) h1
  clear hA0
  refine (walk s0 z0 s1 z1 W).mono fun e W' ⟨he, hx⟩ => ?_
  subst he
  exact ⟨_, rfl, post_true (tb := 4) laidOut (by rw [Try.params12]; intro t ht; simp at ht; subst ht; exact ⟨by kernel_rfl, of_decide_eq_true (by kernel_rfl)⟩) (by kernel_rfl) hW' hx (by obtain ⟨rfl, rfl⟩ := trodVars_none hV; rfl) rfl Try.underlying4⟩

set_option maxRecDepth 100000 in
theorem lifted (os : Os) (started : os.Started) (H : Type) (enc : TypeId × Value → H) :
    ReturnsInHanded {} Try.checked os 12 .any (Rows.fnExactMovesOfSpec.pre6 enc Try.prog Try.f12 Rows.fnExactMovesOfRow.domain false) (Rows.fnExactMovesOfSpec.post enc Try.prog Try.f12 false true false false) := by
  refine returnsInHanded_of_change (C := Try.checked) own started (by kernel_rfl) Try.func12
    (ChangeSpec.witness6 (enc := enc) (C := Try.checked) false ⟨#[], #[.string ByteArray.empty, .string ByteArray.empty], []⟩ 8 (by kernel_rfl) (by kernel_rfl) (by kernel_rfl) (by kernel_rfl)) ?_
  intro W base args ds gs before hval hW _ _
  exact contract H enc W base args ds gs before hval hW

theorem said : Rows.FnExactMovesOfSaid :=
  OpenClaim.holds_of_wide 12 Try.f12 rfl rfl rfl rfl rfl rfl rfl ⟨rfl, rfl, rfl, rfl, rfl⟩ rfl rfl rfl rfl rfl (by kernel_rfl) Try.func12 (by kernel_rfl)
    (of_decide_eq_true (by kernel_rfl)) (by unfold Func.isWrapper; first | (rw [if_pos (by decide +kernel)]; kernel_rfl) | (rw [if_neg (by decide +kernel)]; exact ⟨rfl, rfl⟩))
    (fun os started H enc _ => lifted os started H enc)
end Go.Proofs.Ytnnbpcookemilaa.movesOf
