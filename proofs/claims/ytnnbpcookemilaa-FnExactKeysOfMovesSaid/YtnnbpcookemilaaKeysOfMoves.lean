/- For every start and moves the program's KeysOfMoves answers as its model does. No conditions. -/
import Derived.Test.YtnnbpcookemilaaRows
import Derived.Test.YtnnbpcookemilaaLaw
import Derived.Test.YtnnbpcookemilaaBehind
namespace Go.Proofs.Ytnnbpcookemilaa.keysOfMoves
open Go.ChangeShapes Go.WideShapes Go.ChangeAt Go.RowKit
open Go.ChangeMaps (open_string shut_string)

def kmL (o : Option (Nat × List Nat)) : List Nat := match o with | some (_, l) => l | none => []
def kmE (o : Option (Nat × List Nat)) : Bool := match o with | some (_, l) => decide (l.length ≤ 30) | none => false
def kmOk (a m : ByteArray) : Bool := oneD a && decide (m.size ≤ 200) && kmE (kmS (p1 a) m.data.toList)
def kmV (a m : ByteArray) : ByteArray := if kmOk a m then kT (kmL (kmS (p1 a) m.data.toList)) else ⟨#[]⟩
theorem kmV_no {a m : ByteArray} (h : kmOk a m = false) : kmV a m = ⟨#[]⟩ := by unfold kmV; rw [h]; rfl
theorem kmOk_no1 {a m : ByteArray} (h : oneD a = false) : kmOk a m = false := by unfold kmOk; rw [h]; rfl
theorem kmOk_no2 {a m : ByteArray} (h : 200 < m.size) : kmOk a m = false := by unfold kmOk; rw [decide_eq_false (by omega), Bool.and_false]; rfl
theorem kmOk_no3 {a m : ByteArray} (h : kmS (p1 a) m.data.toList = none) : kmOk a m = false := by unfold kmOk; rw [h]; exact Bool.and_false _
theorem kmOk_no4 {a m : ByteArray} {p : Nat} {l : List Nat} (h : kmS (p1 a) m.data.toList = some (p, l)) (h2 : 30 < l.length) : kmOk a m = false := by
  have e : kmE (some (p, l)) = false := decide_eq_false (by omega)
  unfold kmOk; rw [h, e, Bool.and_false]
theorem kmOk_yes {a m : ByteArray} {p : Nat} {l : List Nat} (h1 : oneD a = true) (h2 : m.size ≤ 200) (h : kmS (p1 a) m.data.toList = some (p, l)) (h3 : l.length ≤ 30) : kmOk a m = true := by
  have e : kmE (some (p, l)) = true := decide_eq_true h3
  unfold kmOk; rw [h, h1, decide_eq_true h2, e]; rfl
theorem kmV_yes {a m : ByteArray} {p : Nat} {l : List Nat} (h1 : kmOk a m = true) (h : kmS (p1 a) m.data.toList = some (p, l)) : kmV a m = kT l := by
  unfold kmV; rw [h1, h]; rfl
theorem kmS_all (p : Nat) (m : ByteArray) (k : Nat) (h : m.size ≤ k) : kmS p (m.data.toList.take k) = kmS p m.data.toList := by
  rw [List.take_of_length_le (by simpa using h)]
theorem all_snoc {l : List Nat} {p : Nat} (h : ∀ q ∈ l, q < 12) (hp : p < 12) : ∀ q ∈ l ++ [p], q < 12 := by
  intro q hq
  rcases List.mem_append.1 hq with h1 | h1
  · exact h q h1
  · rw [List.mem_singleton] at h1; omega

set_option maxHeartbeats 4000000 in
theorem impl_any (a m : ByteArray) (w : World) (ha : a.size ≤ maxLen) (hm : m.size ≤ maxLen) : Calls Try.prog 40 #[.string a, .string m] w fun e w' => e = .returned (.tuple #[.string (kmV a m), .bool (kmOk a m)]) ∧ Ext w w' := by
  unfold maxLen at hm
  cases h : oneD a
  · have HO := Lib.hid (kmOk_no1 (m := m) h)
    have HV := Lib.hid (kmV_no HO.out)
    go_enter Try.func40, Try.ntmps40
    go_wp2_with (go_at_call 47; refine (dialKey_any _ _ ha).mono ?_; rintro e w' ⟨rfl, rfl⟩; rw [h])
    go_ret2
    exact ⟨by rw [HV.out, HO.out]; rfl, Ext.refl _⟩
  by_cases h2 : 200 < m.size
  · have HO := Lib.hid (kmOk_no2 (a := a) h2)
    have HV := Lib.hid (kmV_no HO.out)
    have h2i : (200 : Int) < (m.size : Int) := by omega
    go_enter Try.func40, Try.ntmps40
    go_wp2_with (go_at_call 47; refine (dialKey_any _ _ ha).mono ?_; rintro e w' ⟨rfl, rfl⟩; rw [h])
    go_ret2
    exact ⟨by rw [HV.out, HO.out]; rfl, Ext.refl _⟩
  have h200 : m.size ≤ 200 := by omega
  have h2i : ¬ (200 : Int) < (m.size : Int) := by omega
  obtain ⟨p0, hp0⟩ : ∃ p, p = p1 a := ⟨_, rfl⟩
  have hp12 : p0 < 12 := by rw [hp0]; exact p1_lt a
  have HP0 := Lib.hid hp0
  have cP : ∀ w, Calls Try.prog 49 #[.string a] w fun e w' => e = .returned (.int .i64 (p0 : Nat)) ∧ w = w' := fun w => by rw [hp0]; exact place1_any a w h
  clear hp0
  obtain ⟨i0, hi, hz0, hzs, hzb⟩ := info_parts info_intP
  have HI := Lib.hid (show Try.prog.info? 3 = some i0 ∧ i0.zero = some (.int .i64 0) ∧ i0.size = 1 ∧ i0.bytes = 8 from ⟨hi, hz0, hzs, hzb⟩)
  clear hi hz0 hzs hzb
  go_enter Try.func40, Try.ntmps40
  go_wp2_with (first | (go_at_call 47; refine (dialKey_any _ _ ha).mono ?_; rintro e w' ⟨rfl, rfl⟩; rw [h]) | (go_at_call 49; refine (cP _).mono ?_; rintro e w' ⟨rfl, rfl⟩))
  go_loopw [6, 7, 23] (fun v t i wr => ∃ (k p : Nat) (l : List Nat), k ≤ m.size ∧ i = .int .i64 k ∧ t = .int .i64 p ∧ p < 12 ∧ (∀ q ∈ l, q < 12) ∧ l.length ≤ k ∧ kmS p0 (m.data.toList.take k) = some (p, l) ∧ RowP w.heap.size wr v l ∧ Ext w wr) (fun _ _ i _ => m.size - (intOf i).toNat)
  case atStart => exact ⟨0, p0, [], Nat.zero_le _, rfl, rfl, hp12, by simp, Nat.zero_le _, rfl, RowP.nil _ _, Ext.refl _⟩
  case round =>
    obtain ⟨k, p, l, hk, rfl, rfl, hp, hl, hlen, hst, hr, hx⟩ := hrel
    have HL := Lib.hid hl
    have HST := Lib.hid hst
    have HR := Lib.hid hr
    clear hl hst hr
    by_cases hlt : k < m.size
    · have hT := Lib.hid (kmS_take p0 m k hlt)
      obtain ⟨b, hbe⟩ : ∃ b, b = m[k] := ⟨_, rfl⟩
      have HBE := Lib.hid hbe
      have HS : Hid (kmS p0 (m.data.toList.take (k + 1)) = kmF (some (p, l)) b) := by rw [hbe]; exact hT.out.trans (by rw [HST.out])
      have z1 : ∀ w, (Instr.index 9 (.string m) (.int .i64 (k : Int))).run Try.prog w = .ok (.int .u8 b.toNat) w := fun w => by rw [hbe]; exact ixS m k hlt w
      have hmk : m[k] = b := hbe.symm
      clear hbe hT
      by_cases hd : b = 46
      · have t1 : ((b.toNat : Int) == 46) = true := bYes hd
        have HN := Lib.hid (HS.out.trans (kmF_dot (p := p) (l := l) hd))
        have HL2 := Lib.hid (all_snoc HL.out hp)
        clear hd HS
        go_wp2_with (at_builtin; refine wpList_append_own _ rfl _ _ 28 rfl w.heap.size 3 i0 (.int .i64 0) 1 8 Try.underlying28 HI.out.1 HI.out.2.1 HI.out.2.2.1 HI.out.2.2.2 rfl (by decide) _ _ _ rfl (World.ownsRow.alloc HR.out _) ⟨wr.heap.size, 0, none⟩ 1 1 [.int .i64 (p : Int)] rfl rfl (cell_one_new _ _ _) (oneIP _) (by unfold maxLen; omega) (by omega) (by have := hx.size; simp; omega) ?_; intro v' w5 hown' hgr' _)
        have R := Lib.hid (show RowP w.heap.size w5 v' (l ++ [p]) from RowP.grown hown')
        have X : Ext w w5 := ext_grown (hx.alloc _) hgr' (fun j hj => HR.out.own_le j hj)
        clear hown' hgr'
        go_wp2
        go_roundw
        case rel => exact ⟨k + 1, p, l ++ [p], by omega, by go_num, rfl, hp, HL2.out, by rw [List.length_append]; show l.length + 1 ≤ k + 1; omega, HN.out, R.out, X⟩
        case measure => simp [intOf]; omega
      · have t1 : ((b.toNat : Int) == 46) = false := bNo hd
        cases hv : mvTo p b with
        | none =>
          have HD := Lib.hid (kmS_dead p0 m (k + 1) (HS.out.trans (kmF_no hd hv)))
          have HO := Lib.hid (kmOk_no3 (a := a) (m := m) (by rw [← HP0.out]; exact HD.out))
          have HV := Lib.hid (kmV_no HO.out)
          clear hd HS
          go_wp2_with (go_at_call 72; refine (behind_any _ _ _ hp).mono ?_; rintro e w' ⟨rfl, rfl⟩; rw [hv])
          go_ret2
          exact ⟨by rw [HV.out, HO.out]; rfl, hx⟩
        | some q =>
          have hq := mvTo_lt hp hv
          have HN := Lib.hid (HS.out.trans (kmF_go hd hv))
          have hgd : (some q).getD 0 = q := rfl
          have his : (some q).isSome = true := rfl
          clear hd HS
          go_wp2_with (go_at_call 72; refine (behind_any _ _ _ hp).mono ?_; rintro e w' ⟨rfl, rfl⟩; rw [hv])
          go_roundw
          case rel => exact ⟨k + 1, q, l, by omega, by go_num, rfl, hq, HL.out, by omega, HN.out, HR.out, hx⟩
          case measure => simp [intOf]; omega
    · have HE := Lib.hid (show kmS (p1 a) m.data.toList = some (p, l) by rw [← HP0.out, ← kmS_all p0 m k (by omega)]; exact HST.out)
      obtain ⟨av, cap, hvs⟩ := HR.out.shape
      subst hvs
      by_cases h30 : 30 < l.length
      · have HO := Lib.hid (kmOk_no4 HE.out h30)
        have HV := Lib.hid (kmV_no HO.out)
        have h30i : (30 : Int) < (l.length : Int) := by omega
        go_wp2
        go_ret2
        exact ⟨by rw [HV.out, HO.out]; rfl, hx⟩
      · have HO := Lib.hid (kmOk_yes h h200 HE.out (by omega))
        have HV := Lib.hid (kmV_yes HO.out HE.out)
        have h30i : ¬ (30 : Int) < (l.length : Int) := by omega
        have HP := Lib.hid (HR.out.ps (by unfold maxLen; omega))
        go_wp2_with (go_at_call 73; refine (keysAt_any _ _ _ HP.out HL.out (by omega)).mono ?_; rintro e w2 ⟨rfl, x2⟩)
        go_ret2
        exact ⟨by rw [HV.out, HO.out]; rfl, hx.trans x2⟩

theorem inY {n lo hi : Int} (h : lo ≤ n) (h2 : n ≤ hi) : inB n lo hi = true := by simp [inB, h, h2]
theorem inN {n lo hi : Int} (h : n < lo ∨ hi < n) : inB n lo hi = false := by simp [inB]; omega

set_option maxHeartbeats 4000000 in
theorem spec_any (a m : ByteArray) (w : World) (ha : a.size ≤ maxLen) (hm : m.size ≤ maxLen) : Calls Try.prog 39 #[.string a, .string m] w fun e w' => e = .returned (.tuple #[.string (kmV a m), .bool (kmOk a m)]) ∧ Ext w w' := by
  unfold maxLen at hm
  cases h : oneD a
  · have HO := Lib.hid (kmOk_no1 (m := m) h)
    have HV := Lib.hid (kmV_no HO.out)
    go_enter Try.func39, Try.ntmps39
    go_wp2_with (go_at_call 45; refine (thOne_any _ _ ha).mono ?_; rintro e w' ⟨rfl, rfl⟩; rw [h])
    go_ret2
    exact ⟨by rw [HV.out, HO.out]; rfl, Ext.refl _⟩
  by_cases hbg : 200 < m.size
  · have HO := Lib.hid (kmOk_no2 (a := a) hbg)
    have HV := Lib.hid (kmV_no HO.out)
    have h2i : (200 : Int) < (m.size : Int) := by omega
    go_enter Try.func39, Try.ntmps39
    go_wp2_with (go_at_call 45; refine (thOne_any _ _ ha).mono ?_; rintro e w' ⟨rfl, rfl⟩; rw [h])
    go_ret2
    exact ⟨by rw [HV.out, HO.out]; rfl, Ext.refl _⟩
  have h200 : m.size ≤ 200 := by omega
  have h2i : ¬ (200 : Int) < (m.size : Int) := by omega
  have g1 := oneD_get h
  have e1 := Lib.hid (p1_get h)
  have k1 := oneD_size h
  have i1 : 0 < a.size := by omega
  obtain ⟨p0, hp0⟩ : ∃ p, p = p1 a := ⟨_, rfl⟩
  have hp12 : p0 < 12 := by rw [hp0]; exact p1_lt a
  have HP0 := Lib.hid hp0
  clear hp0
  go_enter Try.func39, Try.ntmps39
  go_wp2_with (first | (go_at_call 45; refine (thOne_any _ _ ha).mono ?_; rintro e w' ⟨rfl, rfl⟩; rw [h]) | (go_at_call 59; refine (thPl_any _ _ (by assumption)).mono ?_; rintro e w' ⟨rfl, rfl⟩; rw [e1.out, ← HP0.out]))
  go_loop [7, 8, 9, 10] (fun vx vy o i => ∃ (k p : Nat) (l : List Nat), k ≤ m.size ∧ i = .int .i64 k ∧ vx = .int .i64 ((p % 3 : Nat) : Int) ∧ vy = .int .i64 ((p / 3 : Nat) : Int) ∧ o = .string (kT l) ∧ p < 12 ∧ l.length ≤ k ∧ kmS p0 (m.data.toList.take k) = some (p, l)) (fun _ _ _ i => m.size - (intOf i).toNat)
  case atStart => exact ⟨0, p0, [], Nat.zero_le _, rfl, rfl, rfl, rfl, hp12, Nat.zero_le _, rfl⟩
  case round =>
    obtain ⟨k, p, l, hk, rfl, rfl, rfl, rfl, hp, hlen, hst⟩ := hrel
    have HST := Lib.hid hst
    clear hst
    have hTs : (kT l).size ≤ 200 := by rw [kT_size]; omega
    by_cases hlt : k < m.size
    · have hT := Lib.hid (kmS_take p0 m k hlt)
      obtain ⟨b, hbe⟩ : ∃ b, b = m[k] := ⟨_, rfl⟩
      have HS : Hid (kmS p0 (m.data.toList.take (k + 1)) = kmF (some (p, l)) b) := by rw [hbe]; exact hT.out.trans (by rw [HST.out])
      have hmk : m[k] = b := hbe.symm
      clear hbe hT
      obtain ⟨T, hTe⟩ : ∃ T, T = kT l := ⟨_, rfl⟩
      have HT := Lib.hid hTe
      obtain ⟨x, hxe⟩ : ∃ x, x = p % 3 := ⟨_, rfl⟩
      obtain ⟨y, hye⟩ : ∃ y, y = p / 3 := ⟨_, rfl⟩
      have hx3 : x < 3 := by omega
      have hy4 : y < 4 := by omega
      have HXE := Lib.hid hxe
      have HYE := Lib.hid hye
      have HD := fun (h : kmS p0 (m.data.toList.take (k + 1)) = none) => kmS_dead p0 m (k + 1) h
      rw [← hTe] at hTs ⊢
      rw [← hxe, ← hye]
      clear hTe
      by_cases h0 : b = 108
      · have t0 : ((b.toNat : Int) == 108) = true := bYes h0
        have hd : b ≠ 46 := by rw [h0]; decide
        have HM := mvTo_l (p := p) h0
        by_cases hc : p % 3 = 0
        · have HDD := Lib.hid (HD (HS.out.trans (kmF_no hd (by rw [HM, if_pos hc]))))
          have HO := Lib.hid (kmOk_no3 (a := a) (m := m) (by rw [← HP0.out]; exact HDD.out))
          have HV := Lib.hid (kmV_no HO.out)
          have iX := Lib.hid (show inB ((x : Int) - 1) 0 2 = false from inN (by omega))
          have iY := Lib.hid (show inB ((y : Int)) 0 3 = true from inY (by omega) (by omega))
          clear hd HS HM h0 hc hxe hye HD
          go_wp2_with (go_at_call 71; refine (in_any _ _ _ _).mono ?_; rintro e w' ⟨rfl, rfl⟩; first | rw [iX.out] | rw [iY.out])
          go_ret2
          exact ⟨by rw [HV.out, HO.out]; rfl, Ext.refl _⟩
        · have hv : mvTo p b = some (p - 1) := by rw [HM, if_neg hc]
          have hq := mvTo_lt hp hv
          have HN := Lib.hid (HS.out.trans (kmF_go hd hv))
          have iX := Lib.hid (show inB ((x : Int) - 1) 0 2 = true from inY (by omega) (by omega))
          have iY := Lib.hid (show inB ((y : Int)) 0 3 = true from inY (by omega) (by omega))
          have hcH := Lib.hid hc
          clear hd HS HM h0 hv hc hxe hye HD
          go_wp2_with (go_at_call 71; refine (in_any _ _ _ _).mono ?_; rintro e w' ⟨rfl, rfl⟩; first | rw [iX.out] | rw [iY.out])
          go_round
          case rel => exact ⟨k + 1, p - 1, l, by omega, by go_num, by have := HXE.out; have := hcH.out; congr 1; omega, by have := HYE.out; have := hcH.out; congr 1; omega, by rw [HT.out], hq, by omega, HN.out⟩
          case measure => simp [intOf]; omega
      have t0 : ((b.toNat : Int) == 108) = false := bNo h0
      by_cases h1 : b = 114
      · have t1 : ((b.toNat : Int) == 114) = true := bYes h1
        have hd : b ≠ 46 := by rw [h1]; decide
        have HM := mvTo_r (p := p) h1
        by_cases hc : p % 3 = 2
        · have HDD := Lib.hid (HD (HS.out.trans (kmF_no hd (by rw [HM, if_pos hc]))))
          have HO := Lib.hid (kmOk_no3 (a := a) (m := m) (by rw [← HP0.out]; exact HDD.out))
          have HV := Lib.hid (kmV_no HO.out)
          have iX := Lib.hid (show inB ((x : Int) + 1) 0 2 = false from inN (by omega))
          have iY := Lib.hid (show inB ((y : Int)) 0 3 = true from inY (by omega) (by omega))
          clear hd HS HM h1 hc hxe hye HD h0
          go_wp2_with (go_at_call 71; refine (in_any _ _ _ _).mono ?_; rintro e w' ⟨rfl, rfl⟩; first | rw [iX.out] | rw [iY.out])
          go_ret2
          exact ⟨by rw [HV.out, HO.out]; rfl, Ext.refl _⟩
        · have hv : mvTo p b = some (p + 1) := by rw [HM, if_neg hc]
          have hq := mvTo_lt hp hv
          have HN := Lib.hid (HS.out.trans (kmF_go hd hv))
          have iX := Lib.hid (show inB ((x : Int) + 1) 0 2 = true from inY (by omega) (by omega))
          have iY := Lib.hid (show inB ((y : Int)) 0 3 = true from inY (by omega) (by omega))
          have hcH := Lib.hid hc
          clear hd HS HM h1 hv hc hxe hye HD h0
          go_wp2_with (go_at_call 71; refine (in_any _ _ _ _).mono ?_; rintro e w' ⟨rfl, rfl⟩; first | rw [iX.out] | rw [iY.out])
          go_round
          case rel => exact ⟨k + 1, p + 1, l, by omega, by go_num, by have := HXE.out; have := hcH.out; congr 1; omega, by have := HYE.out; have := hcH.out; congr 1; omega, by rw [HT.out], hq, by omega, HN.out⟩
          case measure => simp [intOf]; omega
      have t1 : ((b.toNat : Int) == 114) = false := bNo h1
      by_cases h2 : b = 117
      · have t2 : ((b.toNat : Int) == 117) = true := bYes h2
        have hd : b ≠ 46 := by rw [h2]; decide
        have HM := mvTo_u (p := p) h2
        by_cases hc : p / 3 = 0
        · have HDD := Lib.hid (HD (HS.out.trans (kmF_no hd (by rw [HM, if_pos hc]))))
          have HO := Lib.hid (kmOk_no3 (a := a) (m := m) (by rw [← HP0.out]; exact HDD.out))
          have HV := Lib.hid (kmV_no HO.out)
          have iX := Lib.hid (show inB ((x : Int)) 0 2 = true from inY (by omega) (by omega))
          have iY := Lib.hid (show inB ((y : Int) - 1) 0 3 = false from inN (by omega))
          clear hd HS HM h2 hc hxe hye HD h0 h1
          go_wp2_with (go_at_call 71; refine (in_any _ _ _ _).mono ?_; rintro e w' ⟨rfl, rfl⟩; first | rw [iX.out] | rw [iY.out])
          go_ret2
          exact ⟨by rw [HV.out, HO.out]; rfl, Ext.refl _⟩
        · have hv : mvTo p b = some (p - 3) := by rw [HM, if_neg hc]
          have hq := mvTo_lt hp hv
          have HN := Lib.hid (HS.out.trans (kmF_go hd hv))
          have iX := Lib.hid (show inB ((x : Int)) 0 2 = true from inY (by omega) (by omega))
          have iY := Lib.hid (show inB ((y : Int) - 1) 0 3 = true from inY (by omega) (by omega))
          have hcH := Lib.hid hc
          clear hd HS HM h2 hv hc hxe hye HD h0 h1
          go_wp2_with (go_at_call 71; refine (in_any _ _ _ _).mono ?_; rintro e w' ⟨rfl, rfl⟩; first | rw [iX.out] | rw [iY.out])
          go_round
          case rel => exact ⟨k + 1, p - 3, l, by omega, by go_num, by have := HXE.out; have := hcH.out; congr 1; omega, by have := HYE.out; have := hcH.out; congr 1; omega, by rw [HT.out], hq, by omega, HN.out⟩
          case measure => simp [intOf]; omega
      have t2 : ((b.toNat : Int) == 117) = false := bNo h2
      by_cases h3 : b = 100
      · have t3 : ((b.toNat : Int) == 100) = true := bYes h3
        have hd : b ≠ 46 := by rw [h3]; decide
        have HM := mvTo_d (p := p) h3
        by_cases hc : p / 3 = 3
        · have HDD := Lib.hid (HD (HS.out.trans (kmF_no hd (by rw [HM, if_pos hc]))))
          have HO := Lib.hid (kmOk_no3 (a := a) (m := m) (by rw [← HP0.out]; exact HDD.out))
          have HV := Lib.hid (kmV_no HO.out)
          have iX := Lib.hid (show inB ((x : Int)) 0 2 = true from inY (by omega) (by omega))
          have iY := Lib.hid (show inB ((y : Int) + 1) 0 3 = false from inN (by omega))
          clear hd HS HM h3 hc hxe hye HD h0 h1 h2
          go_wp2_with (go_at_call 71; refine (in_any _ _ _ _).mono ?_; rintro e w' ⟨rfl, rfl⟩; first | rw [iX.out] | rw [iY.out])
          go_ret2
          exact ⟨by rw [HV.out, HO.out]; rfl, Ext.refl _⟩
        · have hv : mvTo p b = some (p + 3) := by rw [HM, if_neg hc]
          have hq := mvTo_lt hp hv
          have HN := Lib.hid (HS.out.trans (kmF_go hd hv))
          have iX := Lib.hid (show inB ((x : Int)) 0 2 = true from inY (by omega) (by omega))
          have iY := Lib.hid (show inB ((y : Int) + 1) 0 3 = true from inY (by omega) (by omega))
          have hcH := Lib.hid hc
          clear hd HS HM h3 hv hc hxe hye HD h0 h1 h2
          go_wp2_with (go_at_call 71; refine (in_any _ _ _ _).mono ?_; rintro e w' ⟨rfl, rfl⟩; first | rw [iX.out] | rw [iY.out])
          go_round
          case rel => exact ⟨k + 1, p + 3, l, by omega, by go_num, by have := HXE.out; have := hcH.out; congr 1; omega, by have := HYE.out; have := hcH.out; congr 1; omega, by rw [HT.out], hq, by omega, HN.out⟩
          case measure => simp [intOf]; omega
      have t3 : ((b.toNat : Int) == 100) = false := bNo h3
      by_cases h4 : b = 46
      · have t4 : ((b.toNat : Int) == 46) = true := bYes h4
        have HN := Lib.hid (HS.out.trans (kmF_dot (p := p) (l := l) h4))
        have HK := Lib.hid (show kT (l ++ [p]) = T ++ kB p by rw [kT_snoc _ _ hp, HT.out])
        have hKs : (kB p).size = 1 := kB_size p hp
        have iX := Lib.hid (show inB (x : Int) 0 2 = true from inY (by omega) (by omega))
        have iY := Lib.hid (show inB (y : Int) 0 3 = true from inY (by omega) (by omega))
        have eq : 3 * (y : Int) + (x : Int) = (p : Int) := by omega
        have eqs : p + 1 ≤ (⟨#[49, 50, 51, 52, 53, 54, 55, 56, 57, 42, 48, 35]⟩ : ByteArray).size := hp
        have hp0 : p ≤ 12 := by omega
        have ekB : (⟨#[49, 50, 51, 52, 53, 54, 55, 56, 57, 42, 48, 35]⟩ : ByteArray).extract p (p + 1) = kB p := rfl
        clear HS h4 hxe hye HD h0 h1 h2 h3
        go_wp2_with (go_at_call 71; refine (in_any _ _ _ _).mono ?_; rintro e w' ⟨rfl, rfl⟩; first | rw [iX.out] | rw [iY.out])
        go_round
        case rel => exact ⟨k + 1, p, l ++ [p], by omega, by go_num, by rw [HXE.out], by rw [HYE.out], by rw [HK.out], hp, by rw [List.length_append]; show l.length + 1 ≤ k + 1; omega, HN.out⟩
        case measure => simp [intOf]; omega
      · have t4 : ((b.toNat : Int) == 46) = false := bNo h4
        have HDD := Lib.hid (HD (HS.out.trans (kmF_no h4 (mvTo_none h0 h1 h2 h3))))
        have HO := Lib.hid (kmOk_no3 (a := a) (m := m) (by rw [← HP0.out]; exact HDD.out))
        have HV := Lib.hid (kmV_no HO.out)
        clear HS h4 hxe hye HD h0 h1 h2 h3
        go_wp2
        go_ret2
        exact ⟨by rw [HV.out, HO.out]; rfl, Ext.refl _⟩
    · have HE := Lib.hid (show kmS (p1 a) m.data.toList = some (p, l) by rw [← HP0.out, ← kmS_all p0 m k (by omega)]; exact HST.out)
      have hTl : (kT l).size = l.length := kT_size l
      by_cases h30 : 30 < l.length
      · have HO := Lib.hid (kmOk_no4 HE.out h30)
        have HV := Lib.hid (kmV_no HO.out)
        have h30i : (30 : Int) < ((kT l).size : Int) := by omega
        clear hTl
        go_wp2
        go_ret2
        exact ⟨by rw [HV.out, HO.out]; rfl, Ext.refl _⟩
      · have HO := Lib.hid (kmOk_yes h h200 HE.out (by omega))
        have HV := Lib.hid (kmV_yes HO.out HE.out)
        have h30i : ¬ (30 : Int) < ((kT l).size : Int) := by omega
        clear hTl
        go_wp2
        go_ret2
        exact ⟨by rw [HV.out, HO.out]; rfl, Ext.refl _⟩

set_option maxHeartbeats 1000000 in
theorem walk (s0 : ByteArray) (hs0 : s0.size ≤ maxLen) (s1 : ByteArray) (hs1 : s1.size ≤ maxLen) (w : World) : Calls Try.prog 13 #[.string s0, .string s1] w fun e w' => e = .returned (.bool true) ∧ Ext w w' := by
  have h63_0 : s0.size ≤ 9223372036854775807 := hs0
  have h63_1 : s1.size ≤ 9223372036854775807 := hs1
  obtain ⟨X0, hX0⟩ : ∃ X, X = (kmV s0 s1) := ⟨_, rfl⟩
  obtain ⟨ok, hok⟩ : ∃ X, X = (kmOk s0 s1) := ⟨_, rfl⟩
  have HP := Lib.hid (show ∀ w, Calls Try.prog 39 #[.string s0, .string s1] w fun e w' => e = .returned (.tuple #[.string X0, .bool ok]) ∧ Ext w w' from fun w => by rw [hX0, hok]; exact spec_any s0 s1 w hs0 hs1 )
  have HM := Lib.hid (show ∀ w, Calls Try.prog 40 #[.string s0, .string s1] w fun e w' => e = .returned (.tuple #[.string X0, .bool ok]) ∧ Ext w w' from fun w => by rw [hX0, hok]; exact impl_any s0 s1 w hs0 hs1 )
  clear hX0 hok
  by_cases hbig0 : 1048576 < s0.size
  · go_enter Try.func13, Try.ntmps13
    go_wp2
    go_ret
    exact ⟨rfl, Ext.refl _⟩
  by_cases hbig1 : 1048576 < s1.size
  · go_enter Try.func13, Try.ntmps13
    go_wp2
    go_ret
    exact ⟨rfl, Ext.refl _⟩
  go_enter Try.func13, Try.ntmps13
  go_wp2_with fail
  refine (HP.out _).mono ?_
  rintro e w1 ⟨rfl, x1⟩
  go_wp2_with fail
  refine (HM.out _).mono ?_
  rintro e w2 ⟨rfl, x2⟩
  go_wp2
  go_ret
  exact ⟨rfl, x1.trans x2⟩

set_option maxRecDepth 100000 in
theorem contract (H : Type) (enc : TypeId × Value → H) (W : World) (base : Nat) (args : Array Value) (ds gs : List (DataW H)) (before : List MemPlace)
    (hval : ∀ (j : Nat) t v, Try.f13.params[j]? = some t → args[j]? = some v → Value.okWide Try.prog W .any base t v)
    (hW : DataW.Whole enc Try.prog Try.f13.params.toList Rows.fnExactKeysOfMovesSpec.vars false W args.toList ds gs before) :
    Calls Try.prog 13 args W fun e W' => ∃ v, e = .returned v ∧ Rows.fnExactKeysOfMovesSpec.post enc Try.prog Try.f13 false true false false W args v W' := by
  have hW' := hW
  obtain ⟨p, q, hA0, hV, rfl, hfz, hnd⟩ := hW
  have hA : DataW.TrodAll enc Try.prog W 0 (fun _ => true) true Try.f13.params.toList args.toList ds p := hA0
  rw [Try.params13] at hA hval
  obtain ⟨v0, vs0, d0, ds0, p0, q0, hargs0, rfl, rfl, h0, r0⟩ := trodAll_cons hA
  obtain ⟨v1, vs1, d1, ds1, p1, q1, hargs1, rfl, rfl, h1, r1⟩ := trodAll_cons r0
  obtain ⟨rfl, rfl, rfl⟩ := trodAll_nil r1
  subst hargs1
  obtain rfl : args = #[v0, v1] := Array.toList_inj.1 hargs0
  obtain ⟨s0, rfl, rfl, rfl, z0⟩ := open_string Try.underlying9 (hval 0 9 v0 rfl rfl) h0
  obtain ⟨s1, rfl, rfl, rfl, z1⟩ := open_string Try.underlying9 (hval 1 9 v1 rfl rfl) h1
  clear hA0
  refine (walk s0 z0 s1 z1 W).mono fun e W' ⟨he, hx⟩ => ?_
  subst he
  exact ⟨_, rfl, post_true (tb := 4) laidOut (by rw [Try.params13]; intro t ht; simp at ht; subst ht; exact ⟨by kernel_rfl, of_decide_eq_true (by kernel_rfl)⟩) (by kernel_rfl) hW' hx (by obtain ⟨rfl, rfl⟩ := trodVars_none hV; rfl) rfl Try.underlying4⟩

set_option maxRecDepth 100000 in
theorem lifted (os : Os) (started : os.Started) (H : Type) (enc : TypeId × Value → H) :
    ReturnsInHanded {} Try.checked os 13 .any (Rows.fnExactKeysOfMovesSpec.pre6 enc Try.prog Try.f13 Rows.fnExactKeysOfMovesRow.domain false) (Rows.fnExactKeysOfMovesSpec.post enc Try.prog Try.f13 false true false false) := by
  refine returnsInHanded_of_change (C := Try.checked) own started (by kernel_rfl) Try.func13
    (ChangeSpec.witness6 (enc := enc) (C := Try.checked) false ⟨#[], #[.string ByteArray.empty, .string ByteArray.empty], []⟩ 8 (by kernel_rfl) (by kernel_rfl) (by kernel_rfl) (by kernel_rfl)) ?_
  intro W base args ds gs before hval hW _ _
  exact contract H enc W base args ds gs before hval hW

theorem said : Rows.FnExactKeysOfMovesSaid :=
  OpenClaim.holds_of_wide 13 Try.f13 rfl rfl rfl rfl rfl rfl rfl ⟨rfl, rfl, rfl, rfl, rfl⟩ rfl rfl rfl rfl rfl (by kernel_rfl) Try.func13 (by kernel_rfl)
    (of_decide_eq_true (by kernel_rfl)) (by unfold Func.isWrapper; first | (rw [if_pos (by decide +kernel)]; kernel_rfl) | (rw [if_neg (by decide +kernel)]; exact ⟨rfl, rfl⟩))
    (fun os started H enc _ => lifted os started H enc)
end Go.Proofs.Ytnnbpcookemilaa.keysOfMoves
