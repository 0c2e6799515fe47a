/- The first digits that two codes have in common: shortened till they begin the other one, or counted from the front. No conditions. -/
import Derived.Test.YtinojlbnmnlmhaaPlA
namespace Go.Proofs.Ytinojlbnmnlmhaa
open Go.RowKit

theorem ex_size {s : ByteArray} {k : Nat} (h : k ≤ s.size) : (s.extract 0 k).size = k := by rw [ByteArray.size_extract]; omega
theorem ex_all (s : ByteArray) : s.extract 0 s.size = s := by
  apply tl_inj
  rw [tl_ex, ← tl_len, List.take_length]
theorem ex_ex {s : ByteArray} {j k : Nat} (h : j ≤ k) : (s.extract 0 k).extract 0 j = s.extract 0 j := by
  apply tl_inj
  rw [tl_ex, tl_ex, tl_ex, List.take_take, Nat.min_eq_left h]
theorem sg_get {s : ByteArray} {k : Nat} (h : k < (tl s).length) : (tl s)[k] = sg s k := by
  unfold sg tl
  unfold tl at h
  rw [List.getD_eq_getElem?_getD, List.getElem?_eq_getElem h]
  rfl
theorem bg_ex {a b : ByteArray} {k : Nat} (h : k ≤ a.size) : bgB (a.extract 0 k) b = true ↔ k ≤ b.size ∧ ∀ i, i < k → sg a i = sg b i := by
  rw [bg_iff, tl_ex]
  have hla : (tl a).length = a.size := tl_len a
  have hlb : (tl b).length = b.size := tl_len b
  have hlt : ((tl a).take k).length = k := by rw [List.length_take]; omega
  constructor
  · intro hp
    have hk := hp.length_le
    rw [hlt, hlb] at hk
    refine ⟨hk, fun i hi => ?_⟩
    have e := List.prefix_iff_eq_take.1 hp
    rw [hlt] at e
    rw [← sg_get (s := a) (by omega), ← sg_get (s := b) (by omega)]
    have e2 : ((tl a).take k)[i]'(by omega) = ((tl b).take k)[i]'(by rw [List.length_take]; omega) := by simp only [e]
    rwa [List.getElem_take, List.getElem_take] at e2
  · rintro ⟨hk, hall⟩
    rw [List.prefix_iff_eq_take, hlt]
    apply List.ext_getElem
    · rw [hlt, List.length_take]; omega
    · intro i h1 h2
      rw [List.getElem_take, List.getElem_take, sg_get, sg_get]
      exact hall i (by omega)
/-- The longest start of at most k digits that begins the other one. -/
def dwn (a b : ByteArray) : Nat → Nat
  | 0 => 0
  | k + 1 => if bgB (a.extract 0 (k + 1)) b then k + 1 else dwn a b k
theorem dwn_yes {a b : ByteArray} {k : Nat} (h : bgB (a.extract 0 k) b = true) : dwn a b k = k := by
  cases k with
  | zero => rfl
  | succ k => rw [dwn, if_pos h]
theorem dwn_no {a b : ByteArray} {k : Nat} (h : bgB (a.extract 0 (k + 1)) b = false) : dwn a b (k + 1) = dwn a b k := by rw [dwn, h]; rfl
theorem bg_zero (a b : ByteArray) : bgB (a.extract 0 0) b = true := (bg_ex (Nat.zero_le _)).2 ⟨Nat.zero_le _, fun i h => absurd h (by omega)⟩
theorem dwn_eq {a b : ByteArray} {n : Nat} (h : ∀ k, k ≤ a.size → (bgB (a.extract 0 k) b = true ↔ k ≤ n)) : ∀ k, n ≤ k → k ≤ a.size → dwn a b k = n
  | 0, h1, _ => by rw [dwn]; omega
  | k + 1, h1, h2 => by
    by_cases e : n = k + 1
    · rw [dwn_yes ((h (k + 1) h2).2 (by omega)), e]
    · have hf : bgB (a.extract 0 (k + 1)) b = false := by
        cases hb : bgB (a.extract 0 (k + 1)) b
        · rfl
        · have := (h (k + 1) h2).1 hb; omega
      rw [dwn_no hf]
      exact dwn_eq h k (by omega) (by omega)
theorem dwn_at {a b : ByteArray} {n : Nat} (h1 : n ≤ a.size) (h2 : n ≤ b.size) (h3 : ∀ i, i < n → sg a i = sg b i) (h4 : n = a.size ∨ n = b.size ∨ ¬ sg a n = sg b n) : dwn a b a.size = n := by
  refine dwn_eq (fun k hk => ?_) a.size h1 (Nat.le_refl _)
  rw [bg_ex hk]
  constructor
  · rintro ⟨h5, h6⟩
    rcases h4 with h | h | h
    · omega
    · omega
    · by_cases e : k ≤ n
      · exact e
      · exact absurd (h6 n (by omega)) h
  · intro h
    exact ⟨by omega, fun i hi => h3 i (by omega)⟩
def okH (a b : ByteArray) : Bool := isDg 1 6 a && isDg 1 6 b
def vH (a b : ByteArray) : ByteArray := if okH a b then a.extract 0 (dwn a b a.size) else ⟨#[]⟩
theorem okH_a {a b : ByteArray} (h : isDg 1 6 a = false) : okH a b = false := by unfold okH; rw [h]; rfl
theorem okH_b {a b : ByteArray} (h : isDg 1 6 b = false) : okH a b = false := by unfold okH; rw [h]; simp
theorem okH_y {a b : ByteArray} (h : isDg 1 6 a = true) (h2 : isDg 1 6 b = true) : okH a b = true := by unfold okH; rw [h, h2]; rfl
theorem vH_no {a b : ByteArray} (h : okH a b = false) : vH a b = ⟨#[]⟩ := by unfold vH; rw [h]; rfl
theorem vH_yes {a b : ByteArray} (h : okH a b = true) : vH a b = a.extract 0 (dwn a b a.size) := by unfold vH; rw [h]; rfl
def txLen : Value → Nat
  | .string s => s.size
  | _ => 0

set_option maxHeartbeats 1000000 in
set_option maxRecDepth 4000 in
theorem shrI_any (a b : ByteArray) (w : World) (ha : a.size ≤ maxLen) (hb : b.size ≤ maxLen) : Calls Try.prog 32 #[.string a, .string b] w fun e w' => e = .returned (.tuple #[.string (vH a b), .bool (okH a b)]) ∧ Ext w w' := by
  cases h1 : isDg 1 6 a
  · have HV := Lib.hid (okH_a (b := b) h1)
    go_enter Try.func32, Try.ntmps32
    go_wp2_with (go_at_call 64; refine (isCode_any _ _ ha).mono ?_; rintro e w' ⟨rfl, rfl⟩; rw [h1])
    go_ret2
    exact ⟨ret_sb (vH_no HV.out).symm HV.out.symm, Ext.refl _⟩
  cases h2 : isDg 1 6 b
  · have HV := Lib.hid (okH_b (a := a) h2)
    go_enter Try.func32, Try.ntmps32
    go_wp2_with (first | (go_at_call 64; refine (isCode_any a _ ha).mono ?_; rintro e w' ⟨rfl, rfl⟩; rw [h1]) | (go_at_call 64; refine (isCode_any b _ hb).mono ?_; rintro e w' ⟨rfl, rfl⟩; rw [h2]))
    go_ret2
    exact ⟨ret_sb (vH_no HV.out).symm HV.out.symm, Ext.refl _⟩
  have HO := Lib.hid (okH_y h1 h2)
  have HV := Lib.hid (vH_yes (okH_y h1 h2))
  have hz := isDg_size h1
  go_enter Try.func32, Try.ntmps32
  go_wp2_with (first | (go_at_call 64; refine (isCode_any a _ ha).mono ?_; rintro e w' ⟨rfl, rfl⟩; rw [h1]) | (go_at_call 64; refine (isCode_any b _ hb).mono ?_; rintro e w' ⟨rfl, rfl⟩; rw [h2]))
  clear h1 h2
  go_loop [6] (fun i => ∃ u : ByteArray, i = .string u ∧ u.size ≤ a.size ∧ u = a.extract 0 u.size ∧ dwn a b u.size = dwn a b a.size) (fun i => txLen i)
  case atStart => exact ⟨a, rfl, Nat.le_refl _, (ex_all a).symm, rfl⟩
  case round =>
    obtain ⟨u, rfl, hu, hue, hd⟩ := hrel
    have HE := Lib.hid hue
    have HD := Lib.hid hd
    clear hue hd
    cases hB : bgB u b
    · have HB := Lib.hid hB
      obtain ⟨j, hj⟩ : ∃ j, u.size = j + 1 := by
        rcases Nat.eq_zero_or_pos u.size with h0 | h0
        · rw [HE.out, h0, bg_zero] at hB; cases hB
        · exact ⟨u.size - 1, by omega⟩
      have HN := Lib.hid (show dwn a b j = dwn a b a.size by rw [← HD.out, hj]; refine (dwn_no ?_).symm; rw [← hj, ← HE.out]; exact hB)
      have HX := Lib.hid (show u.extract 0 j = a.extract 0 j by rw [HE.out, ex_ex (by omega)])
      have HS := Lib.hid (ex_size (s := u) (k := j) (by omega))
      have W1 : IntKind.i64.wrap ((u.size : Int) - 1) = ((j : Nat) : Int) := by simp only [IntKind.wrap_i64]; omega
      have l1 : (0 : Int) ≤ ((j : Nat) : Int) := by omega
      have l2 : ((j : Nat) : Int) ≤ (u.size : Int) := by omega
      have l3 : j ≤ u.size := by omega
      have HJ := Lib.hid hj
      clear hB hj
      go_wp2_with (go_at_call 53; refine (begins_any _ _ _).mono ?_; rintro e w' ⟨rfl, rfl⟩; rw [HB.out])
      go_round
      case rel => exact ⟨_, rfl, by rw [HS.out]; omega, by rw [HS.out, HX.out], by rw [HS.out]; exact HN.out⟩
      case measure => have := HJ.out; have := HS.out; simp only [txLen]; omega
    · have HB := Lib.hid hB
      have HW := Lib.hid (show dwn a b u.size = u.size from dwn_yes (by rw [← HE.out]; exact hB))
      clear hB
      go_wp2_with (go_at_call 53; refine (begins_any _ _ _).mono ?_; rintro e w' ⟨rfl, rfl⟩; rw [HB.out])
      go_ret2
      exact ⟨ret_sb (by rw [HV.out, ← HD.out, HW.out]; exact HE.out) HO.out.symm, Ext.refl _⟩

set_option maxHeartbeats 1000000 in
set_option maxRecDepth 4000 in
theorem shrS_any (a b : ByteArray) (w : World) (ha : a.size ≤ maxLen) (hb : b.size ≤ maxLen) : Calls Try.prog 31 #[.string a, .string b] w fun e w' => e = .returned (.tuple #[.string (vH a b), .bool (okH a b)]) ∧ Ext w w' := by
  cases h1 : isDg 1 6 a
  · have HV := Lib.hid (okH_a (b := b) h1)
    go_enter Try.func31, Try.ntmps31
    go_wp2_with (go_at_call 63; refine (plCode_any _ _ ha).mono ?_; rintro e w' ⟨rfl, rfl⟩; rw [h1])
    go_ret2
    exact ⟨ret_sb (vH_no HV.out).symm HV.out.symm, Ext.refl _⟩
  cases h2 : isDg 1 6 b
  · have HV := Lib.hid (okH_b (a := a) h2)
    go_enter Try.func31, Try.ntmps31
    go_wp2_with (first | (go_at_call 63; refine (plCode_any a _ ha).mono ?_; rintro e w' ⟨rfl, rfl⟩; rw [h1]) | (go_at_call 63; refine (plCode_any b _ hb).mono ?_; rintro e w' ⟨rfl, rfl⟩; rw [h2]))
    go_ret2
    exact ⟨ret_sb (vH_no HV.out).symm HV.out.symm, Ext.refl _⟩
  have HO := Lib.hid (okH_y h1 h2)
  have HV := Lib.hid (vH_yes (okH_y h1 h2))
  have hz := isDg_size h1
  have hz2 := isDg_size h2
  go_enter Try.func31, Try.ntmps31
  go_wp2_with (first | (go_at_call 63; refine (plCode_any a _ ha).mono ?_; rintro e w' ⟨rfl, rfl⟩; rw [h1]) | (go_at_call 63; refine (plCode_any b _ hb).mono ?_; rintro e w' ⟨rfl, rfl⟩; rw [h2]))
  clear h1 h2
  go_loopw [6] (fun i wr => ∃ n : Nat, i = .int .i64 n ∧ n ≤ a.size ∧ n ≤ b.size ∧ (∀ i, i < n → sg a i = sg b i) ∧ Ext w wr) (fun i _ => a.size - (intOf i).toNat)
  case atStart => exact ⟨0, rfl, Nat.zero_le _, Nat.zero_le _, fun i h => absurd h (by omega), Ext.refl _⟩
  case round =>
    obtain ⟨n, rfl, hna, hnb, hall, hx⟩ := hrel
    have HA := Lib.hid hall
    clear hall
    have c1 : (0 : Int) ≤ ((n : Nat) : Int) := by omega
    have c2 : ((n : Nat) : Int) ≤ (a.size : Int) := by omega
    by_cases ea : n < a.size
    · by_cases eb : n < b.size
      · have d1 : ((n : Nat) : Int) < (a.size : Int) := by omega
        have d2 : ((n : Nat) : Int) < (b.size : Int) := by omega
        have ia : ∀ w, (Instr.index 9 (.string a) (.int .i64 (n : Int))).run Try.prog w = .ok (.int .u8 ((sg a n).toNat : Int)) w := fun w => ixB a n ea w
        have ib : ∀ w, (Instr.index 9 (.string b) (.int .i64 (n : Int))).run Try.prog w = .ok (.int .u8 ((sg b n).toNat : Int)) w := fun w => ixB b n eb w
        obtain ⟨x, hxx⟩ : ∃ x, x = ((sg a n).toNat : Int) := ⟨_, rfl⟩
        obtain ⟨y, hyy⟩ : ∃ y, y = ((sg b n).toNat : Int) := ⟨_, rfl⟩
        rw [← hxx] at ia
        rw [← hyy] at ib
        by_cases he : x = y
        · have HK := Lib.hid (show sg a n = sg b n from UInt8.toNat_inj.1 (by omega))
          have t1 : (x == y) = true := by simp [he]
          clear hxx hyy he
          go_wp2
          go_quiet (fail)
          go_wp2
          go_roundw
          case rel =>
            refine ⟨n + 1, by go_num, by omega, by omega, fun j hj => ?_, ext_drewN hx _⟩
            by_cases e : j = n
            · subst e; exact HK.out
            · exact HA.out j (by omega)
          case measure => simp [intOf]; omega
        · have HV2 := Lib.hid (dwn_at hna hnb HA.out (.inr (.inr (fun h => he (by rw [hxx, hyy, h])))))
          have t1 : (x == y) = false := by simp [he]
          clear hxx hyy he
          go_wp2
          go_quiet (fail)
          go_wp2
          go_ret2
          exact ⟨ret_sb (by rw [HV.out, HV2.out]) HO.out.symm, ext_drewN hx _⟩
      · have HV2 := Lib.hid (dwn_at hna hnb HA.out (.inr (.inl (by omega))))
        have d1 : ((n : Nat) : Int) < (a.size : Int) := by omega
        have d2 : ¬ ((n : Nat) : Int) < (b.size : Int) := by omega
        go_wp2
        go_quiet (fail)
        go_wp2
        go_ret2
        exact ⟨ret_sb (by rw [HV.out, HV2.out]) HO.out.symm, ext_drewN hx _⟩
    · have HV2 := Lib.hid (dwn_at hna hnb HA.out (.inl (by omega)))
      have d1 : ¬ ((n : Nat) : Int) < (a.size : Int) := by omega
      go_wp2
      go_quiet (fail)
      go_wp2
      go_ret2
      exact ⟨ret_sb (by rw [HV.out, HV2.out]) HO.out.symm, ext_drewN hx _⟩

end Go.Proofs.Ytinojlbnmnlmhaa
