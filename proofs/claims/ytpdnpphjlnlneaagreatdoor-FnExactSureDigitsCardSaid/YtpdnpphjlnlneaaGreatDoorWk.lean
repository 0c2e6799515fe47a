/- Walks on the pad: digits, pieces and steps, as the program and its model tell them. No conditions. -/
import Derived.Test.YtpdnpphjlnlneaaGreatDoorSeq
namespace Go.Proofs.YtpdnpphjlnlneaaGreatDoor
open Go.RowKit

theorem beqW (a b : ByteArray) : (a.toList == b.toList) = decide (a = b) := by
  rw [Lib.toList_data, Lib.toList_data]
  by_cases e : a = b
  · rw [e, decide_eq_true rfl]; exact beq_self_eq_true _
  · rw [decide_eq_false e]
    refine beq_eq_false_iff_ne.2 fun h => e ?_
    apply ByteArray.ext
    exact Array.toList_inj.1 h
theorem pne {s : ByteArray} {c : UInt8} (h : s ≠ ⟨#[c]⟩) : ¬ s.toList = [c] := by
  intro e
  apply h
  rw [Lib.toList_data] at e
  apply ByteArray.ext
  exact Array.toList_inj.1 e
theorem pnb {s : ByteArray} {c : UInt8} (h : s ≠ ⟨#[c]⟩) : (s.toList == [c]) = false := beq_eq_false_iff_ne.2 (pne h)
def isg (c : Int) : Bool := decide (48 ≤ c) && decide (c ≤ 57)
theorem isg_of {c : Int} (h : 48 ≤ c) (h2 : c ≤ 57) : isg c = true := by unfold isg; rw [decide_eq_true h, decide_eq_true h2]; rfl
theorem isg_lo {c : Int} (h : c < 48) : isg c = false := by unfold isg; rw [decide_eq_false (by omega)]; rfl
theorem isg_hi {c : Int} (h : 57 < c) : isg c = false := by unfold isg; rw [decide_eq_false (show ¬ c ≤ 57 by omega), Bool.and_false]
theorem isg_bd {c : Int} (h : isg c = true) : 48 ≤ c ∧ c ≤ 57 := by unfold isg at h; simp at h; exact h
/-- A text of 1 to 40 digits. -/
def isWk (s : ByteArray) : Bool := decide (1 ≤ s.size) && (decide (s.size ≤ 40) && s.data.toList.all fun c => isg c.toNat)
theorem isWk_take (s : ByteArray) (k : Nat) (h : k < s.size) : (s.data.toList.take (k + 1)).all (fun c => isg c.toNat) = ((s.data.toList.take k).all (fun c => isg c.toNat) && isg s[k].toNat) := by
  have h2 : s.data.toList.take (k + 1) = s.data.toList.take k ++ [s[k]] := by
    rw [List.take_succ_eq_append_getElem (by simpa using h)]; rfl
  rw [h2, List.all_append]; simp
theorem isWk_no {s : ByteArray} (k : Nat) (h : k < s.size) (hL : isg s[k].toNat = false) : isWk s = false := by
  have hm : s[k] ∈ s.data.toList := by
    have h2 : k < s.data.toList.length := by simpa using h
    have : s.data.toList[k] = s[k] := rfl
    rw [← this]; exact List.getElem_mem h2
  have : (s.data.toList.all fun c => isg c.toNat) = false := by
    rw [List.all_eq_false]; exact ⟨_, hm, by simp [hL]⟩
  unfold isWk
  rw [this, Bool.and_false, Bool.and_false]
theorem isWk_yes {s : ByteArray} (h1 : 1 ≤ s.size) (h2 : s.size ≤ 40) (h : (s.data.toList.all fun c => isg c.toNat) = true) : isWk s = true := by
  unfold isWk
  rw [h, decide_eq_true h1, decide_eq_true h2]; rfl
theorem isWk_short {s : ByteArray} (h : s.size < 1) : isWk s = false := by unfold isWk; rw [decide_eq_false (by omega)]; rfl
theorem isWk_long {s : ByteArray} (h : 40 < s.size) : isWk s = false := by unfold isWk; rw [decide_eq_false (show ¬ s.size ≤ 40 by omega)]; simp
theorem isWk_size {s : ByteArray} (h : isWk s = true) : 1 ≤ s.size ∧ s.size ≤ 40 := by unfold isWk at h; simp at h; exact ⟨h.1, h.2.1⟩
theorem isWk_get {s : ByteArray} (h : isWk s = true) (i : Nat) (hi : i < s.size) : isg s[i].toNat = true := by
  unfold isWk at h
  rw [Bool.and_eq_true, Bool.and_eq_true, List.all_eq_true] at h
  refine h.2.2 _ ?_
  have h2 : i < s.data.toList.length := by simpa using hi
  have : s.data.toList[i] = s[i] := rfl
  rw [← this]; exact List.getElem_mem h2
theorem isWk_bd {s : ByteArray} (h : isWk s = true) (i : Nat) (hi : i < s.size) : 48 ≤ s[i].toNat ∧ s[i].toNat ≤ 57 := by
  have := isg_bd (isWk_get h i hi)
  omega
def digL : List UInt8 := [48, 49, 50, 51, 52, 53, 54, 55, 56, 57]
def dgx (c : Int) : Int := Lib.indexByte digL c.toNat.toUInt8
theorem dgx_all : ∀ n : Nat, n < 256 → decide (dgx n < 0) = !isg n := of_decide_eq_true (by kernel_rfl)
theorem dgx_no (b : UInt8) (h : isg b.toNat = false) : dgx b.toNat < 0 := by
  have := dgx_all b.toNat b.toNat_lt
  rw [h] at this
  exact of_decide_eq_true this
theorem dgx_yes (b : UInt8) (h : isg b.toNat = true) : ¬ dgx b.toNat < 0 := by
  have := dgx_all b.toNat b.toNat_lt
  rw [h] at this
  exact of_decide_eq_false this

theorem didx_any (c : Int) (w : World) : Calls Tryz.prog 95 #[.string ⟨#[48, 49, 50, 51, 52, 53, 54, 55, 56, 57]⟩, .int .u8 c] w fun e w' => e = .returned (.int .i64 (dgx c)) ∧ w = w' := idx_any _ _ _

/-! ### A text of so many digits -/
def isDg (lo hi : Int) (s : ByteArray) : Bool := decide (lo ≤ (s.size : Int)) && (decide ((s.size : Int) ≤ hi) && s.data.toList.all fun c => isg c.toNat)
theorem isWk_dg (s : ByteArray) : isWk s = isDg 1 40 s := by
  unfold isWk isDg
  rw [show decide ((1 : Int) ≤ (s.size : Int)) = decide (1 ≤ s.size) from decide_eq_decide.2 (by omega), show decide ((s.size : Int) ≤ 40) = decide (s.size ≤ 40) from decide_eq_decide.2 (by omega)]
theorem isDg_short {lo hi : Int} {s : ByteArray} (h : (s.size : Int) < lo) : isDg lo hi s = false := by unfold isDg; rw [decide_eq_false (by omega)]; rfl
theorem isDg_long {lo hi : Int} {s : ByteArray} (h : hi < (s.size : Int)) : isDg lo hi s = false := by unfold isDg; rw [decide_eq_false (show ¬ (s.size : Int) ≤ hi by omega)]; simp
theorem isDg_yes {lo hi : Int} {s : ByteArray} (h1 : lo ≤ (s.size : Int)) (h2 : (s.size : Int) ≤ hi) (h : (s.data.toList.all fun c => isg c.toNat) = true) : isDg lo hi s = true := by
  unfold isDg
  rw [h, decide_eq_true h1, decide_eq_true h2]; rfl
theorem isDg_no {lo hi : Int} {s : ByteArray} (k : Nat) (h : k < s.size) (hL : isg s[k].toNat = false) : isDg lo hi s = false := by
  have hm : s[k] ∈ s.data.toList := by
    have h2 : k < s.data.toList.length := by simpa using h
    have : s.data.toList[k] = s[k] := rfl
    rw [← this]; exact List.getElem_mem h2
  have : (s.data.toList.all fun c => isg c.toNat) = false := by
    rw [List.all_eq_false]; exact ⟨_, hm, by simp [hL]⟩
  unfold isDg
  rw [this, Bool.and_false, Bool.and_false]
theorem isDg_size {lo hi : Int} {s : ByteArray} (h : isDg lo hi s = true) : lo ≤ (s.size : Int) ∧ (s.size : Int) ≤ hi := by unfold isDg at h; simp only [Bool.and_eq_true, decide_eq_true_eq] at h; exact ⟨h.1, h.2.1⟩
theorem isDg_get {lo hi : Int} {s : ByteArray} (h : isDg lo hi s = true) (i : Nat) (hi : i < s.size) : isg s[i].toNat = true := by
  unfold isDg at h
  rw [Bool.and_eq_true, Bool.and_eq_true, List.all_eq_true] at h
  refine h.2.2 _ ?_
  have h2 : i < s.data.toList.length := by simpa using hi
  have : s.data.toList[i] = s[i] := rfl
  rw [← this]; exact List.getElem_mem h2
theorem isDg_bd {lo hi : Int} {s : ByteArray} (h : isDg lo hi s = true) (i : Nat) (hi : i < s.size) : 48 ≤ s[i].toNat ∧ s[i].toNat ≤ 57 := by
  have := isg_bd (isDg_get h i hi)
  omega
/-- Fewer digits, and no more of them, are within the wider bounds too. -/
theorem isDg_wk {lo hi : Int} {s : ByteArray} (h : isDg lo hi s = true) (h1 : 1 ≤ lo) (h2 : hi ≤ 40) : isWk s = true := by
  have hs := isDg_size h
  refine isWk_yes (by omega) (by omega) ?_
  unfold isDg at h
  rw [Bool.and_eq_true, Bool.and_eq_true] at h
  exact h.2.2

set_option maxHeartbeats 400000 in
theorem areDig_any (s : ByteArray) (lo hi : Int) (w : World) (hs : s.size ≤ maxLen) : Calls Tryz.prog 80 #[.string s, .int .i64 lo, .int .i64 hi] w fun e w' => e = .returned (.bool (isDg lo hi s)) ∧ w = w' := by
  unfold maxLen at hs
  by_cases h1 : (s.size : Int) < lo
  · have H := Lib.hid (isDg_short (hi := hi) h1)
    go_enter Tryz.func80, Tryz.ntmps80
    go_wp2
    go_ret
    exact ⟨ret_bool H.out.symm, rfl⟩
  by_cases h2 : hi < (s.size : Int)
  · have H := Lib.hid (isDg_long (lo := lo) h2)
    go_enter Tryz.func80, Tryz.ntmps80
    go_wp2
    go_ret
    exact ⟨ret_bool H.out.symm, rfl⟩
  go_enter Tryz.func80, Tryz.ntmps80
  go_wp2
  go_loop [20] (fun i => ∃ k : Nat, k ≤ s.size ∧ i = .int .i64 k ∧ (s.data.toList.take k).all (fun c => isg c.toNat) = true) (fun i => s.size - (intOf i).toNat)
  case atStart => exact ⟨0, Nat.zero_le _, rfl, rfl⟩
  case round =>
    obtain ⟨k, hk, rfl, hall⟩ := hrel
    by_cases hlt : k < s.size
    · have ht := Lib.hid (isWk_take s k hlt)
      have hall' := Lib.hid hall
      clear hall
      cases hL : isg s[k].toNat
      · have H := Lib.hid (isDg_no (lo := lo) (hi := hi) k hlt hL)
        have h0 : dgx s[k].toNat < 0 := dgx_no _ hL
        clear hL
        go_wp2_with (go_at_call 95; refine (didx_any _ _).mono ?_; rintro e w' ⟨rfl, rfl⟩)
        go_ret
        exact ⟨ret_bool H.out.symm, rfl⟩
      · have h0 : ¬ dgx s[k].toNat < 0 := dgx_yes _ hL
        have HL := Lib.hid hL
        clear hL
        go_wp2_with (go_at_call 95; refine (didx_any _ _).mono ?_; rintro e w' ⟨rfl, rfl⟩)
        go_round
        case rel => exact ⟨k + 1, by omega, by go_num, by rw [ht.out, hall'.out, HL.out] <;> rfl⟩
        case measure => simp [intOf]; omega
    · have H := Lib.hid (isDg_yes (s := s) (lo := lo) (hi := hi) (by omega) (by omega) (by rw [List.take_of_length_le (by simp; omega)] at hall; exact hall))
      clear hall
      go_wp2
      go_ret
      exact ⟨ret_bool H.out.symm, rfl⟩

theorem areWk_any (s : ByteArray) (w : World) (hs : s.size ≤ maxLen) : Calls Tryz.prog 126 #[.string s] w fun e w' => e = .returned (.bool (isWk s)) ∧ w = w' := by
  rw [isWk_dg]
  go_enter Tryz.func126, Tryz.ntmps126
  go_wp2_with (go_at_call 80; refine (areDig_any _ _ _ _ hs).mono ?_; rintro e w' ⟨rfl, rfl⟩)
  go_ret
  exact ⟨rfl, rfl⟩

theorem wkIn_any (n lo hi : Int) (w : World) : Calls Tryz.prog 73 #[.int .i64 n, .int .i64 lo, .int .i64 hi] w fun e w' => e = .returned (.bool (decide (lo ≤ n) && decide (n ≤ hi))) ∧ w = w' := by
  by_cases h1 : lo ≤ n
  · by_cases h2 : n ≤ hi
    · go_enter Tryz.func73, Tryz.ntmps73
      go_wp2
      go_ret
      exact ⟨by simp [h1, h2], rfl⟩
    · go_enter Tryz.func73, Tryz.ntmps73
      go_wp2
      go_ret
      exact ⟨by simp; omega, rfl⟩
  · go_enter Tryz.func73, Tryz.ntmps73
    go_wp2
    go_ret
    exact ⟨by simp; omega, rfl⟩
def inW (n lo hi : Int) : Bool := decide (lo ≤ n) && decide (n ≤ hi)
theorem inW_yes {n lo hi : Int} (h1 : lo ≤ n) (h2 : n ≤ hi) : inW n lo hi = true := by unfold inW; rw [decide_eq_true h1, decide_eq_true h2]; rfl
theorem inW_lo {n lo hi : Int} (h1 : n < lo) : inW n lo hi = false := by unfold inW; rw [decide_eq_false (by omega)]; rfl
theorem inW_hi {n lo hi : Int} (h1 : hi < n) : inW n lo hi = false := by unfold inW; rw [decide_eq_false (show ¬ n ≤ hi by omega), Bool.and_false]
theorem inW_any (n lo hi : Int) (w : World) : Calls Tryz.prog 73 #[.int .i64 n, .int .i64 lo, .int .i64 hi] w fun e w' => e = .returned (.bool (inW n lo hi)) ∧ w = w' := wkIn_any n lo hi w

set_option maxHeartbeats 400000 in
theorem wkDig_any (s : ByteArray) (w : World) (hs : s.size ≤ maxLen) : Calls Tryz.prog 135 #[.string s] w fun e w' => e = .returned (.bool (isWk s)) ∧ w = w' := by
  unfold maxLen at hs
  by_cases h1 : s.size < 1
  · have H := Lib.hid (isWk_short h1)
    have hi := inW_lo (n := s.size) (lo := 1) (hi := 40) (by omega)
    go_enter Tryz.func135, Tryz.ntmps135
    go_wp2_with (go_at_call 73; refine (inW_any _ _ _ _).mono ?_; rintro e w' ⟨rfl, rfl⟩; rw [hi])
    go_ret
    exact ⟨ret_bool H.out.symm, rfl⟩
  by_cases h2 : 40 < s.size
  · have H := Lib.hid (isWk_long h2)
    have hi := inW_hi (n := s.size) (lo := 1) (hi := 40) (by omega)
    go_enter Tryz.func135, Tryz.ntmps135
    go_wp2_with (go_at_call 73; refine (inW_any _ _ _ _).mono ?_; rintro e w' ⟨rfl, rfl⟩; rw [hi])
    go_ret
    exact ⟨ret_bool H.out.symm, rfl⟩
  have hi := inW_yes (n := s.size) (lo := 1) (hi := 40) (by omega) (by omega)
  go_enter Tryz.func135, Tryz.ntmps135
  go_wp2_with (go_at_call 73; refine (inW_any _ _ _ _).mono ?_; rintro e w' ⟨rfl, rfl⟩; rw [hi])
  clear hi
  go_loop [3] (fun i => ∃ k : Nat, k ≤ s.size ∧ i = .int .i64 k ∧ (s.data.toList.take k).all (fun c => isg c.toNat) = true) (fun i => s.size - (intOf i).toNat)
  case atStart => exact ⟨0, Nat.zero_le _, rfl, rfl⟩
  case round =>
    obtain ⟨k, hk, rfl, hall⟩ := hrel
    have HA := Lib.hid hall
    clear hall
    by_cases hlt : k < s.size
    · by_cases hA : s[k].toNat < 48
      · have HV := Lib.hid (isWk_no k hlt (isg_lo (by omega)))
        go_wp2
        go_ret
        exact ⟨ret_bool HV.out.symm, rfl⟩
      by_cases hB : 57 < s[k].toNat
      · have HV := Lib.hid (isWk_no k hlt (isg_hi (by omega)))
        go_wp2
        go_ret
        exact ⟨ret_bool HV.out.symm, rfl⟩
      have HN := Lib.hid (show (s.data.toList.take (k + 1)).all (fun c => isg c.toNat) = true by
        rw [isWk_take s k hlt, HA.out, isg_of (by omega) (by omega)]; rfl)
      go_wp2
      go_round
      case rel => exact ⟨k + 1, by omega, by go_num, HN.out⟩
      case measure => simp [intOf]; omega
    · have HV := Lib.hid (isWk_yes (s := s) (by omega) (by omega) (by have := HA.out; rw [List.take_of_length_le (by simp; omega)] at this; exact this))
      go_wp2
      go_ret
      exact ⟨ret_bool HV.out.symm, rfl⟩

/-! ### Pieces -/
def pcT (p : Nat) : ByteArray := if p = 0 then ⟨#[110]⟩ else if p = 1 then ⟨#[107]⟩ else if p = 2 then ⟨#[114]⟩ else ⟨#[98]⟩
def isP (s : ByteArray) : Bool := decide (s = ⟨#[110]⟩) || (decide (s = ⟨#[107]⟩) || (decide (s = ⟨#[114]⟩) || decide (s = ⟨#[98]⟩)))
theorem isP_yes {s : ByteArray} (h : isP s = true) : ∃ p, p < 4 ∧ s = pcT p := by
  unfold isP at h
  simp at h
  rcases h with rfl | rfl | rfl | rfl
  · exact ⟨0, by omega, rfl⟩
  · exact ⟨1, by omega, rfl⟩
  · exact ⟨2, by omega, rfl⟩
  · exact ⟨3, by omega, rfl⟩
theorem isP_no {s : ByteArray} (h : isP s = false) : s ≠ ⟨#[110]⟩ ∧ s ≠ ⟨#[107]⟩ ∧ s ≠ ⟨#[114]⟩ ∧ s ≠ ⟨#[98]⟩ := by
  unfold isP at h
  simpa using h
theorem isP_pc : ∀ p : Nat, p < 4 → isP (pcT p) = true := by
  intro p h
  rcases (by omega : p = 0 ∨ p = 1 ∨ p = 2 ∨ p = 3) with rfl | rfl | rfl | rfl <;> rfl
theorem pcT_cases {p : Nat} (h : p < 4) : pcT p = ⟨#[110]⟩ ∨ pcT p = ⟨#[107]⟩ ∨ pcT p = ⟨#[114]⟩ ∨ pcT p = ⟨#[98]⟩ := by
  rcases (by omega : p = 0 ∨ p = 1 ∨ p = 2 ∨ p = 3) with rfl | rfl | rfl | rfl
  · exact .inl rfl
  · exact .inr (.inl rfl)
  · exact .inr (.inr (.inl rfl))
  · exact .inr (.inr (.inr rfl))
theorem isP_size {s : ByteArray} (h : isP s = true) : s.size = 1 := by
  obtain ⟨p, hp, rfl⟩ := isP_yes h
  rcases pcT_cases hp with e | e | e | e <;> rw [e] <;> rfl

set_option maxHeartbeats 400000 in
theorem wkPiece_any (s : ByteArray) (w : World) : Calls Tryz.prog 117 #[.string s] w fun e w' => e = .returned (.bool (isP s)) ∧ w = w' := by
  cases h : isP s
  · obtain ⟨n1, n2, n3, n4⟩ := isP_no h
    have u1 := pne n1
    have u2 := pne n2
    have u3 := pne n3
    have u4 := pne n4
    have t1 := pnb n1
    have t2 := pnb n2
    have t3 := pnb n3
    have t4 := pnb n4
    clear n1 n2 n3 n4 h
    go_enter Tryz.func117, Tryz.ntmps117
    go_wp2
    go_ret
    exact ⟨rfl, rfl⟩
  · obtain ⟨p, hp, rfl⟩ := isP_yes h
    clear h
    rcases pcT_cases hp with e | e | e | e <;> rw [e]
    · go_enter Tryz.func117, Tryz.ntmps117
      go_wp2
      go_ret
      exact ⟨rfl, rfl⟩
    · go_enter Tryz.func117, Tryz.ntmps117
      go_wp2
      go_ret
      exact ⟨rfl, rfl⟩
    · go_enter Tryz.func117, Tryz.ntmps117
      go_wp2
      go_ret
      exact ⟨rfl, rfl⟩
    · go_enter Tryz.func117, Tryz.ntmps117
      go_wp2
      go_ret
      exact ⟨rfl, rfl⟩

/-! The program's test of a piece -/
def pcx (c : Int) : Int := Lib.indexByte [110, 107, 114, 98] c.toNat.toUInt8
theorem pcx_all : ∀ n : Nat, n < 256 → decide (0 ≤ pcx n) = (decide (n = 110) || (decide (n = 107) || (decide (n = 114) || decide (n = 98)))) := of_decide_eq_true (by kernel_rfl)
theorem oneP (b : UInt8) (c : UInt8) : ((⟨#[b]⟩ : ByteArray) = ⟨#[c]⟩) ↔ b.toNat = c.toNat := by
  constructor
  · intro h
    have : b = c := by
      have := congrArg ByteArray.data h
      simpa using this
    rw [this]
  · intro h
    rw [UInt8.toNat_inj.1 h]
theorem pcx_isP (b : UInt8) : decide (0 ≤ pcx b.toNat) = isP ⟨#[b]⟩ := by
  rw [pcx_all _ b.toNat_lt]
  unfold isP
  congr 1
  · exact decide_eq_decide.2 (oneP b 110).symm
  congr 1
  · exact decide_eq_decide.2 (oneP b 107).symm
  congr 1
  · exact decide_eq_decide.2 (oneP b 114).symm
  · exact decide_eq_decide.2 (oneP b 98).symm