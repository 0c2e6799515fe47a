/- Keys of the pad and their places: the program's tests and the model's alike. No conditions. -/
import Derived.Test.YtpdnpphjlnlneaaGreatDoorWord
import Derived.Test.YtpdnpphjlnlneaaGreatDoorPad
import Derived.WalkKit
import Derived.WalkSpells
import Derived.WalkLawsBesides
import Derived.Lib.Hide
import Derived.Lib.Bytealg
import Derived.Lib.IndexLaws
namespace Go.Proofs.YtpdnpphjlnlneaaGreatDoor
open Go.RowKit

theorem ret_iD {a a' : Int} {k : IntKind} (h : a = a') : Ending.returned (.int k a) = .returned (.int k a') := by rw [h]
/-- The keys of the pad in their order. -/
def padL : List UInt8 := [49, 50, 51, 52, 53, 54, 55, 56, 57, 42, 48, 35]
/-- The place of a sign among them, or -1. -/
def plc (c : Int) : Int := Lib.indexByte padL c.toNat.toUInt8
def isK (c : Int) : Bool := decide (0 ≤ plc c)
def isD (s : ByteArray) : Bool := decide (s.size ≤ 30) && s.data.toList.all fun c => isK c.toNat
def oneD (s : ByteArray) : Bool := decide (s.size = 1) && isD s
def pn (b : UInt8) : Nat := (plc b.toNat).toNat
theorem plc_ge (c : Int) : -1 ≤ plc c := Lib.indexByte_ge _ _
theorem plc_lt (c : Int) : plc c < 12 := by
  have h1 := plc_ge c
  by_cases h : plc c < 0
  · omega
  · obtain ⟨o, ho⟩ := Int.eq_ofNat_of_zero_le (show 0 ≤ plc c by omega)
    have := (Lib.indexByte_some (l := padL) ho).1
    have h2 : o < padL.length := by
      rcases Nat.lt_or_ge o padL.length with h3 | h3
      · exact h3
      · rw [List.getElem?_eq_none h3] at this; cases this
    have h3 : padL.length = 12 := rfl
    omega
theorem pn_lt (b : UInt8) : pn b < 12 := by have := plc_lt b.toNat; unfold pn; omega
theorem plc_pn {b : UInt8} (h : isK b.toNat = true) : plc b.toNat = (pn b : Int) := by
  have h1 : 0 ≤ plc b.toNat := of_decide_eq_true h
  unfold pn; omega
theorem byteBack (b : UInt8) : ((b.toNat : Int)).toNat.toUInt8 = b := by
  show (b.toNat).toUInt8 = b
  simp

theorem isD_take (s : ByteArray) (k : Nat) (h : k < s.size) : (s.data.toList.take (k + 1)).all (fun c => isK c.toNat) = ((s.data.toList.take k).all (fun c => isK c.toNat) && isK s[k].toNat) := by
  have h2 : s.data.toList.take (k + 1) = s.data.toList.take k ++ [s[k]] := by
    rw [List.take_succ_eq_append_getElem (by simpa using h)]; rfl
  rw [h2, List.all_append]; simp
theorem isD_no (s : ByteArray) (k : Nat) (h : k < s.size) (hL : isK s[k].toNat = false) : isD s = false := by
  have hm : s[k] ∈ s.data.toList := by
    have h2 : k < s.data.toList.length := by simpa using h
    have : s.data.toList[k] = s[k] := rfl
    rw [← this]; exact List.getElem_mem h2
  have : (s.data.toList.all fun c => isK c.toNat) = false := by
    rw [List.all_eq_false]; exact ⟨_, hm, by simp [hL]⟩
  simp only [isD, this, Bool.and_false]
theorem isD_long (s : ByteArray) (h : 30 < s.size) : isD s = false := by
  unfold isD; rw [decide_eq_false (by omega)]; rfl
theorem isD_yes (s : ByteArray) (h2 : s.size ≤ 30) (h : (s.data.toList.all fun c => isK c.toNat) = true) : isD s = true := by
  simp only [isD, h, h2, decide_true, Bool.and_self]
theorem isD_size {s : ByteArray} (h : isD s = true) : s.size ≤ 30 := by unfold isD at h; simp at h; exact h.1
theorem isD_get {s : ByteArray} (h : isD s = true) (i : Nat) (hi : i < s.size) : isK s[i].toNat = true := by
  unfold isD at h
  simp only [Bool.and_eq_true, List.all_eq_true] at h
  have h2 : i < s.data.toList.length := by simpa using hi
  exact h.2 s[i] (by have : s.data.toList[i] = s[i] := rfl; rw [← this]; exact List.getElem_mem h2)
theorem oneD_size {s : ByteArray} (h : oneD s = true) : s.size = 1 := by unfold oneD at h; simp at h; exact h.1
theorem oneD_isD {s : ByteArray} (h : oneD s = true) : isD s = true := by unfold oneD at h; simp at h; exact h.2
/-- The place of a single key. -/
def p1 (s : ByteArray) : Nat := pn (s.data.toList.getD 0 0)
theorem p1_lt (s : ByteArray) : p1 s < 12 := pn_lt _
theorem p1_at {s : ByteArray} (h : 0 < s.size) : p1 s = pn s[0] := by
  unfold p1
  rw [List.getD_eq_getElem?_getD, List.getElem?_eq_getElem (by simpa using h)]
  rfl
theorem oneD_get {s : ByteArray} (h : oneD s = true) : isK (s[0]'(by have := oneD_size h; omega)).toNat = true := isD_get (oneD_isD h) 0 _
/-- The places of keys. -/
def plcs (s : ByteArray) : List Nat := s.data.toList.map pn
theorem plcs_len (s : ByteArray) : (plcs s).length = s.size := by unfold plcs; rw [List.length_map]; simp
theorem plcs_at (s : ByteArray) (k : Nat) (h : k < (plcs s).length) : (plcs s)[k] = pn (s[k]'(by rw [plcs_len] at h; exact h)) := by
  have h2 : k < (s.data.toList.map pn).length := h
  show (s.data.toList.map pn)[k]'h2 = _
  rw [List.getElem_map]
  rfl
theorem plcs_lt (s : ByteArray) : ∀ p ∈ plcs s, p < 12 := by
  intro p hp
  obtain ⟨b, _, rfl⟩ := List.mem_map.1 hp
  exact pn_lt b

/-! ### Distances -/
def absd (a b : Nat) : Nat := (a - b) + (b - a)
/-- The distance of two places, with corners or without. -/
def far (c : Bool) (p q : Nat) : Nat := if c then max (absd (p % 3) (q % 3)) (absd (p / 3) (q / 3)) else absd (p % 3) (q % 3) + absd (p / 3) (q / 3)
theorem far_yes (p q : Nat) : far true p q = max (absd (p % 3) (q % 3)) (absd (p / 3) (q / 3)) := rfl
theorem far_no (p q : Nat) : far false p q = absd (p % 3) (q % 3) + absd (p / 3) (q / 3) := rfl
theorem far_le (c : Bool) (p q : Nat) (hp : p < 12) (hq : q < 12) : far c p q ≤ 5 := by
  cases c
  · rw [far_no]; unfold absd; omega
  · rw [far_yes]; unfold absd; omega

theorem pidx_any (c : Int) (w : World) : Calls Tryz.prog 95 #[.string ⟨#[49, 50, 51, 52, 53, 54, 55, 56, 57, 42, 48, 35]⟩, .int .u8 c] w fun e w' => e = .returned (.int .i64 (plc c)) ∧ w = w' := idx_any _ _ _

/-! ### The model's -/
theorem padAt : ∀ k : Nat, k < 12 → ∃ b : UInt8, padL[k]? = some b := fun k h => ⟨_, List.getElem?_eq_getElem (show k < padL.length from h)⟩
theorem plc_hit {c : Int} {k : Nat} {b : UInt8} (hb : padL[k]? = some b) (h : b = c.toNat.toUInt8) (hn : ∀ j, j < k → padL[j]? ≠ some c.toNat.toUInt8) : plc c = k := by
  have h1 := plc_ge c
  have h2 : plc c ≠ -1 := fun e => Lib.indexByte_none e k (by rw [hb, h])
  obtain ⟨o, ho⟩ := Int.eq_ofNat_of_zero_le (show 0 ≤ plc c by omega)
  obtain ⟨h3, h4⟩ := Lib.indexByte_some (l := padL) ho
  rcases Nat.lt_trichotomy o k with h5 | h5 | h5
  · exact absurd h3 (hn o h5)
  · rw [ho, h5]
  · exact absurd (by rw [hb, h]) (h4 k h5)
theorem plc_miss {c : Int} (hn : ∀ j, j < 12 → padL[j]? ≠ some c.toNat.toUInt8) : plc c = -1 := by
  have h1 := plc_ge c
  by_cases h : plc c = -1
  · exact h
  · obtain ⟨o, ho⟩ := Int.eq_ofNat_of_zero_le (show 0 ≤ plc c by omega)
    have h3 := (Lib.indexByte_some (l := padL) ho).1
    have h4 := plc_lt c
    exact absurd h3 (hn o (by omega))

set_option maxHeartbeats 1000000 in
theorem thPlace_any (b : UInt8) (w : World) : Calls Tryz.prog 133 #[.int .u8 b.toNat] w fun e w' => e = .returned (.int .i64 (plc b.toNat)) ∧ w = w' := by
  go_enter Tryz.func133, Tryz.ntmps133
  go_wp2
  go_loop [3] (fun i => ∃ k : Nat, k ≤ 12 ∧ i = .int .i64 k ∧ ∀ j, j < k → padL[j]? ≠ some b) (fun i => 12 - (intOf i).toNat)
  case atStart => exact ⟨0, Nat.zero_le _, rfl, fun j h => absurd h (Nat.not_lt_zero _)⟩
  case round =>
    obtain ⟨k, hk, rfl, hno⟩ := hrel
    have HNO := Lib.hid hno
    clear hno
    by_cases hlt : k < 12
    · have hlt2 : k < (⟨#[49, 50, 51, 52, 53, 54, 55, 56, 57, 42, 48, 35]⟩ : ByteArray).size := hlt
      have HE := Lib.hid (show padL[k]? = some ((⟨#[49, 50, 51, 52, 53, 54, 55, 56, 57, 42, 48, 35]⟩ : ByteArray)[k]'hlt2) from List.getElem?_eq_getElem (show k < padL.length from hlt))
      by_cases hE : (⟨#[49, 50, 51, 52, 53, 54, 55, 56, 57, 42, 48, 35]⟩ : ByteArray)[k]'hlt2 = b
      · have HV := Lib.hid (plc_hit (c := b.toNat) HE.out (by rw [byteBack]; exact hE) (by rw [byteBack]; exact HNO.out))
        have t1 : ((((⟨#[49, 50, 51, 52, 53, 54, 55, 56, 57, 42, 48, 35]⟩ : ByteArray)[k]'hlt2).toNat : Int) == (b.toNat : Int)) = true := by rw [hE]; exact beq_self_eq_true _
        clear hE
        go_wp2
        go_ret
        exact ⟨ret_iD HV.out.symm, rfl⟩
      · have HH := Lib.hid hE
        have t1 : ((((⟨#[49, 50, 51, 52, 53, 54, 55, 56, 57, 42, 48, 35]⟩ : ByteArray)[k]'hlt2).toNat : Int) == (b.toNat : Int)) = false := by
          rw [beq_eq_false_iff_ne]
          intro h
          exact hE (UInt8.toNat_inj.1 (by omega))
        clear hE
        go_wp2
        go_round
        case rel =>
          refine ⟨k + 1, by omega, by go_num, fun j hj => ?_⟩
          by_cases e : j = k
          · subst e
            rw [HE.out]
            exact fun h => HH.out (Option.some.inj h)
          · exact HNO.out j (by omega)
        case measure => simp [intOf]; omega
    · have HV := Lib.hid (plc_miss (c := b.toNat) (by rw [byteBack]; exact fun j hj => HNO.out j (by omega)))
      go_wp2
      go_ret
      exact ⟨ret_iD HV.out.symm, rfl⟩

set_option maxHeartbeats 400000 in
theorem thGood_any (s : ByteArray) (w : World) (hs : s.size ≤ maxLen) : Calls Tryz.prog 114 #[.string s] w fun e w' => e = .returned (.bool (isD s)) ∧ w = w' := by
  unfold maxLen at hs
  by_cases h2 : 30 < s.size
  · have H := Lib.hid (isD_long s h2)
    go_enter Tryz.func114, Tryz.ntmps114
    go_wp2
    go_ret
    exact ⟨ret_bool H.out.symm, rfl⟩
  go_enter Tryz.func114, Tryz.ntmps114
  go_wp2
  go_loop [3] (fun i => ∃ k : Nat, k ≤ s.size ∧ i = .int .i64 k ∧ (s.data.toList.take k).all (fun c => isK c.toNat) = true) (fun i => s.size - (intOf i).toNat)
  case atStart => exact ⟨0, Nat.zero_le _, rfl, rfl⟩
  case round =>
    obtain ⟨k, hk, rfl, hall⟩ := hrel
    by_cases hlt : k < s.size
    · have ht := Lib.hid (isD_take s k hlt)
      have hall' := Lib.hid hall
      clear hall
      cases hL : isK s[k].toNat
      · have H := Lib.hid (isD_no s k hlt hL)
        have h0 : plc s[k].toNat < 0 := by have := of_decide_eq_false hL; omega
        clear hL
        go_wp2_with (go_at_call 133; refine (thPlace_any _ _).mono ?_; rintro e w' ⟨rfl, rfl⟩)
        go_ret
        exact ⟨ret_bool H.out.symm, rfl⟩
      · have h0 : ¬ plc s[k].toNat < 0 := by have := of_decide_eq_true hL; omega
        have HL := Lib.hid hL
        clear hL
        go_wp2_with (go_at_call 133; refine (thPlace_any _ _).mono ?_; rintro e w' ⟨rfl, rfl⟩)
        go_round
        case rel => exact ⟨k + 1, by omega, by go_num, by rw [ht.out, hall'.out, HL.out] <;> rfl⟩
        case measure => simp [intOf]; omega
    · have H := Lib.hid (isD_yes s (by omega) (by rw [List.take_of_length_le (by simp; omega)] at hall; exact hall))
      clear hall
      go_wp2
      go_ret
      exact ⟨ret_bool H.out.symm, rfl⟩

theorem thOne_any (s : ByteArray) (w : World) (hs : s.size ≤ maxLen) : Calls Tryz.prog 115 #[.string s] w fun e w' => e = .returned (.bool (oneD s)) ∧ w = w' := by
  unfold maxLen at hs
  by_cases h1 : s.size = 1
  · have t : ((s.size : Int) == 1) = true := by simp [h1]
    have H := Lib.hid (show oneD s = isD s by unfold oneD; rw [decide_eq_true h1]; rfl)
    clear h1
    go_enter Tryz.func115, Tryz.ntmps115
    go_wp2_with (go_at_call 114; refine (thGood_any _ _ hs).mono ?_; rintro e w' ⟨rfl, rfl⟩)
    go_ret
    exact ⟨ret_bool H.out.symm, rfl⟩
  · have t : ((s.size : Int) == 1) = false := by simp; omega
    have H := Lib.hid (show oneD s = false by unfold oneD; rw [decide_eq_false h1]; rfl)
    clear h1
    go_enter Tryz.func115, Tryz.ntmps115
    go_wp2
    go_ret
    exact ⟨ret_bool H.out.symm, rfl⟩

end Go.Proofs.YtpdnpphjlnlneaaGreatDoor
