/- For every text and number the program's WordOfRank answers as its model does, the pad's table being as the program lays it. -/
import Derived.Test.YtfekamknnmhgpabDoorCards
import Derived.Test.YtfekamknnmhgpabDoorTie
import Derived.Test.YtfekamknnmhgpabDoorTab
import Derived.Test.YtfekamknnmhgpabDoorCounts
import Derived.Deep.RegionWith
import Derived.Deep.RegionHeld3
import Derived.IntWalk
namespace Go.Proofs.YtfekamknnmhgpabDoor.wordOfRank
open Go.ChangeShapes Go.WideShapes Go.ChangeAt Go.RowKit
open Go.ChangeMaps (open_string shut_string)

theorem ret_sb {a a' : ByteArray} {b b' : Bool} (h : a = a') (h2 : b = b') : Ending.returned (.tuple #[.string a, .bool b]) = .returned (.tuple #[.string a', .bool b']) := by rw [h, h2]

/-! ### Plain facts: digits of a rank in the keys' own numbers of letters -/
def kN (c : UInt8) : Nat := (lt (dk c.toNat)).size
def prod : List UInt8 → Nat
  | [] => 1
  | c :: l => kN c * prod l
def AllL (l : List UInt8) : Prop := ∀ c ∈ l, isD c.toNat = true
theorem kN_bd {c : UInt8} (h : isD c.toNat = true) : 3 ≤ kN c ∧ kN c ≤ 4 := by have := lt_size (dk c.toNat) (dk_bd h).1; unfold kN; omega
theorem kz_kN (c : UInt8) : kz c.toNat = (kN c : Int) := rfl
theorem prod_pos : ∀ l : List UInt8, AllL l → 1 ≤ prod l
  | [], _ => Nat.le_refl _
  | c :: l, h => by
    have h1 := kN_bd (h c (by simp))
    have h2 := prod_pos l (fun d hd => h d (by simp [hd]))
    simp only [prod]
    exact Nat.le_trans (by omega) (Nat.mul_le_mul h1.1 h2)
/-- The model's product, cut at one more than the most. -/
theorem csL_prod : ∀ (l : List UInt8) (r : Nat), AllL l → 1 ≤ r → r ≤ 1000000000000001 → csL l r = ((min (r * prod l) 1000000000000001 : Nat) : Int)
  | [], r, _, _, h2 => by simp only [csL, prod, Nat.mul_one]; rw [Nat.min_eq_left h2]
  | c :: l, r, h, h1, h2 => by
    have hk := kN_bd (h c (by simp))
    have hl : AllL l := fun d hd => h d (by simp [hd])
    have hp := prod_pos l hl
    have e1 : mn ((r : Int) * kz c.toNat) 1000000000000001 = ((min (r * kN c) 1000000000000001 : Nat) : Int) := by
      rw [kz_kN, ← Int.natCast_mul]
      unfold mn
      split <;> omega
    have hb : 1 ≤ r * kN c := Nat.le_trans (by omega) (Nat.mul_le_mul h1 hk.1)
    rw [csL, e1, csL_prod l _ hl (by omega) (by omega)]
    refine congrArg Nat.cast ?_
    rw [prod]
    rcases Nat.le_total (r * kN c) 1000000000000001 with h3 | h3
    · rw [Nat.min_eq_left h3, Nat.mul_assoc]
    · rw [Nat.min_eq_right h3]
      have a1 : 1000000000000001 ≤ 1000000000000001 * prod l := Nat.le_mul_of_pos_right _ hp
      have a2 : 1000000000000001 ≤ r * (kN c * prod l) := by
        rw [← Nat.mul_assoc]; exact Nat.le_trans h3 (Nat.le_mul_of_pos_right _ hp)
      omega
/-- The product of the numbers from place i on. -/
def sp (s : ByteArray) (i : Nat) : Nat := prod (s.data.toList.drop i)
theorem sp_end (s : ByteArray) (i : Nat) (h : s.size ≤ i) : sp s i = 1 := by
  unfold sp; rw [List.drop_of_length_le (by simpa using h)]; rfl
theorem drop_at (s : ByteArray) (i : Nat) (h : i < s.size) : s.data.toList.drop i = s[i] :: s.data.toList.drop (i + 1) := by
  rw [List.drop_eq_getElem_cons (by simpa using h)]; rfl
theorem sp_at (s : ByteArray) (i : Nat) (h : i < s.size) : sp s i = kN s[i] * sp s (i + 1) := by
  unfold sp; rw [drop_at s i h]; rfl
theorem allL_of {s : ByteArray} (h : AllD s) (i : Nat) : AllL (s.data.toList.drop i) := by
  intro c hc
  obtain ⟨j, hj, rfl⟩ := List.getElem_of_mem (List.mem_of_mem_drop hc)
  exact h j (by simpa using hj)
theorem sp_pos {s : ByteArray} (h : AllD s) (i : Nat) : 1 ≤ sp s i := prod_pos _ (allL_of h i)
def cap (n : Nat) : Nat := min n 1000000000000001
/-- The digit of place i. -/
def dig (s : ByteArray) (r : Nat) (i : Nat) : Nat := r / sp s (i + 1) % (if h : i < s.size then kN s[i] else 1)
theorem dig_at {s : ByteArray} {r i : Nat} (h : i < s.size) : dig s r i = r / sp s (i + 1) % kN s[i] := by unfold dig; rw [dif_pos h]
theorem dig_lt {s : ByteArray} (hd : AllD s) {r i : Nat} (h : i < s.size) : dig s r i < kN s[i] := by
  rw [dig_at h]; exact Nat.mod_lt _ (by have := kN_bd (hd i h); omega)
/-- From the front: the rest behind place i, by the capped product, and its digit. -/
theorem front {s : ByteArray} (hd : AllD s) {r i : Nat} (h : i < s.size) (hr : r ≤ 1000000000000000) :
    r % sp s i / cap (sp s (i + 1)) = dig s r i ∧ r % sp s i - dig s r i * cap (sp s (i + 1)) = r % sp s (i + 1) := by
  have hz := kN_bd (hd i h)
  have hp := sp_pos hd (i + 1)
  have e := sp_at s i h
  by_cases hc : sp s (i + 1) ≤ 1000000000000000
  · have ec : cap (sp s (i + 1)) = sp s (i + 1) := Nat.min_eq_left (by omega)
    rw [ec, dig_at h, e]
    have e1 : r % (kN s[i] * sp s (i + 1)) / sp s (i + 1) = r / sp s (i + 1) % kN s[i] := by
      rw [Nat.mul_comm, Nat.mod_mul_right_div_self]
    refine ⟨e1, ?_⟩
    rw [← e1]
    have e2 := Nat.div_add_mod (r % (kN s[i] * sp s (i + 1))) (sp s (i + 1))
    have e3 : r % (kN s[i] * sp s (i + 1)) % sp s (i + 1) = r % sp s (i + 1) := Nat.mod_mod_of_dvd _ (Nat.dvd_mul_left _ _)
    rw [e3, Nat.mul_comm] at e2
    omega
  · have ec : cap (sp s (i + 1)) = 1000000000000001 := Nat.min_eq_right (by omega)
    have hle : sp s (i + 1) ≤ sp s i := by rw [e]; exact Nat.le_mul_of_pos_left _ (by omega)
    have m1 : r % sp s i = r := Nat.mod_eq_of_lt (by omega)
    have m2 : r % sp s (i + 1) = r := Nat.mod_eq_of_lt (by omega)
    have m3 : r / sp s (i + 1) = 0 := Nat.div_eq_of_lt (by omega)
    rw [ec, m1, m2, dig_at h, m3, Nat.zero_mod]
    exact ⟨Nat.div_eq_of_lt (by omega), by omega⟩
/-- From the back: what is left behind place i, divided once more. -/
theorem back {s : ByteArray} {r i : Nat} (h : i < s.size) : r / sp s (i + 1) / kN s[i] = r / sp s i := by
  rw [Nat.div_div_eq_div_mul, sp_at s i h, Nat.mul_comm]

/-- The letter of place i. -/
def chW (s : ByteArray) (r : Nat) (i : Nat) : UInt8 := (lo (dk (if h : i < s.size then (s[i].toNat : Int) else 50)) + (dig s r i : Int)).toNat.toUInt8
theorem chW_at {s : ByteArray} {r i : Nat} (h : i < s.size) : chW s r i = (lo (dk s[i].toNat) + (dig s r i : Int)).toNat.toUInt8 := by unfold chW; rw [dif_pos h]
theorem lt_cut : ∀ k : Nat, k < 8 → ∀ j, j < (lt k).size → (lt k).extract j (j + 1) = ⟨#[(lo k + (j : Int)).toNat.toUInt8]⟩
  | 0, _, j, h => match j, h with | 0, _ => by decide | 1, _ => by decide | 2, _ => by decide
  | 1, _, j, h => match j, h with | 0, _ => by decide | 1, _ => by decide | 2, _ => by decide
  | 2, _, j, h => match j, h with | 0, _ => by decide | 1, _ => by decide | 2, _ => by decide
  | 3, _, j, h => match j, h with | 0, _ => by decide | 1, _ => by decide | 2, _ => by decide
  | 4, _, j, h => match j, h with | 0, _ => by decide | 1, _ => by decide | 2, _ => by decide
  | 5, _, j, h => match j, h with | 0, _ => by decide | 1, _ => by decide | 2, _ => by decide | 3, _ => by decide
  | 6, _, j, h => match j, h with | 0, _ => by decide | 1, _ => by decide | 2, _ => by decide
  | 7, _, j, h => match j, h with | 0, _ => by decide | 1, _ => by decide | 2, _ => by decide | 3, _ => by decide
  | k + 8, hk, _, _ => absurd hk (by omega)
theorem chW_byte {s : ByteArray} (hd : AllD s) {r i : Nat} (h : i < s.size) (h2 : dig s r i < (lt (dk s[i].toNat)).size) : ((lt (dk s[i].toNat))[dig s r i].toNat : Int) = (chW s r i).toNat := by
  have h3 := dk_bd (hd i h)
  rw [lt_get _ h3.1 _ h2, chW_at h]
  have hb := lo_bd (dk s[i].toNat) (by omega)
  have hs := lt_size (dk s[i].toNat) h3.1
  obtain ⟨n, hn⟩ := Int.eq_ofNat_of_zero_le (show 0 ≤ lo (dk s[i].toNat) + (dig s r i : Int) by omega)
  rw [hn]
  simp
  omega
def wL (s : ByteArray) (r : Nat) (k : Nat) : List UInt8 := (List.range k).map (chW s r)
theorem wL_succ (s : ByteArray) (r k : Nat) : wL s r (k + 1) = wL s r k ++ [chW s r k] := by simp [wL, List.range_succ]
theorem wL_len (s : ByteArray) (r k : Nat) : (wL s r k).length = k := by simp [wL]
theorem wL_get (s : ByteArray) (r k j : Nat) (h : j < (wL s r k).length) : (wL s r k)[j] = chW s r j := by simp [wL]
def wB (s : ByteArray) (r : Nat) (k : Nat) : ByteArray := ⟨(wL s r k).toArray⟩
theorem wB_size (s : ByteArray) (r k : Nat) : (wB s r k).size = k := by show (wL s r k).toArray.size = k; simp [wL_len]
theorem wB_succ (s : ByteArray) (r k : Nat) : wB s r k ++ ⟨#[chW s r k]⟩ = wB s r (k + 1) := by
  apply ByteArray.ext
  rw [ByteArray.data_append]
  simp [wB, wL_succ]

def okW (s : ByteArray) (r : Int) : Bool := isK s && (inB r 0 1000000000000000 && decide (r.toNat < sp s 0))
def woV (s : ByteArray) (r : Int) : ByteArray := if okW s r then wB s r.toNat s.size else ⟨#[]⟩
theorem okW_K {s : ByteArray} {r : Int} (h : isK s = false) : okW s r = false := by unfold okW; simp [h]
theorem okW_lo {s : ByteArray} {r : Int} (h : r < 0) : okW s r = false := by unfold okW inB; simp; intros; omega
theorem okW_hi {s : ByteArray} {r : Int} (h : 1000000000000000 < r) : okW s r = false := by unfold okW inB; simp; intros; omega
theorem okW_no {s : ByteArray} {r : Int} (h : sp s 0 ≤ r.toNat) : okW s r = false := by unfold okW; simp; intros; omega
theorem okW_yes {s : ByteArray} {r : Int} (h : isK s = true) (h1 : 0 ≤ r) (h2 : r ≤ 1000000000000000) (h3 : r.toNat < sp s 0) : okW s r = true := by unfold okW inB; simp [h, h1, h2, h3]
theorem woV_no {s : ByteArray} {r : Int} (h : okW s r = false) : woV s r = ⟨#[]⟩ := by unfold woV; simp [h]
theorem woV_yes {s : ByteArray} {r : Int} (h : okW s r = true) : woV s r = wB s r.toNat s.size := by unfold woV; simp [h]
/-- What the model's count of a rest of the keys is. -/
theorem csTo_rest {s : ByteArray} (hd : AllD s) (i : Nat) (_hi : i ≤ s.size) (t : ByteArray) (ht : t.data.toList = s.data.toList.drop i) : csTo t t.size = ((cap (sp s i) : Nat) : Int) := by
  unfold csTo
  rw [take_all t t.size (Nat.le_refl _), ht]
  have := csL_prod (s.data.toList.drop i) 1 (allL_of hd i) (by decide) (by decide)
  rw [Nat.one_mul] at this
  exact this
def rm (s : ByteArray) (r : Nat) (i : Nat) : Nat := r % sp s i
def bh (s : ByteArray) (i : Nat) : Nat := cap (sp s (i + 1))
theorem rm_le (s : ByteArray) (r i : Nat) (hr : r ≤ 1000000000000000) : rm s r i ≤ 1000000000000000 := Nat.le_trans (Nat.mod_le _ _) hr
theorem bh_bd {s : ByteArray} (hd : AllD s) (i : Nat) : 1 ≤ bh s i ∧ bh s i ≤ 1000000000000001 := by
  have := sp_pos hd (i + 1)
  unfold bh cap
  omega
theorem rm_div {s : ByteArray} (hd : AllD s) {r i : Nat} (h : i < s.size) (hr : r ≤ 1000000000000000) : (rm s r i : Int) / (bh s i : Int) = (dig s r i : Int) := by
  rw [← (front hd h hr).1]; rfl
theorem rm_sub {s : ByteArray} (hd : AllD s) {r i : Nat} (h : i < s.size) (hr : r ≤ 1000000000000000) : (rm s r i : Int) - (dig s r i : Int) * (bh s i : Int) = (rm s r (i + 1) : Int) ∧ 0 ≤ (dig s r i : Int) * (bh s i : Int) ∧ (dig s r i : Int) * (bh s i : Int) ≤ (rm s r i : Int) := by
  have f := front hd h hr
  have h1 : dig s r i * bh s i ≤ rm s r i := by
    have : dig s r i = rm s r i / bh s i := f.1.symm
    rw [this]; exact Nat.div_mul_le_self _ _
  have h2 : rm s r (i + 1) = rm s r i - dig s r i * bh s i := f.2.symm
  rw [← Int.natCast_mul, h2]
  omega
theorem rest_toList (s : ByteArray) (a : Nat) : (s.extract a s.size).data.toList = s.data.toList.drop a := by
  have : (s.extract a s.size).data = s.data.extract a s.size := by simp
  rw [this, Array.toList_extract]
  simp only [List.extract]
  exact List.take_of_length_le (by simp)
theorem rest_allD {s : ByteArray} (hd : AllD s) (a : Nat) : AllD (s.extract a s.size) := by
  intro i hi
  have h2 : i < (s.extract a s.size).data.toList.length := by simpa using hi
  have e : (s.extract a s.size).data.toList[i] = (s.extract a s.size)[i] := rfl
  have hm : (s.extract a s.size)[i] ∈ (s.extract a s.size).data.toList := e ▸ List.getElem_mem h2
  rw [rest_toList] at hm
  exact allL_of hd a _ hm

set_option maxRecDepth 100000 in
set_option maxHeartbeats 1000000 in
theorem spec_any (s : ByteArray) (r : Int) (w : World) (hs : s.size ≤ maxLen) : Calls Tryd.prog 6 #[.string s, .int .i64 r] w fun e w' => e = .returned (.tuple #[.string (woV s r), .bool (okW s r)]) ∧ w = w' := by
  cases h : isK s
  · have H := Lib.hid (okW_K (r := r) h)
    go_enter Tryd.func6, Tryd.ntmps6
    go_wp2_with (go_at_call 12; refine (prGood_any _ _ hs).mono ?_; rintro e w' ⟨rfl, rfl⟩)
    go_ret2
    exact ⟨ret_sb (woV_no H.out).symm H.out.symm, rfl⟩
  have hz := isK_size h
  have HD := Lib.hid (show AllD s from isK_get h)
  have HC := Lib.hid (show csTo s s.size = ((cap (sp s 0) : Nat) : Int) from csTo_rest HD.out 0 (by omega) s rfl)
  by_cases r0 : r < 0
  · have H := Lib.hid (okW_lo (s := s) r0)
    go_enter Tryd.func6, Tryd.ntmps6
    go_wp2_with (go_at_call 12; refine (prGood_any _ _ hs).mono ?_; rintro e w' ⟨rfl, rfl⟩)
    go_ret2
    exact ⟨ret_sb (woV_no H.out).symm H.out.symm, rfl⟩
  by_cases r2 : csTo s s.size ≤ r
  · have H := Lib.hid (show okW s r = false from by
      by_cases r1 : 1000000000000000 < r
      · exact okW_hi r1
      · refine okW_no ?_
        rw [HC.out] at r2
        unfold cap at r2
        omega)
    go_enter Tryd.func6, Tryd.ntmps6
    go_wp2_with (first | (go_at_call 12; refine (prGood_any _ _ hs).mono ?_; rintro e w' ⟨rfl, rfl⟩) | (go_at_call 13; refine (prSame_any _ _ hz.2 HD.out).mono ?_; rintro e w' ⟨rfl, rfl⟩))
    go_ret2
    exact ⟨ret_sb (woV_no H.out).symm H.out.symm, rfl⟩
  by_cases r1 : 1000000000000000 < r
  · have H := Lib.hid (okW_hi (s := s) r1)
    go_enter Tryd.func6, Tryd.ntmps6
    go_wp2_with (first | (go_at_call 12; refine (prGood_any _ _ hs).mono ?_; rintro e w' ⟨rfl, rfl⟩) | (go_at_call 13; refine (prSame_any _ _ hz.2 HD.out).mono ?_; rintro e w' ⟨rfl, rfl⟩))
    go_ret2
    exact ⟨ret_sb (woV_no H.out).symm H.out.symm, rfl⟩
  have hlt0 : r.toNat < sp s 0 := by
    rw [HC.out] at r2
    unfold cap at r2
    omega
  have H := Lib.hid (okW_yes h (by omega) (by omega) hlt0)
  obtain ⟨n, rfl⟩ := Int.eq_ofNat_of_zero_le (show 0 ≤ r by omega)
  have hn : n ≤ 1000000000000000 := by omega
  have HR0 := Lib.hid (show rm s n 0 = n from Nat.mod_eq_of_lt (by simpa using hlt0))
  clear hlt0
  obtain ⟨hz1, hz2⟩ := hz
  go_enter Tryd.func6, Tryd.ntmps6
  go_wp2_with (first | (go_at_call 12; refine (prGood_any _ _ hs).mono ?_; rintro e w' ⟨rfl, rfl⟩) | (go_at_call 13; refine (prSame_any _ _ hz2 HD.out).mono ?_; rintro e w' ⟨rfl, rfl⟩))
  clear h r2
  go_loop [1, 6, 7] (fun q o i => ∃ k : Nat, k ≤ s.size ∧ i = .int .i64 k ∧ q = .int .i64 (rm s n k) ∧ o = .string (wB s n k)) (fun _ _ i => s.size - (intOf i).toNat)
  case atStart => exact ⟨0, by omega, rfl, by rw [HR0.out], rfl⟩
  case round =>
    obtain ⟨k, hk, rfl, rfl, rfl⟩ := hrel
    have hwz := wB_size s n k
    have hB : (wB s n k).size ≤ 40 := by omega
    clear hwz
    by_cases hlt : k < s.size
    · have hrm := rm_le s n k hn
      obtain ⟨hb1, hb2⟩ := bh_bd HD.out k
      have hdv := rm_div HD.out hlt hn
      obtain ⟨hs1, hs2, hs3⟩ := rm_sub HD.out hlt hn
      have HS1 := Lib.hid hs1
      clear hs1
      have HL := Lib.hid (HD.out k hlt)
      have hdl : dig s n k < (lt (dk s[k].toNat)).size := dig_lt HD.out hlt
      have HCT := Lib.hid ((lt_cut (dk s[k].toNat) (dk_bd HL.out).1 (dig s n k) hdl).trans (by rw [← chW_at hlt]))
      have hls := (lt_size (dk s[k].toNat) (dk_bd HL.out).1).2.2
      have HWS := Lib.hid (wB_succ s n k)
      have HX := Lib.hid (show csTo (s.extract (k + 1) s.size) (s.extract (k + 1) s.size).size = ((bh s k : Nat) : Int) from csTo_rest HD.out (k + 1) (by omega) _ (rest_toList s (k + 1)))
      have HXS := Lib.hid (show (s.extract (k + 1) s.size).size ≤ 40 by simp; omega)
      go_wp2_with (first | (go_at_call 13; refine (prSame_any _ _ HXS.out (rest_allD HD.out _)).mono ?_; rintro e w' ⟨rfl, rfl⟩; rw [HX.out]) | (go_at_call 14; refine (prL_any _ _).mono ?_; rintro e w' ⟨rfl, rfl⟩; rw [lt8_dk HL.out]))
      go_round
      case rel => exact ⟨k + 1, by omega, by go_num, by rw [HS1.out], by rw [HCT.out, HWS.out]⟩
      case measure => simp [intOf]; omega
    · obtain rfl : k = s.size := by omega
      go_wp2
      go_ret2
      exact ⟨ret_sb (woV_yes H.out).symm H.out.symm, rfl⟩

def lf (s : ByteArray) (r : Nat) (i : Nat) : Nat := r / sp s i
theorem ix_str (s : ByteArray) (k : Nat) (hk : k < s.size) (w : World) : (Instr.index 9 (.string s) (.int .i64 (k : Int))).run Tryd.prog w = .ok (.int .u8 s[k].toNat) w := by
  have h1 : (k : Int) < (s.size : Int) := by omega
  simp [go_sem, hk]
theorem rem_any (a b : Int) (h0 : 0 ≤ a) (h1 : 3 ≤ b) (w : World) : (binOp .rem 3 (.int .i64 a) (.int .i64 b)).run Tryd.prog w = .ok (.int .i64 (a % b)) w := by
  have hb : ¬ b = 0 := by omega
  have e : Int.tmod a b = a % b := Int.tmod_eq_emod_of_nonneg h0
  simp [go_sem, hb, e]

def keyO (c : Int) : Obj := .cells #[.int .u8 c, .string (lt (dk c))] 33
theorem key_new (w1 : World) (c : Int) : (w1.alloc (keyO c)).cell? ⟨w1.heap.size, 0, none⟩ = some (.int .u8 c) ∧ (w1.alloc (keyO c)).cell? ⟨w1.heap.size, 1, none⟩ = some (.string (lt (dk c))) ∧ w1.heap.size < (w1.alloc (keyO c)).heap.size :=
  ⟨by simp [keyO, go_sem], by simp [keyO, go_sem], by simp [keyO, go_sem]⟩
theorem cells_ext {a b : World} {k : Nat} {x y : Value} (h : a.cell? ⟨k, 0, none⟩ = some x ∧ a.cell? ⟨k, 1, none⟩ = some y ∧ k < a.heap.size) (hx : Ext a b) :
    b.cell? ⟨k, 0, none⟩ = some x ∧ b.cell? ⟨k, 1, none⟩ = some y ∧ k < b.heap.size :=
  ⟨(hx.cell h.2.2).trans h.1, (hx.cell h.2.2).trans h.2.1, Nat.lt_of_lt_of_le h.2.2 hx.size⟩

set_option maxRecDepth 100000 in
set_option maxHeartbeats 2000000 in
theorem impl_loop (s : ByteArray) (n : Nat) (w : World) (hs : s.size ≤ maxLen) (hp : PadIs w) (h : isK s = true) (hn : n ≤ 1000000000000000) : Calls Tryd.prog 7 #[.string s, .int .i64 n] w fun e w' => e = .returned (.tuple #[.string (woV s n), .bool (okW s n)]) ∧ Ext w w' := by
  obtain ⟨hz1, hz2⟩ := isK_size h
  have HD := Lib.hid (show AllD s from isK_get h)
  have h' := Lib.hid h
  obtain ⟨i0, hi, hz0, hzs, hzb⟩ := info_parts info_u8
  have HI := Lib.hid (show Tryd.prog.info? 5 = some i0 ∧ i0.zero = some (.int .u8 0) ∧ i0.size = 1 ∧ i0.bytes = 1 from ⟨hi, hz0, hzs, hzb⟩)
  clear hi hz0 hzs hzb
  have HL0 := Lib.hid (show lf s n s.size = n by unfold lf; rw [sp_end s s.size (Nat.le_refl _), Nat.div_one])
  go_enter Tryd.func7, Tryd.ntmps7
  go_wp2_with (first | (go_at_call 15; refine (areKeys_any _ _ hs).mono ?_; rintro e w' ⟨rfl, rfl⟩) | (at_make; refine wpList_make_full _ rfl _ _ 31 rfl w.heap.size 5 i0 (.int .u8 0) 1 Tryd.underlying31 HI.out.1 HI.out.2.1 HI.out.2.2.1 .i64 .i64 _ _ s.size rfl rfl rfl rfl (by rw [HI.out.2.2.2]; omega) (by unfold maxLen; omega) (Nat.le_refl _) ?_; intro w1 hown hgr))
  clear h
  have X1 : Ext w w1 := (Ext.refl w).grown hgr (by intro k hk; cases hk)
  obtain ⟨xs1, hxs1⟩ : ∃ xs, xs = (madeCells (Value.int IntKind.u8 0).cells (s.size * 1)).toList := ⟨_, rfl⟩
  rw [← hxs1] at hown
  clear hxs1 hgr HI
  go_loopw [7, 8] (fun q i wr => ∃ k : Nat, k ≤ s.size ∧ i = .int .i64 ((k : Int) - 1) ∧ q = .int .i64 (lf s n k) ∧ ∃ xs : List Value, wr.ownsRow w.heap.size 5 1 (.slice (some ⟨w.heap.size, 0, none⟩) s.size s.size) s.size xs ∧ (∀ j, k ≤ j → j < s.size → xs[j]? = some (.int .u8 ((chW s n j).toNat : Int))) ∧ Ext w wr) (fun _ i _ => (intOf i + 1).toNat)
  case atStart => exact ⟨s.size, Nat.le_refl _, rfl, by rw [HL0.out], xs1, hown, fun j h1 h2 => absurd h1 (by omega), X1⟩
  case round =>
    obtain ⟨k, hk, rfl, rfl, xs, hown, hxs, hx⟩ := hrel
    have HO := Lib.hid hown
    have HX := Lib.hid hxs
    clear hown hxs
    match k, hk with
    | 0, hk =>
      have hm0 : ((0 : Nat) : Int) - 1 = -1 := by omega
      rw [hm0]
      clear hm0
      by_cases hq : sp s 0 ≤ n
      · have H := Lib.hid (show okW s (n : Int) = false from okW_no (by simpa using hq))
        have hl : 0 < lf s n 0 := Nat.div_pos hq (sp_pos HD.out 0)
        go_wp2
        go_ret2
        exact ⟨ret_sb (woV_no H.out).symm H.out.symm, hx⟩
      · have H := Lib.hid (show okW s (n : Int) = true from okW_yes h'.out (by omega) (by omega) (by simpa using hq))
        have hl : lf s n 0 = 0 := Nat.div_eq_of_lt (by omega)
        rw [hl]
        clear hl
        have hconv : (convert 31 9 (.slice (some ⟨w.heap.size, 0, none⟩) s.size s.size)).run Tryd.prog wr = .ok (.string (wB s n s.size)) wr := by
          have h := run_convert_bytes_back (P := Tryd.prog) wr 31 9 5 ⟨w.heap.size, 0, none⟩ s.size (wL s n s.size) Tryd.underlying31 Tryd.underlying5 Tryd.underlying9 (fun j hj => by
            have hj' : j < s.size := by rw [wL_len] at hj; exact hj
            rw [wL_get]
            have := (HO.out.cellAt j (by omega)).trans (HX.out j (by omega) hj')
            rw [show (Addr.add ⟨w.heap.size, 0, none⟩ j) = ⟨w.heap.size, j, none⟩ from by cases j <;> simp [Addr.add]]
            exact this)
          rw [wL_len] at h
          exact h
        go_wp2
        go_ret2
        exact ⟨ret_sb (by rw [woV_yes H.out]; rfl) H.out.symm, hx⟩
    | m + 1, hk =>
      have hlt : m < s.size := hk
      have hlen : xs.length = s.size := by have := HO.out.1; omega
      obtain ⟨u, hu⟩ : ∃ u, xs[m]? = some u := ⟨xs[m]'(by omega), List.getElem?_eq_getElem _⟩
      have HU := Lib.hid hu
      clear hu hlen
      have HL := Lib.hid (HD.out m hlt)
      have hm0 : ((m + 1 : Nat) : Int) - 1 = (m : Int) := by omega
      rw [hm0]
      clear hm0
      go_wp2_with (first | (go_at_call 16; refine (keyAt_any _ _ HL.out (hp.ext hx)).mono ?_; rintro e w2 ⟨rfl, x1⟩))
      have HK := Lib.hid (show ((w2.alloc (keyO s[m].toNat)).drew).cell? ⟨w2.heap.size, 0, none⟩ = some (.int .u8 s[m].toNat) ∧ ((w2.alloc (keyO s[m].toNat)).drew).cell? ⟨w2.heap.size, 1, none⟩ = some (.string (lt (dk s[m].toNat))) ∧ w2.heap.size < ((w2.alloc (keyO s[m].toNat)).drew).heap.size from key_new w2 s[m].toNat)
      have HO2 := Lib.hid (show ((w2.alloc (keyO s[m].toNat)).drew).ownsRow w.heap.size 5 1 (.slice (some ⟨w.heap.size, 0, none⟩) s.size s.size) s.size xs from own_ext (own_ext HO.out x1) (((Ext.refl w2).alloc _).drew))
      have HX2 := Lib.hid (show Ext w ((w2.alloc (keyO s[m].toNat)).drew) from (hx.trans x1).trans (((Ext.refl w2).alloc _).drew))
      have hdl : dig s n m < (lt (dk s[m].toNat)).size := dig_lt HD.out hlt
      have hidx : ∀ w, (Instr.index 9 (.string (lt (dk s[m].toNat))) (.int .i64 (dig s n m : Int))).run Tryd.prog w = .ok (.int .u8 ((chW s n m).toNat : Int)) w := fun w => by
        rw [ix_str _ _ hdl w, chW_byte HD.out hlt hdl]
      have hre : ((lf s n (m + 1) : Nat) : Int) % ((lt (dk s[m].toNat)).size : Int) = (dig s n m : Int) := by
        rw [dig_at hlt]; rfl
      have hre2 : Int.tmod ((lf s n (m + 1) : Nat) : Int) ((lt (dk s[m].toNat)).size : Int) = (dig s n m : Int) := by
        rw [Int.tmod_eq_emod_of_nonneg (by omega)]; exact hre
      have hls := (lt_size (dk s[m].toNat) (dk_bd HL.out).1).2
      obtain ⟨hls1, hls2⟩ := hls
      have b1 : (m : Int) < (s.size : Int) := by omega
      have hrem : ∀ w, (binOp .rem 3 (.int .i64 ((lf s n (m + 1) : Nat) : Int)) (.int .i64 ((lt (dk s[m].toNat)).size : Int))).run Tryd.prog w = .ok (.int .i64 (dig s n m : Int)) w := fun w => by
        rw [rem_any _ _ (by omega) (by omega), hre]
      have hnz : ¬ (lt (dk s[m].toNat)).size = 0 := by omega
      unfold keyO at HK HO2 HX2
      go_region_with (go_at_call 17; refine (size_any _ _ _).mono ?_; rintro e w3 ⟨rfl, x2⟩; have kc := cells_ext HK.out x2; obtain ⟨k0, k1, k2⟩ := kc; have hc3 := (own_ext HO2.out x2).cellAt m (by omega); have hc4 := hc3.trans HU.out; clear hc3; have hf3 := (own_ext HO2.out x2).frozenAt m)
      all_goals
        have hBlt : w.heap.size < w2.heap.size := by
          have h3 := HO.out.2
          rcases h3 with ⟨h3, _⟩ | ⟨g, cap, cur, h3, _, hg, _⟩
          · cases h3
          · cases h3
            have hlt2 : w.heap.size < wr.heap.size := by
              rcases Nat.lt_or_ge w.heap.size wr.heap.size with h4 | h4
              · exact h4
              · rw [Array.getElem?_eq_none h4] at hg; cases hg
            have := x1.size
            omega
        have XE := Lib.hid (HX2.out.trans x2)
        have O3 := Lib.hid ((own_ext HO2.out x2).stored m (.int .u8 ((chW s n m).toNat : Int))).1
        have j0 : (w3.setCell ⟨w.heap.size, m, none⟩ (.int .u8 ((chW s n m).toNat : Int))).cell? ⟨w2.heap.size, 0, none⟩ = some (.int .u8 s[m].toNat) := (World.cell?_setCell_far _ _ _ _ (by show w.heap.size ≠ w2.heap.size; omega)).trans k0
        have j1 : (w3.setCell ⟨w.heap.size, m, none⟩ (.int .u8 ((chW s n m).toNat : Int))).cell? ⟨w2.heap.size, 1, none⟩ = some (.string (lt (dk s[m].toNat))) := (World.cell?_setCell_far _ _ _ _ (by show w.heap.size ≠ w2.heap.size; omega)).trans k1
        have hdv : ((lf s n (m + 1) : Nat) : Int) / ((lt (dk s[m].toNat)).size : Int) = ((lf s n m : Nat) : Int) := by
          rw [show lf s n m = lf s n (m + 1) / kN s[m] from (back hlt).symm]; rfl
        have hlf : lf s n m ≤ 1000000000000000 := Nat.le_trans (Nat.div_le_self _ _) hn
        clear k0 k1 k2 hc4 hf3 hidx hrem hre hre2 x2
        go_wp2_with (go_at_call 17; refine (size_any _ _ _).mono ?_; rintro e w5 ⟨rfl, x5⟩)
        go_roundw
        case rel =>
          refine ⟨m, by omega, rfl, rfl, xs.set m (.int .u8 ((chW s n m).toNat : Int)), own_ext O3.out x5, ?_, (XE.out.setCell (Nat.le_refl _) _).trans x5⟩
          intro j h1 h2
          by_cases e : j = m
          · subst e
            rw [List.getElem?_set_self (by have := HO.out.1; omega)]
          · rw [List.getElem?_set_ne (by omega)]
            exact HX.out j (by omega) h2
        case measure => simp [intOf]

set_option maxHeartbeats 400000 in
theorem impl_any (s : ByteArray) (r : Int) (w : World) (hs : s.size ≤ maxLen) (hp : PadIs w) : Calls Tryd.prog 7 #[.string s, .int .i64 r] w fun e w' => e = .returned (.tuple #[.string (woV s r), .bool (okW s r)]) ∧ Ext w w' := by
  cases h : isK s
  · have H := Lib.hid (okW_K (r := r) h)
    go_enter Tryd.func7, Tryd.ntmps7
    go_wp2_with (go_at_call 15; refine (areKeys_any _ _ hs).mono ?_; rintro e w' ⟨rfl, rfl⟩)
    go_ret2
    exact ⟨ret_sb (woV_no H.out).symm H.out.symm, Ext.refl _⟩
  by_cases r0 : r < 0
  · have H := Lib.hid (okW_lo (s := s) r0)
    go_enter Tryd.func7, Tryd.ntmps7
    go_wp2_with (go_at_call 15; refine (areKeys_any _ _ hs).mono ?_; rintro e w' ⟨rfl, rfl⟩)
    go_ret2
    exact ⟨ret_sb (woV_no H.out).symm H.out.symm, Ext.refl _⟩
  by_cases r1 : 1000000000000000 < r
  · have H := Lib.hid (okW_hi (s := s) r1)
    go_enter Tryd.func7, Tryd.ntmps7
    go_wp2_with (go_at_call 15; refine (areKeys_any _ _ hs).mono ?_; rintro e w' ⟨rfl, rfl⟩)
    go_ret2
    exact ⟨ret_sb (woV_no H.out).symm H.out.symm, Ext.refl _⟩
  obtain ⟨n, rfl⟩ := Int.eq_ofNat_of_zero_le (show 0 ≤ r by omega)
  exact impl_loop s n w hs hp h (by omega)

set_option maxHeartbeats 400000 in
theorem walk (s : ByteArray) (hs : s.size ≤ maxLen) (r : Int) (_h1 : (Lit.int .i64 r).wf = true) (w : World) (hp : PadIs w) : Calls Tryd.prog 3 #[.string s, .int .i64 r] w fun e w' => e = .returned (.bool true) ∧ Ext w w' := by
  clear _h1
  have h63 : s.size ≤ 9223372036854775807 := hs
  go_enter Tryd.func3, Tryd.ntmps3
  go_wp2_with (first | (go_at_call 6; refine (spec_any _ _ _ hs).mono ?_; rintro e w' ⟨rfl, rfl⟩) | (go_at_call 7; refine (impl_any _ _ _ hs hp).mono ?_; rintro e w1 ⟨rfl, x1⟩))
  all_goals go_ret
  all_goals exact ⟨rfl, by first | assumption | exact Ext.refl _⟩

theorem contract (H : Type) (enc : TypeId × Value → H) (W : World) (base : Nat) (args : Array Value) (ds gs : List (DataW H)) (before : List MemPlace)
    (hval : ∀ (j : Nat) t v, Tryd.f3.params[j]? = some t → args[j]? = some v → Value.okWide Tryd.prog W .any base t v)
    (hW : DataW.Whole enc Tryd.prog Tryd.f3.params.toList Rows.fnExactWordOfRankSpec.vars false W args.toList ds gs before) (hL : laidMetH Tryd.prog Rows.fnExactWordOfRankRow.laid W) :
    Calls Tryd.prog 3 args W fun e W' => ∃ v, e = .returned v ∧ Rows.fnExactWordOfRankSpec.post enc Tryd.prog Tryd.f3 false true false false W args v W' := by
  have hW' := hW
  obtain ⟨p, q, hA0, hV, rfl, hfz, hnd⟩ := hW
  have hA : DataW.TrodAll enc Tryd.prog W 0 (fun _ => true) true Tryd.f3.params.toList args.toList ds p := hA0
  rw [Tryd.params3] at hA hval
  obtain ⟨v0, vs0, d0, ds0, p0, q0, hargs0, rfl, rfl, h0, r0⟩ := trodAll_cons hA
  obtain ⟨v1, vs1, d1, ds1, p1, q1, hargs1, rfl, rfl, h1, r1⟩ := trodAll_cons r0
  obtain ⟨rfl, rfl, rfl⟩ := trodAll_nil r1
  subst hargs1
  obtain rfl : args = #[v0, v1] := Array.toList_inj.1 hargs0
  obtain ⟨s0, rfl, rfl, rfl, z0⟩ := open_string Tryd.underlying9 (hval 0 9 v0 rfl rfl) h0
  obtain ⟨s1, rfl, rfl, rfl, z1⟩ := open_int Tryd.underlying3 (hval 1 3 v1 rfl rfl) h1
  clear hA0
  refine (walk s0 z0 s1 z1 W (padIs_of_laid hL)).mono fun e W' ⟨he, hx⟩ => ?_
  subst he
  exact ⟨_, rfl, post_true (tb := 4) laidOut (by rw [Tryd.params3]; intro t ht; simp at ht; rcases ht with rfl | rfl <;> exact ⟨by kernel_rfl, of_decide_eq_true (by kernel_rfl)⟩) (by kernel_rfl) hW' hx (by obtain ⟨g, t, cs, fuel, d, p', rfl, _⟩ := trodVars_one hV; rfl) rfl Tryd.underlying4⟩

theorem reads (os : Os) {H : Type} (enc : TypeId × Value → H) : ∃ gs places, DataW.whole enc Tryd.prog ((laidWorld os).forCall (fun _ _ => 0) ⟨#[], #[.string ByteArray.empty, .int .i64 0], []⟩).memory Tryd.f3.params.toList Rows.fnExactWordOfRankSpec.vars false (#[.string ByteArray.empty, .int .i64 0] : Array Value).toList 8 = some ([.lit (.string []), .lit (.int .i64 0)], gs, places) :=
  ⟨[Rows.laid_loop_example_g01350_impl_padKeys], MemPlace.row ⟨0, 0, none⟩ 16, by kernel_rfl⟩

set_option maxRecDepth 100000 in
theorem lifted (os : Os) (started : os.Started) (H : Type) (enc : TypeId × Value → H) (F : Stop.Interp) :
    ReturnsInHanded {} Tryd.checked os 3 .any ((OpenSpec.ofChange Rows.fnExactWordOfRankSpec).preRow enc Tryd.prog Tryd.f3 Rows.fnExactWordOfRankRow.domain false Rows.fnExactWordOfRankRow.laid) (((OpenSpec.ofChange Rows.fnExactWordOfRankSpec).at F).post enc Tryd.prog Tryd.f3 false true false false) := by
  obtain ⟨gs, places, hx⟩ := reads os enc
  refine returnsInHanded_of_row (C := Tryd.checked) (s := OpenSpec.ofChange Rows.fnExactWordOfRankSpec) own started (by kernel_rfl) Tryd.func3
    (witness_row_at (enc := enc) (C := Tryd.checked) false (laidWorld os) #[.string ByteArray.empty, .int .i64 0] rfl (by kernel_rfl) (by kernel_rfl) (by kernel_rfl)
      (OpenSpec.preRow_of_cond 8 hx (by kernel_rfl) (fun k hk => by cases hk) (by kernel_rfl) (laid_met os _))) ?_
  intro W base args ds gs before hval hW _ _ _ hL _ _
  exact contract H enc W base args ds gs before hval hW hL

theorem said : Rows.FnExactWordOfRankSaid :=
  OpenClaim.holds_of_cond 3 Tryd.f3 rfl rfl rfl rfl rfl rfl rfl ⟨rfl, rfl, rfl, rfl, rfl⟩ rfl rfl rfl rfl rfl (by kernel_rfl) Tryd.func3 (by kernel_rfl)
    (of_decide_eq_true (by kernel_rfl)) (by unfold Func.isWrapper; first | (rw [if_pos (by decide +kernel)]; kernel_rfl) | (rw [if_neg (by decide +kernel)]; exact ⟨rfl, rfl⟩))
    (fun os started H enc _ F => by rw [OpenClaim.pre_eq_preRow]; exact lifted os started H enc F)

theorem plain (f : FuncId) (fn : Func) (hf : Tryd.pinned.checked.prog.funcNamed "loop.example/g01350/laws.FnExactWordOfRank" = some f) (hfn : Tryd.pinned.checked.prog.funcs[f]? = some fn) :
    false = Tryd.pinned.checked.prog.looks [] ∧ ∀ (j : Nat) t, fn.params[j]? = some t → Tryd.pinned.checked.prog.wantsStandIn t = false := by
  obtain rfl : f = 3 := Option.some.inj ((show Tryd.prog.funcNamed "loop.example/g01350/laws.FnExactWordOfRank" = some 3 by kernel_rfl).symm.trans hf) |>.symm
  obtain rfl : fn = Tryd.f3 := (Option.some.inj (Tryd.func3.symm.trans hfn)).symm
  refine ⟨by kernel_rfl, fun j t ht => ?_⟩
  rw [Tryd.params3] at ht
  have hm := Array.mem_of_getElem? ht
  have hall : (#[9, 3].toList.all fun u => !Tryd.prog.wantsStandIn u) = true := by kernel_rfl
  exact (show Tryd.prog.wantsStandIn t = false by simpa using List.all_eq_true.1 hall t (by simpa using hm))

/-- THE CARD -/
theorem card : Rows.FnExactWordOfRankCardSaid :=
  Claim7.holds_tied_plain_at .later [] _ _ _ _ said (fun _ h => by cases h) (by kernel_rfl) (fun _ h => by cases h) fnExactWordOfRank_row_tie rfl ⟨rfl, rfl⟩ (by kernel_rfl) rfl plain (by kernel_rfl)
end Go.Proofs.YtfekamknnmhgpabDoor.wordOfRank
