/- The digit from which the most numbers begin: both sides. No conditions. -/
import Derived.Test.YtcfoicogaggkbabCntN
import Derived.Deep.RegionHeld3
namespace Go.Proofs.Ytcfoicogaggkbab
open Go.RowKit

/-! No count of so few digits is too great. -/
def vW (p i : Nat) : Nat := if p = 1 then [10, 12, 17, 12, 18, 26, 18, 15, 20, 15].getD i 0 else 10
theorem vW_step : ∀ p : Nat, p < 4 → ∀ i : Nat, i < 10 → 10 * sumL (vW p) (nx p i) ≤ 51 * vW p i := of_decide_eq_true (by kernel_rfl)
theorem vW_bd : ∀ p : Nat, p < 4 → ∀ i : Nat, i < 10 → 10 ≤ vW p i ∧ vW p i ≤ 26 := of_decide_eq_true (by kernel_rfl)
theorem sumL_mono (a : Nat) (f g : Nat → Nat) (c : Nat) : ∀ l : List Nat, (∀ j ∈ l, a * f j ≤ c * g j) → a * sumL f l ≤ c * sumL g l
  | [], _ => by simp [sumL]
  | d :: l, h => by
    have h1 := sumL_mono a f g c l (fun j hj => h j (by simp [hj]))
    have h2 := h d (by simp)
    unfold sumL at h1 ⊢
    rw [List.map_cons, List.sum_cons, List.map_cons, List.sum_cons, Nat.mul_add, Nat.mul_add]
    omega
theorem wyF_pow (p : Nat) (hp : p < 4) : ∀ t i : Nat, i < 10 → (10 * 10 ^ t) * wyF p (eF 0) t i ≤ 51 ^ t * vW p i
  | 0, i, hi => by
    have h := (vW_bd p hp i hi).1
    show 10 * 10 ^ 0 * eF 0 i ≤ 51 ^ 0 * vW p i
    rw [eF0]
    omega
  | t + 1, i, hi => by
    have h1 := sumL_mono (10 * 10 ^ t) (wyF p (eF 0) t) (vW p) (51 ^ t) (nx p i) (fun j hj => wyF_pow p hp t j (nx_lt hj))
    have h2 := vW_step p hp i hi
    have h3 : wyF p (eF 0) (t + 1) i ≤ sumL (wyF p (eF 0) t) (nx p i) := Nat.min_le_left _ _
    calc (10 * 10 ^ (t + 1)) * wyF p (eF 0) (t + 1) i ≤ (10 * 10 ^ (t + 1)) * sumL (wyF p (eF 0) t) (nx p i) := Nat.mul_le_mul_left _ h3
      _ = 10 * ((10 * 10 ^ t) * sumL (wyF p (eF 0) t) (nx p i)) := by rw [Nat.pow_succ]; simp [Nat.mul_comm, Nat.mul_assoc]
      _ ≤ 10 * (51 ^ t * sumL (vW p) (nx p i)) := Nat.mul_le_mul_left _ h1
      _ = 51 ^ t * (10 * sumL (vW p) (nx p i)) := by simp [Nat.mul_left_comm]
      _ ≤ 51 ^ t * (51 * vW p i) := Nat.mul_le_mul_left _ h2
      _ = 51 ^ (t + 1) * vW p i := by rw [Nat.pow_succ, Nat.mul_assoc]
theorem pow_bd : ∀ t : Nat, t < 20 → 51 ^ t * 26 ≤ (10 * 10 ^ t) * 1000000000000000 := of_decide_eq_true (by kernel_rfl)
theorem wyF_few (p : Nat) (hp : p < 4) (t i : Nat) (ht : t < 20) (hi : i < 10) : wyF p (eF 0) t i ≤ mxN := by
  have h1 := wyF_pow p hp t i hi
  have h2 := (vW_bd p hp i hi).2
  have h3 := pow_bd t ht
  have h4 : 51 ^ t * vW p i ≤ 51 ^ t * 26 := Nat.mul_le_mul_left _ h2
  have h5 : (10 * 10 ^ t) * wyF p (eF 0) t i ≤ (10 * 10 ^ t) * mxN := Nat.le_trans h1 (Nat.le_trans h4 h3)
  exact Nat.le_of_mul_le_mul_left h5 (Nat.mul_pos (by decide) (Nat.pos_of_ne_zero (by simp)))

/-- The first place of the greatest, of so many. -/
def bI (f : Nat → Nat) : Nat → Nat
  | 0 => 0
  | k + 1 => if f (bI f k) < f k then k else bI f k
theorem bI_lt (f : Nat → Nat) : ∀ k, bI f k < k ∨ (bI f k = 0)
  | 0 => .inr rfl
  | k + 1 => by
    unfold bI
    split
    · exact .inl (by omega)
    · rcases bI_lt f k with h | h
      · exact .inl (by omega)
      · exact .inr h
theorem bI_10 (f : Nat → Nat) (k : Nat) (h : k ≤ 10) : bI f k < 10 := by rcases bI_lt f k with h1 | h1 <;> omega
theorem bI_yes {f : Nat → Nat} {k : Nat} (h : f (bI f k) < f k) : bI f (k + 1) = k := by rw [bI, if_pos h]
theorem bI_no {f : Nat → Nat} {k : Nat} (h : ¬ f (bI f k) < f k) : bI f (k + 1) = bI f k := by rw [bI, if_neg h]

def bkG (s : ByteArray) (n : Int) : Bool := isP s && inW n 1 20
def bkD (s : ByteArray) (n : Int) : Nat := bI (wyF (pcI s) (eF 0) (n - 1).toNat) 10
def bkT (s : ByteArray) (n : Int) : ByteArray := if bkG s n then dT [bkD s n] else ⟨#[]⟩
def bkN (s : ByteArray) (n : Int) : Int := if bkG s n then (wyF (pcI s) (eF 0) (n - 1).toNat (bkD s n) : Nat) else 0
theorem bk_no {s : ByteArray} {n : Int} (h : bkG s n = false) : bkT s n = ⟨#[]⟩ ∧ bkN s n = 0 := by unfold bkT bkN; rw [h]; exact ⟨rfl, rfl⟩
theorem bk_yes {p m : Nat} (h : bkG (pcT p) ((m + 1 : Nat) : Int) = true) (hp : p < 4) : bkT (pcT p) ((m + 1 : Nat) : Int) = dT [bI (wyF p (eF 0) m) 10] ∧ bkN (pcT p) ((m + 1 : Nat) : Int) = (wyF p (eF 0) m (bI (wyF p (eF 0) m) 10) : Nat) := by
  have e : (((m + 1 : Nat) : Int) - 1).toNat = m := by omega
  unfold bkT bkN bkD
  rw [h, pcI_T hp, e]
  exact ⟨rfl, rfl⟩
theorem bkG_p {s : ByteArray} {n : Int} (h : isP s = false) : bkG s n = false := by unfold bkG; rw [h]; rfl
theorem bkG_n {s : ByteArray} {n : Int} (h : inW n 1 20 = false) : bkG s n = false := by unfold bkG; rw [h, Bool.and_false]
theorem bkG_y {s : ByteArray} {n : Int} (h : isP s = true) (h2 : inW n 1 20 = true) : bkG s n = true := by unfold bkG; rw [h, h2]; rfl
theorem ret_SIB {a a' : ByteArray} {c c' : Int} {b b' : Bool} (h : a = a') (h3 : c = c') (h2 : b = b') : Ending.returned (.tuple #[.string a, .int .i64 c, .bool b]) = .returned (.tuple #[.string a', .int .i64 c', .bool b']) := by rw [h, h2, h3]
theorem dgB_dT {d : Nat} (h : d < 10) : dgB d = dT [d] := by
  rw [dgB_one h]
  have e : ∀ d : Nat, d < 10 → digL.getD d 0 = (48 + d).toUInt8 := of_decide_eq_true (by kernel_rfl)
  rw [e d h]
  rfl

theorem new10 (w0 w1 : World) (A : Array Value) (t : Nat → Int) (hA : A = (rowN 10 t).toArray) (hx : Ext w0 w1) : ∃ W, (storeCells ⟨w1.heap.size, 0, none⟩ A.toList).run Try.prog (w1.alloc (.cells #[.int .i64 0, .int .i64 0, .int .i64 0, .int .i64 0, .int .i64 0, .int .i64 0, .int .i64 0, .int .i64 0, .int .i64 0, .int .i64 0] 53)) = .ok () W ∧ TabD W w1.heap.size t ∧ Ext w0 W := by
  have hT0 : TabD (w1.alloc (.cells #[.int .i64 0, .int .i64 0, .int .i64 0, .int .i64 0, .int .i64 0, .int .i64 0, .int .i64 0, .int .i64 0, .int .i64 0, .int .i64 0] 53)) w1.heap.size (fun _ => 0) := by unfold TabD; rw [zero10]; exact heap_alloc_new w1 _
  obtain ⟨W, h1, h2, h3⟩ := dr_store (w := w0) _ w1.heap.size (fun _ => 0) t hT0 (hx.alloc _) hx.size
  exact ⟨W, by rw [hA]; exact h1, h2, h3⟩

set_option maxHeartbeats 1000000 in
theorem bkI_any (s : ByteArray) (n : Int) (w : World) (hs : s.size ≤ maxLen) : Calls Try.prog 27 #[.string s, .int .i64 n] w fun e w' => e = .returned (.tuple #[.string (bkT s n), .int .i64 (bkN s n), .bool (bkG s n)]) ∧ Ext w w' := by
  cases h : isP s
  · have HO := Lib.hid (bkG_p (n := n) h)
    have HV := Lib.hid (bk_no HO.out)
    go_enter Try.func27, Try.ntmps27
    go_wp2_with (go_at_call 44; refine (isPiece_any _ _ hs).mono ?_; rintro e w1 ⟨rfl, rfl⟩; rw [h])
    go_ret3
    exact ⟨ret_SIB HV.out.1.symm HV.out.2.symm HO.out.symm, Ext.refl _⟩
  cases hn : inW n 1 20
  · have HO := Lib.hid (bkG_n (s := s) hn)
    have HV := Lib.hid (bk_no HO.out)
    go_enter Try.func27, Try.ntmps27
    go_wp2_with (first | (go_at_call 44; refine (isPiece_any _ _ hs).mono ?_; rintro e w1 ⟨rfl, rfl⟩; rw [h]) | (go_at_call 48; refine (isLong_any _ _ _).mono ?_; rintro e w' ⟨rfl, rfl⟩; rw [hn]))
    go_ret3
    exact ⟨ret_SIB HV.out.1.symm HV.out.2.symm HO.out.symm, Ext.refl _⟩
  have hG := bkG_y h hn
  have HG := Lib.hid hG
  obtain ⟨p, hp, rfl⟩ := isP_yes h
  obtain ⟨n1, n2⟩ := inW_bd hn
  obtain ⟨m, rfl⟩ : ∃ m : Nat, n = ((m + 1 : Nat) : Int) := ⟨(n - 1).toNat, by omega⟩
  have HV := Lib.hid (bk_yes hG hp)
  have hm : m < 20 := by omega
  have HNO := Lib.hid (fun w => numbersOf_any p m w hp (by omega))
  obtain ⟨f, hf⟩ : ∃ f, f = wyF p (eF 0) m := ⟨_, rfl⟩
  rw [← hf] at HNO HV
  obtain ⟨A, hA⟩ : ∃ A, A = (rowI f).toArray := ⟨_, rfl⟩
  rw [← hA] at HNO
  have HAE := Lib.hid hA
  have hAs : A.size = 10 := by rw [hA, List.size_toArray, rowI_len]
  have HNA := Lib.hid (show (Try.prog.info? 53).map (·.size) = some A.size by rw [hA, List.size_toArray, rowI_len]; kernel_rfl)
  have HAA := Lib.hid (fun k hk => show A[k]? = some (Value.int .i64 (f k : Nat)) by rw [hA]; exact rowI_at f k hk)
  have HIX := Lib.hid (fun k hk w => ixRow A k hk (.int .i64 (f k : Nat)) (HAA.out k hk) w)
  obtain ⟨n, hnn⟩ : ∃ n : Int, n = ((m + 1 : Nat) : Int) := ⟨_, rfl⟩
  rw [← hnn] at HV HNO HG hn ⊢
  clear hA hnn n1 n2 hf hG
  have HH := Lib.hid h
  clear h
  go_enter Try.func27, Try.ntmps27
  go_wp2_with (first | (go_at_call 44; refine (isPiece_any _ _ hs).mono ?_; rintro e w1 ⟨rfl, rfl⟩; rw [HH.out]) | (go_at_call 48; refine (isLong_any _ _ _).mono ?_; rintro e w' ⟨rfl, rfl⟩; rw [hn]) | (go_at_call 50; refine (HNO.out _).mono ?_; rintro e w2 ⟨rfl, x2⟩; obtain ⟨W3, st3, T3, X3⟩ := new10 w w2 A _ HAE.out x2) | (refine wpList_load_row rfl _ _ rfl (w2.heap.size) rfl 53 A (0, 0) _ (by rw [HAE.out]; exact T3) Try.underlying53 rfl HNA.out ?_))
  have HT3 := Lib.hid T3
  obtain ⟨C, hC⟩ : ∃ C, C = w2.heap.size := ⟨_, rfl⟩
  rw [← hC] at HT3 ⊢
  clear T3 st3 hC hAs
  go_loopw [8, 23] (fun b q wr => ∃ k : Nat, k ≤ 10 ∧ q = .int .i64 k ∧ b = .int .i64 (bI f k : Nat) ∧ Ext W3 wr) (fun _ q _ => 10 - (intOf q).toNat)
  case atStart => exact ⟨0, Nat.zero_le _, rfl, rfl, Ext.refl _⟩
  case round =>
    obtain ⟨k, hk, rfl, rfl, hx⟩ := hrel
    have hb10 := bI_10 f k hk
    by_cases hlt : k < 10
    · have hki : (k : Int) < 10 := by omega
      have hix := HIX.out k hlt
      have cB := (HT3.out.ext hx).at (bI f k) hb10
      have HY := Lib.hid (fun h => bI_yes (f := f) (k := k) h)
      have HN := Lib.hid (fun h => bI_no (f := f) (k := k) h)
      obtain ⟨b, hb⟩ : ∃ b, b = bI f k := ⟨_, rfl⟩
      rw [← hb] at hb10 cB HY HN ⊢
      have hbi : (b : Int) < 10 := by omega
      clear hb
      by_cases hc : f b < f k
      · have hci : (f b : Int) < (f k : Int) := by omega
        have HR := Lib.hid (HY.out hc)
        clear hc
        go_wp2
        go_roundw
        case rel => exact ⟨k + 1, by omega, by go_num, by rw [HR.out], hx⟩
        case measure => simp [intOf] <;> omega
      · have hci : ¬ (f b : Int) < (f k : Int) := by omega
        have HR := Lib.hid (HN.out hc)
        clear hc
        go_wp2
        go_roundw
        case rel => exact ⟨k + 1, by omega, by go_num, by rw [HR.out], hx⟩
        case measure => simp [intOf] <;> omega
    · obtain rfl : k = 10 := by omega
      have cB := (HT3.out.ext hx).at (bI f 10) hb10
      obtain ⟨b, hb⟩ : ∃ b, b = bI f 10 := ⟨_, rfl⟩
      rw [← hb] at hb10 cB HV ⊢
      have hbi : (b : Int) < 10 := by omega
      obtain ⟨b1, hb1⟩ : ∃ b1, b1 = b + 1 := ⟨_, rfl⟩
      have hsl : ∀ w, (Instr.slice 9 (.string ⟨#[48, 49, 50, 51, 52, 53, 54, 55, 56, 57]⟩) (some (.int .i64 (b : Int))) (some (.int .i64 (b1 : Int))) none).run Try.prog w = .ok (.string (dgB b)) w := fun w => by rw [hb1]; exact slB ⟨#[48, 49, 50, 51, 52, 53, 54, 55, 56, 57]⟩ b (b + 1) (by omega) hb10 w
      have Wb : IntKind.i64.wrap ((b : Int) + 1) = (b1 : Int) := by simp only [IntKind.wrap_i64]; omega
      have Cb : (b : Int) + 1 = (b1 : Int) := by omega
      have HD := Lib.hid (dgB_dT hb10)
      obtain ⟨D, hD⟩ : ∃ D, D = dgB b := ⟨_, rfl⟩
      rw [← hD] at hsl HD
      clear hb hb1 hD
      go_wp2
      go_quiet (fail)
      go_wp2
      go_ret3
      exact ⟨ret_SIB (by rw [HV.out.1]; exact HD.out) (by rw [HV.out.2]) HG.out.symm, ext_drewN (X3.trans hx) _⟩

theorem l1NumW_any (d : Nat) (w : World) (hd : d < 10) : Calls Try.prog 55 #[.int .i64 d] w fun e w' => e = .returned (.string (dT [d])) ∧ Ext w w' := by
  have W1 : IntKind.u8.wrap (48 + (d : Int)) = 48 + (d : Int) := IntWalk.u8_in _ (by omega)
  have hlt : (d : Int) < 10 := by omega
  have hconv : (convert 71 9 (.slice (some ⟨w.heap.size, 0, none⟩) 1 1)).run Try.prog (w.alloc (.cells #[.int .u8 (48 + (d : Int))] 5)) = .ok (.string (dT [d])) (w.alloc (.cells #[.int .u8 (48 + (d : Int))] 5)) := by
    refine run_convert_bytes_back (P := Try.prog) _ 71 9 5 ⟨w.heap.size, 0, none⟩ 1 [(48 + d).toUInt8] Try.underlying71 Try.underlying5 Try.underlying9 (fun j hj => ?_)
    have hj0 : j = 0 := by simpa using hj
    subst hj0
    simp only [List.getElem_cons_zero, digB d hd]
    simp [Addr.add]
  obtain ⟨T, hT⟩ : ∃ T, T = dT [d] := ⟨_, rfl⟩
  rw [← hT] at hconv ⊢
  clear hT
  go_enter Try.func55, Try.ntmps55
  go_wp2
  go_ret
  exact ⟨rfl, (Ext.refl _).alloc _⟩

set_option maxHeartbeats 1000000 in
theorem bkS_any (s : ByteArray) (n : Int) (w : World) (_hs : s.size ≤ maxLen) : Calls Try.prog 26 #[.string s, .int .i64 n] w fun e w' => e = .returned (.tuple #[.string (bkT s n), .int .i64 (bkN s n), .bool (bkG s n)]) ∧ Ext w w' := by
  cases h : isP s
  · have HO := Lib.hid (bkG_p (n := n) h)
    have HV := Lib.hid (bk_no HO.out)
    go_enter Try.func26, Try.ntmps26
    go_wp2_with (go_at_call 42; refine (wkPiece_any _ _).mono ?_; rintro e w1 ⟨rfl, rfl⟩; rw [h])
    go_ret3
    exact ⟨ret_SIB HV.out.1.symm HV.out.2.symm HO.out.symm, Ext.refl _⟩
  cases hn : inW n 1 20
  · have HO := Lib.hid (bkG_n (s := s) hn)
    have HV := Lib.hid (bk_no HO.out)
    go_enter Try.func26, Try.ntmps26
    go_wp2_with (first | (go_at_call 42; refine (wkPiece_any _ _).mono ?_; rintro e w1 ⟨rfl, rfl⟩; rw [h]) | (go_at_call 46; refine (inW_any _ _ _ _).mono ?_; rintro e w' ⟨rfl, rfl⟩; rw [hn]))
    go_ret3
    exact ⟨ret_SIB HV.out.1.symm HV.out.2.symm HO.out.symm, Ext.refl _⟩
  have hG := bkG_y h hn
  have HG := Lib.hid hG
  obtain ⟨p, hp, rfl⟩ := isP_yes h
  obtain ⟨n1, n2⟩ := inW_bd hn
  obtain ⟨m, rfl⟩ : ∃ m : Nat, n = ((m + 1 : Nat) : Int) := ⟨(n - 1).toNat, by omega⟩
  have HV := Lib.hid (bk_yes hG hp)
  have hm : m < 20 := by omega
  have HTB := Lib.hid (fun w => wkTable_any p 0 m w hp (.inl rfl) (by omega))
  rw [show ((0 : Nat) : Int) = 0 from rfl] at HTB
  have HFW := Lib.hid (fun i hi => wyF_few p hp m i hm hi)
  obtain ⟨n, hnn⟩ : ∃ n : Int, n = ((m + 1 : Nat) : Int) := ⟨_, rfl⟩
  have Wn : wrap64 (n - 1) = (m : Int) := by unfold wrap64; omega
  have Wn2 : n - 1 = (m : Int) := by omega
  have hlt : (m : Int) < ((m + 1 : Nat) : Int) := by omega
  have hlt2 : (m : Int) < (m : Int) + 1 := by omega
  rw [← hnn] at HV HG hn ⊢
  clear hnn n1 n2 hG
  have HH := Lib.hid h
  clear h
  go_enter Try.func26, Try.ntmps26
  go_wp2_with (first | (go_at_call 42; refine (wkPiece_any _ _).mono ?_; rintro e w1 ⟨rfl, rfl⟩; rw [HH.out]) | (go_at_call 46; refine (inW_any _ _ _ _).mono ?_; rintro e w' ⟨rfl, rfl⟩; rw [hn]))
  refine (HTB.out _).mono ?_
  rintro e w1 ⟨v, U, rfl, hg, x1⟩
  obtain ⟨a, cap, rfl⟩ := hg.shape
  obtain ⟨g, rfl, _, _, hcell⟩ := hg.at m (by omega)
  have c1 := hcell w1 (Ext.refl _) m (by omega)
  have HRO := Lib.hid (hg.inner m (by omega))
  obtain ⟨u, hu⟩ : ∃ u, u = U m := ⟨_, rfl⟩
  rw [← hu] at c1 HRO
  obtain ⟨f, hf⟩ : ∃ f, f = wyF p (eF 0) m := ⟨_, rfl⟩
  rw [← hf] at HRO HV HFW
  clear hu hcell hg hf
  go_wp2
  go_loopw [8, 29] (fun b q wr => ∃ k : Nat, k ≤ 10 ∧ q = .int .i64 k ∧ b = .int .i64 (bI f k : Nat) ∧ Ext w1 wr) (fun _ q _ => 10 - (intOf q).toNat)
  case atStart => exact ⟨0, Nat.zero_le _, rfl, rfl, Ext.refl _⟩
  case round =>
    obtain ⟨k, hk, rfl, rfl, hx⟩ := hrel
    have hb10 := bI_10 f k hk
    by_cases hlt : k < 10
    · have hki : (k : Int) < 10 := by omega
      have cK := (HRO.out.ext hx).at k hlt
      have cB := (HRO.out.ext hx).at (bI f k) hb10
      have HY := Lib.hid (fun h => bI_yes (f := f) (k := k) h)
      have HN := Lib.hid (fun h => bI_no (f := f) (k := k) h)
      obtain ⟨b, hb⟩ : ∃ b, b = bI f k := ⟨_, rfl⟩
      rw [← hb] at hb10 cB HY HN ⊢
      have hbi : (b : Int) < 10 := by omega
      clear hb
      by_cases hc : f b < f k
      · have hci : (f b : Int) < (f k : Int) := by omega
        have HR := Lib.hid (HY.out hc)
        clear hc
        go_wp2
        go_roundw
        case rel => exact ⟨k + 1, by omega, by go_num, by rw [HR.out], hx⟩
        case measure => simp [intOf] <;> omega
      · have hci : ¬ (f b : Int) < (f k : Int) := by omega
        have HR := Lib.hid (HN.out hc)
        clear hc
        go_wp2
        go_roundw
        case rel => exact ⟨k + 1, by omega, by go_num, by rw [HR.out], hx⟩
        case measure => simp [intOf] <;> omega
    · obtain rfl : k = 10 := by omega
      have hfw := HFW.out (bI f 10) hb10
      have HCB := Lib.hid (fun w' (hx' : Ext wr w') => ((HRO.out.ext hx).ext hx').at (bI f 10) hb10)
      obtain ⟨b, hb⟩ : ∃ b, b = bI f 10 := ⟨_, rfl⟩
      rw [← hb] at hb10 HCB HV hfw ⊢
      have cB := HCB.out wr (Ext.refl _)
      have hbi : (b : Int) < 10 := by omega
      have hfi : ¬ (1000000000000000 : Int) < (f b : Int) := by unfold mxN at hfw; omega
      clear hb hfw
      go_wp2
      go_region_held3 (fun w' => w'.cell? ⟨u, b, none⟩ = some (.int .i64 (f b : Nat)) ∧ Ext wr w') (first | exact ⟨HCB.out _ (Ext.refl _).drew, (Ext.refl _).drew⟩ | (refine ⟨HCB.out _ (Ext.trans (And.right (by assumption)) x9), Ext.trans (And.right (by assumption)) x9⟩)) (first | (go_at_call 55; refine (l1NumW_any b _ hb10).mono ?_; rintro e w9 ⟨rfl, x9⟩))
      all_goals rename_i hHeld
      all_goals go_wp2
      all_goals go_ret3
      all_goals exact ⟨ret_SIB (by rw [HV.out.1]) (by rw [HV.out.2]) HG.out.symm, (x1.trans hx).trans (And.right hHeld)⟩
end Go.Proofs.Ytcfoicogaggkbab
