/- FreeNumbers, at both sides. No conditions. -/
import Derived.Test.YtinojlbnmnlmhabFrs
import Derived.Test.YtinojlbnmnlmhabLen
namespace Go.Proofs.Ytinojlbnmnlmhab
open Go.RowKit

def shortB (ss : List ByteArray) (L : Nat) : Bool := ss.all fun c => decide (c.size ≤ L)
theorem short_mem {ss : List ByteArray} {L : Nat} (h : shortB ss L = true) : ∀ c ∈ ss, c.size ≤ L := fun c hc => of_decide_eq_true (List.all_eq_true.1 h c hc)
theorem short_no {ss : List ByteArray} {L k : Nat} (h : k < ss.length) (h2 : L < ss[k].size) : shortB ss L = false := by
  unfold shortB
  rw [List.all_eq_false]
  exact ⟨ss[k], List.getElem_mem h, by simp; omega⟩
theorem short_all {ss : List ByteArray} {L : Nat} (h : shortB ss L = true) : shs ss L = ss ∧ lgs ss L = [] := by
  have hm := short_mem h
  constructor
  · exact List.filter_eq_self.2 fun c hc => decide_eq_true (hm c hc)
  · unfold lgs
    rw [List.filter_eq_nil_iff.2 fun c hc => by simp [hm c hc]]
    rfl
theorem short_fre {ss : List ByteArray} {L : Nat} (hp : PlB ss) (h : shortB ss L = true) : freV ss L = ((10 ^ L : Nat) : Int) - ((sumI ss L : Nat) : Int) := by
  show ((10 ^ L : Nat) : Int) - (sumI (putAll (sts ss L)) L : Nat) = _
  rw [free_sum hp L, (short_all h).1, (short_all h).2]
  show _ - ((sumI ss L + 0 : Nat) : Int) = _
  omega
def okF (ss : List ByteArray) (n : Int) : Bool := okC ss n && shortB ss n.toNat
def vF (ss : List ByteArray) (n : Int) : Int := if okF ss n then freV ss n.toNat else 0
theorem okF_c {ss : List ByteArray} {n : Int} (h : okC ss n = false) : okF ss n = false := by unfold okF; rw [h]; rfl
theorem okF_s {ss : List ByteArray} {n : Int} (h : shortB ss n.toNat = false) : okF ss n = false := by unfold okF; rw [h, Bool.and_false]
theorem okF_y {ss : List ByteArray} {n : Int} (h : okC ss n = true) (h2 : shortB ss n.toNat = true) : okF ss n = true := by unfold okF; rw [h, h2]; rfl
theorem vF_no {ss : List ByteArray} {n : Int} (h : okF ss n = false) : vF ss n = 0 := by unfold vF; rw [h]; rfl
theorem vF_yes {ss : List ByteArray} {n : Int} (h : okF ss n = true) : vF ss n = freV ss n.toNat := by unfold vF; rw [h]; rfl

theorem max2_run (x y : Int) (w : World) : (Builtin.max_ #[3, 3] 3 #[.int .i64 x, .int .i64 y]).run Try.prog w = .ok (.int .i64 (max x y)) w := by
  have e : (if x < y then y else x) = max x y := by split <;> omega
  have h : (Builtin.max_ #[3, 3] 3 #[.int .i64 x, .int .i64 y]).run Try.prog w = .ok (.int .i64 (if x < y then y else x)) w := by
    simp [Builtin.max_, Builtin.max2]
  rw [h, e]

set_option maxHeartbeats 1000000 in
theorem mxI_any (v : Value) (zs : List Int) (w : World) (h : IntsA w v zs) (h1 : 1 ≤ zs.length) (h2 : zs.length ≤ 100) : Calls Try.prog 52 #[v] w fun e w' => ∃ M : Int, e = .returned (.int .i64 M) ∧ M ∈ zs ∧ (∀ z ∈ zs, z ≤ M) ∧ Ext w w' := by
  have H := Lib.hid h
  obtain ⟨a, cap, hv⟩ := h.at
  rw [hv] at H ⊢
  clear hv h
  obtain ⟨b, off, rfl, _, e0⟩ := H.out.get2 0 h1
  have h1i : ¬ (zs.length : Int) < 1 := by omega
  have h0i : (0 : Int) < (zs.length : Int) := by omega
  have HM0 := Lib.hid (show zs[0] ∈ zs ∧ ∀ j (hj : j < zs.length), j < 1 → zs[j] ≤ zs[0] from ⟨List.getElem_mem _, fun j hj hj1 => by obtain rfl : j = 0 := (by omega); exact Int.le_refl _⟩)
  obtain ⟨z0, hz0⟩ : ∃ z0, z0 = zs[0] := ⟨_, rfl⟩
  rw [← hz0, Nat.add_zero] at e0
  rw [← hz0] at HM0
  clear hz0
  go_enter Try.func52, Try.ntmps52
  go_wp2
  go_loopw [3, 4] (fun m i wr => ∃ (k : Nat) (M : Int), 1 ≤ k ∧ k ≤ zs.length ∧ i = .int .i64 k ∧ m = .int .i64 M ∧ M ∈ zs ∧ (∀ j (hj : j < zs.length), j < k → zs[j] ≤ M) ∧ Ext w wr) (fun _ i _ => zs.length - (intOf i).toNat)
  case atStart => exact ⟨1, z0, Nat.le_refl _, h1, rfl, rfl, HM0.out.1, HM0.out.2, Ext.refl _⟩
  case round =>
    obtain ⟨k, M, hk1, hk, rfl, rfl, hm, hall, hx⟩ := hrel
    have HA := Lib.hid (show M ∈ zs ∧ ∀ j (hj : j < zs.length), j < k → zs[j] ≤ M from ⟨hm, hall⟩)
    clear hm hall
    by_cases hlt : k < zs.length
    · have hli : (k : Int) < (zs.length : Int) := by omega
      obtain ⟨b', off', ha, _, e1⟩ := (H.out.ext hx).get2 k hlt
      obtain ⟨rfl, rfl⟩ : b = b' ∧ off = off' := by injection ha with e; injection e with e3 e4; exact ⟨e3, e4⟩
      clear ha
      have HN := Lib.hid (show max M zs[k] ∈ zs ∧ ∀ j (hj : j < zs.length), j < k + 1 → zs[j] ≤ max M zs[k] from by
        refine ⟨?_, fun j hj hjk => ?_⟩
        · rcases (by omega : max M zs[k] = M ∨ max M zs[k] = zs[k]) with e | e
          · rw [e]; exact HA.out.1
          · rw [e]; exact List.getElem_mem _
        · by_cases e : j = k
          · subst e; exact Int.le_max_right _ _
          · exact Int.le_trans (HA.out.2 j hj (by omega)) (Int.le_max_left _ _))
      obtain ⟨z, hz⟩ : ∃ z, z = zs[k] := ⟨_, rfl⟩
      rw [← hz] at e1 HN
      have hmx := fun w => max2_run M z w
      obtain ⟨X, hX⟩ : ∃ X, X = max M z := ⟨_, rfl⟩
      simp only [← hX] at hmx
      rw [← hX] at HN
      clear hz hX
      go_wp2
      go_roundw
      case rel => exact ⟨k + 1, X, by omega, by omega, by go_num, rfl, HN.out.1, HN.out.2, hx⟩
      case measure => simp [intOf]; omega
    · have hli : ¬ (k : Int) < (zs.length : Int) := by omega
      have HF := Lib.hid (show ∀ z ∈ zs, z ≤ M from fun z hz => by
        obtain ⟨j, hj, rfl⟩ := List.mem_iff_getElem.1 hz
        exact HA.out.2 j hj (by omega))
      go_wp2
      go_ret
      exact ⟨M, rfl, HA.out.1, HF.out, hx⟩

theorem max_short {ss : List ByteArray} {L : Nat} {M : Int} (h1 : M ∈ lenL ss) (h2 : ∀ z ∈ lenL ss, z ≤ M) : decide ((L : Int) < M) = !shortB ss L := by
  cases hs : shortB ss L
  · unfold shortB at hs
    rw [List.all_eq_false] at hs
    obtain ⟨c, hc, hn⟩ := hs
    have h3 : ¬ c.size ≤ L := by simpa using hn
    have := h2 (c.size : Int) (List.mem_map.2 ⟨c, hc, rfl⟩)
    exact decide_eq_true (by omega)
  · obtain ⟨c, hc, rfl⟩ := List.mem_map.1 h1
    have := short_mem hs c hc
    exact decide_eq_false (by omega)

set_option maxHeartbeats 1000000 in
theorem fnI_any (v : Value) (ss : List ByteArray) (n : Int) (w : World) (h : Strs w v ss) (hcap : CapOk v) : Calls Try.prog 20 #[v, .int .i64 n] w fun e w' => e = .returned (.tuple #[.int .i64 (vF ss n), .bool (okF ss n)]) ∧ Ext w w' := by
  have HS := Lib.hid h
  have HC := Lib.hid hcap
  clear h hcap
  cases h1 : plB ss
  · have HV := Lib.hid (okF_c (okC_p (n := n) h1))
    go_enter Try.func20, Try.ntmps20
    go_wp2_with (go_at_call 50; refine (isPl_any _ _ _ HS.out HC.out).mono ?_; rintro e w1 ⟨rfl, x1⟩; rw [h1])
    go_ret2
    exact ⟨ret_ib2 (vF_no HV.out).symm HV.out.symm, x1⟩
  cases h2 : inW n 1 6
  · have HV := Lib.hid (okF_c (okC_n (ss := ss) h2))
    go_enter Try.func20, Try.ntmps20
    go_wp2_with (first | (go_at_call 50; refine (isPl_any _ _ _ HS.out HC.out).mono ?_; rintro e w1 ⟨rfl, x1⟩; rw [h1]) | (go_at_call 51; refine (codeLong_any _ _).mono ?_; rintro e w' ⟨rfl, rfl⟩; rw [h2]))
    go_ret2
    exact ⟨ret_ib2 (vF_no HV.out).symm HV.out.symm, x1⟩
  have hb := inW_bnd h2
  obtain ⟨L, rfl⟩ : ∃ L : Nat, n = L := ⟨n.toNat, by omega⟩
  have HP := Lib.hid (plB_iff.1 h1)
  have hl1 := HP.out.l1
  have hl2 := HP.out.l2
  have HLL := Lib.hid (lenL_len ss)
  have HG := Lib.hid (show plB ss = true ∧ inW (L : Int) 1 6 = true from ⟨h1, h2⟩)
  have HB := Lib.hid (show 1 ≤ L ∧ L ≤ 6 by omega)
  have HY := Lib.hid (show okC ss (L : Int) = true from okC_y h1 h2)
  clear h1 h2 hb
  cases h3 : shortB ss L
  · have HV := Lib.hid (okF_s (ss := ss) (n := (L : Int)) (by rw [Int.toNat_natCast]; exact h3))
    have H3 := Lib.hid h3
    clear h3
    go_enter Try.func20, Try.ntmps20
    go_wp2_with (first | (go_at_call 50; refine (isPl_any _ _ _ HS.out HC.out).mono ?_; rintro e w1 ⟨rfl, x1⟩; rw [HG.out.1]) | (go_at_call 51; refine (codeLong_any _ _).mono ?_; rintro e w' ⟨rfl, rfl⟩; rw [HG.out.2]) | (go_at_call 53; refine (lensI_any _ _ _ (HS.out.ext x1) HP.out).mono ?_; rintro e w2 ⟨v2, rfl, r2, x2, g2, rfl, hg2⟩; have R2 := Lib.hid r2; have X2 := Lib.hid (x1.trans x2); clear r2 x2 hg2) | (go_at_call 52; refine (mxI_any _ (lenL ss) _ (rowI_ints R2.out (by rw [HLL.out]; unfold maxLen; omega)) (by rw [HLL.out]; omega) (by rw [HLL.out]; omega)).mono ?_; rintro e w3 ⟨M, rfl, m1, m2, x3⟩; have hM : decide ((L : Int) < M) = true := (by rw [max_short m1 m2, H3.out]; rfl); have hM2 : (L : Int) < M := of_decide_eq_true hM; clear m1 m2))
    go_ret2
    exact ⟨ret_ib2 (vF_no HV.out).symm HV.out.symm, X2.out.trans x3⟩
  · have HV := Lib.hid (okF_y HY.out (show shortB ss (L : Int).toNat = true by rw [Int.toNat_natCast]; exact h3))
    have HN := Lib.hid (vF_yes HV.out)
    rw [Int.toNat_natCast] at HN
    have H3 := Lib.hid h3
    clear h3
    go_enter Try.func20, Try.ntmps20
    go_wp2_with (first | (go_at_call 50; refine (isPl_any _ _ _ HS.out HC.out).mono ?_; rintro e w1 ⟨rfl, x1⟩; rw [HG.out.1]) | (go_at_call 51; refine (codeLong_any _ _).mono ?_; rintro e w' ⟨rfl, rfl⟩; rw [HG.out.2]) | (go_at_call 53; refine (lensI_any _ _ _ (HS.out.ext x1) HP.out).mono ?_; rintro e w2 ⟨v2, rfl, r2, x2, g2, rfl, hg2⟩; have R2 := Lib.hid r2; have X2 := Lib.hid (x1.trans x2); clear r2 x2 hg2) | (go_at_call 52; refine (mxI_any _ (lenL ss) _ (rowI_ints R2.out (by rw [HLL.out]; unfold maxLen; omega)) (by rw [HLL.out]; omega) (by rw [HLL.out]; omega)).mono ?_; rintro e w3 ⟨M, rfl, m1, m2, x3⟩; have hM : decide ((L : Int) < M) = false := (by rw [max_short m1 m2, H3.out]; rfl); have hM2 : ¬ (L : Int) < M := of_decide_eq_false hM; clear m1 m2) | (go_at_call 54; refine (cfI_any _ ss L _ (HS.out.ext (X2.out.trans x3)) HP.out HB.out.1 HB.out.2).mono ?_; rintro e w4 ⟨rfl, x4⟩))
    go_ret2
    exact ⟨ret_ib2 HN.out.symm HV.out.symm, (X2.out.trans x3).trans x4⟩

/-! ### The model's -/
set_option maxHeartbeats 1000000 in
theorem fnS_any (v : Value) (ss : List ByteArray) (n : Int) (w : World) (h : Strs w v ss) : Calls Try.prog 19 #[v, .int .i64 n] w fun e w' => e = .returned (.tuple #[.int .i64 (vF ss n), .bool (okF ss n)]) ∧ Ext w w' := by
  have HS := Lib.hid h
  obtain ⟨a, cap, hv, _⟩ := h.at
  rw [hv] at HS ⊢
  clear hv h v
  cases h1 : plB ss
  · have HV := Lib.hid (okF_c (okC_p (n := n) h1))
    go_enter Try.func19, Try.ntmps19
    go_wp2_with (go_at_call 47; refine (plGood_any _ _ _ HS.out).mono ?_; rintro e w1 ⟨rfl, x1⟩; rw [h1])
    go_ret2
    exact ⟨ret_ib2 (vF_no HV.out).symm HV.out.symm, x1⟩
  cases h2 : inW n 1 6
  · have HV := Lib.hid (okF_c (okC_n (ss := ss) h2))
    go_enter Try.func19, Try.ntmps19
    go_wp2_with (first | (go_at_call 47; refine (plGood_any _ _ _ HS.out).mono ?_; rintro e w1 ⟨rfl, x1⟩; rw [h1]) | (go_at_call 48; refine (plLong_any _ _).mono ?_; rintro e w' ⟨rfl, rfl⟩; rw [h2]))
    go_ret2
    exact ⟨ret_ib2 (vF_no HV.out).symm HV.out.symm, x1⟩
  have hb := inW_bnd h2
  obtain ⟨L, rfl⟩ : ∃ L : Nat, n = L := ⟨n.toNat, by omega⟩
  have HP := Lib.hid (plB_iff.1 h1)
  have hl2 := HP.out.l2
  have HG := Lib.hid (show plB ss = true ∧ inW (L : Int) 1 6 = true from ⟨h1, h2⟩)
  have hL : L ≤ 6 := by omega
  have HY := Lib.hid (show okC ss (L : Int) = true from okC_y h1 h2)
  have hp10 := ten_bd L (by omega)
  have HAN := Lib.hid (fun w => tens_any L w hL)
  have HFR := Lib.hid (fun h => short_fre (L := L) HP.out h)
  obtain ⟨x0, hx0⟩ : ∃ x : Nat, x = 10 ^ L := ⟨_, rfl⟩
  rw [← hx0] at hp10
  simp only [← hx0] at HAN HFR
  clear hx0 h1 h2 hb
  go_enter Try.func19, Try.ntmps19
  go_wp2_with (first | (go_at_call 47; refine (plGood_any _ _ _ HS.out).mono ?_; rintro e w1 ⟨rfl, x1⟩; rw [HG.out.1]) | (go_at_call 48; refine (plLong_any _ _).mono ?_; rintro e w' ⟨rfl, rfl⟩; rw [HG.out.2]) | (go_at_call 49; refine (HAN.out _).mono ?_; rintro e w' ⟨rfl, rfl⟩))
  go_loopw [6, 21] (fun f i wr => ∃ k : Nat, k ≤ ss.length ∧ i = .int .i64 k ∧ f = .int .i64 ((x0 : Int) - ((sumI (ss.take k) L : Nat) : Int)) ∧ (∀ j (hj : j < ss.length), j < k → ss[j].size ≤ L) ∧ Ext w wr) (fun _ i _ => ss.length - (intOf i).toNat)
  case atStart => exact ⟨0, Nat.zero_le _, rfl, by simp [sumI], fun j _ h => absurd h (Nat.not_lt_zero _), x1⟩
  case round =>
    obtain ⟨k, hk, rfl, rfl, hall, hx⟩ := hrel
    have HA := Lib.hid hall
    clear hall
    have hst2 : sumI (ss.take k) L ≤ 20000000 := by
      have := sumI_le ss hL k hk
      omega
    by_cases hlt : k < ss.length
    · obtain ⟨b, off, ha, e1⟩ := (HS.out.ext hx).get2 k hlt
      have HT := Lib.hid (sumI_take ss L k hlt)
      have HSN := Lib.hid (fun h => short_no (L := L) hlt h)
      by_cases hsz : L < ss[k].size
      · have HV := Lib.hid (okF_s (ss := ss) (n := (L : Int)) (by rw [Int.toNat_natCast]; exact HSN.out hsz))
        obtain ⟨s, hs⟩ : ∃ s, s = ss[k] := ⟨_, rfl⟩
        rw [← hs] at e1 hsz
        have h1b : (L : Int) < (s.size : Int) := by omega
        clear hs hsz
        subst ha
        go_wp2
        go_ret2
        exact ⟨ret_ib2 (vF_no HV.out).symm HV.out.symm, hx⟩
      · have HK := Lib.hid (show ss[k].size ≤ L by omega)
        obtain ⟨s, hs⟩ : ∃ s, s = ss[k] := ⟨_, rfl⟩
        rw [← hs] at e1 hsz HT
        have h1b : ¬ (L : Int) < (s.size : Int) := by omega
        obtain ⟨y, hy⟩ : ∃ y : Nat, y = sumI (ss.take k) L := ⟨_, rfl⟩
        rw [← hy] at hst2 HT ⊢
        obtain ⟨d, hd⟩ : ∃ d, d = L - s.size := ⟨_, rfl⟩
        have W : IntKind.i64.wrap ((L : Int) - (s.size : Int)) = (d : Int) := by simp only [IntKind.wrap_i64]; omega
        have hd6 : d ≤ 6 := by omega
        have hw := ten_bd d (by omega)
        have HCC := Lib.hid (fun w => tens_any d w hd6)
        have HE := Lib.hid (show nIn s L = 10 ^ d by rw [nIn_hi (by omega), hd])
        obtain ⟨x, hxx⟩ : ∃ x : Nat, x = 10 ^ d := ⟨_, rfl⟩
        simp only [← hxx] at HCC
        rw [← hxx] at HE hw
        have W1 : IntKind.i64.wrap ((x0 : Int) - (y : Int) - (x : Int)) = (x0 : Int) - (y : Int) - (x : Int) := by simp only [IntKind.wrap_i64]; omega
        have HN1 := Lib.hid (show ((x0 : Int) - ((sumI (ss.take (k + 1)) L : Nat) : Int)) = (x0 : Int) - (y : Int) - (x : Int) from by
          rw [HT.out, HE.out]
          omega)
        clear hs hd hxx hsz hy
        subst ha
        go_wp2_with (go_at_call 49; refine (HCC.out _).mono ?_; rintro e w' ⟨rfl, rfl⟩)
        go_roundw
        case rel =>
          refine ⟨k + 1, by omega, by go_num, by rw [HN1.out], fun j hj hjk => ?_, hx⟩
          by_cases e : j = k
          · subst e; exact HK.out
          · exact HA.out j hj (by omega)
        case measure => simp [intOf]; omega
    · have HT := Lib.hid (show ss.take k = ss from List.take_of_length_le (by omega))
      have HSH := Lib.hid (show shortB ss L = true from List.all_eq_true.2 fun c hc => by
        obtain ⟨j, hj, rfl⟩ := List.mem_iff_getElem.1 hc
        exact decide_eq_true (HA.out j hj (by omega)))
      have HV := Lib.hid (okF_y HY.out (show shortB ss (L : Int).toNat = true by rw [Int.toNat_natCast]; exact HSH.out))
      have HN := Lib.hid (vF_yes HV.out)
      rw [Int.toNat_natCast, HFR.out HSH.out] at HN
      rw [HT.out]
      obtain ⟨y, hy⟩ : ∃ y : Nat, y = sumI ss L := ⟨_, rfl⟩
      rw [← hy] at HN ⊢
      clear hy
      go_wp2
      go_ret2
      exact ⟨ret_ib2 HN.out.symm HV.out.symm, hx⟩

end Go.Proofs.Ytinojlbnmnlmhab
