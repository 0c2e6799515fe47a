/- CountFreeCodes and FreeNumbers, at both sides. No conditions. -/
import Derived.Test.YtinojlbnmnlmhabFre
namespace Go.Proofs.Ytinojlbnmnlmhab
open Go.RowKit

theorem shs_take (ss : List ByteArray) (L k : Nat) (h : k < ss.length) : shs (ss.take (k + 1)) L = shs (ss.take k) L ++ (if ss[k].size ≤ L then [ss[k]] else []) := by
  unfold shs
  rw [takeS ss k h, List.filter_append]
  by_cases e : ss[k].size ≤ L <;> simp [e]
theorem lgs_take (ss : List ByteArray) (L k : Nat) (h : k < ss.length) : lgs (ss.take (k + 1)) L = lgs (ss.take k) L ++ (if ss[k].size ≤ L then [] else [ss[k].extract 0 L]) := by
  unfold lgs
  rw [takeS ss k h, List.filter_append, List.map_append]
  by_cases e : ss[k].size ≤ L <;> simp [e]
theorem sumI_app (a b : List ByteArray) (L : Nat) : sumI (a ++ b) L = sumI a L + sumI b L := by
  unfold sumI
  rw [List.map_append, List.sum_append_nat]
theorem sumI_one (s : ByteArray) (L : Nat) : sumI [s] L = nIn s L := by unfold sumI; simp
theorem shs_len (ss : List ByteArray) (L : Nat) : (shs ss L).length ≤ ss.length := List.length_filter_le _ _
theorem lgs_len (ss : List ByteArray) (L : Nat) : (lgs ss L).length ≤ ss.length := by
  unfold lgs
  rw [List.length_map]
  exact List.length_filter_le _ _
theorem lgs_size {ss : List ByteArray} {L : Nat} {t : ByteArray} (h : t ∈ lgs ss L) : t.size ≤ L := by
  obtain ⟨c, hc, rfl⟩ := List.mem_map.1 h
  have := (List.mem_filter.1 hc).2
  have h3 : ¬ c.size ≤ L := by simpa using this
  rw [ext_size (by omega)]
  exact Nat.le_refl _

set_option maxRecDepth 100000 in
set_option maxHeartbeats 2000000 in
theorem cfS_any (v : Value) (ss : List ByteArray) (L : Nat) (w : World) (h : Strs w v ss) (hp : PlB ss) (hL1 : 1 ≤ L) (hL : L ≤ 6) : Calls Try.prog 55 #[v, .int .i64 L] w fun e w' => e = .returned (.int .i64 (freV ss L)) ∧ Ext w w' := by
  have HS := Lib.hid h
  have hl1 := hp.l1
  have hl2 := hp.l2
  have HV := Lib.hid (show freV ss L = ((10 ^ L : Nat) : Int) - ((sumI (shs ss L) L : Nat) : Int) - (((putAll (lgs ss L)).length : Nat) : Int) from by
    show ((10 ^ L : Nat) : Int) - (sumI (putAll (sts ss L)) L : Nat) = _
    rw [free_sum hp L]
    omega)
  obtain ⟨a, cap, hv, _⟩ := h.at
  rw [hv] at HS ⊢
  clear hv h hp v
  have hp10 := ten_bd L (by omega)
  have HAN := Lib.hid (fun w => tens_any L w hL)
  obtain ⟨x0, hx0⟩ : ∃ x : Nat, x = 10 ^ L := ⟨_, rfl⟩
  rw [← hx0] at HV hp10
  simp only [← hx0] at HAN
  clear hx0
  go_enter Try.func55, Try.ntmps55
  go_wp2_with (go_at_call 49; refine (HAN.out _).mono ?_; rintro e w' ⟨rfl, rfl⟩)
  go_loopw [5, 6, 13] (fun f o i wr => ∃ k : Nat, k ≤ ss.length ∧ i = .int .i64 k ∧ f = .int .i64 ((x0 : Int) - ((sumI (shs (ss.take k) L) L : Nat) : Int)) ∧ RowS w.heap.size wr o (putAll (lgs (ss.take k) L)) ∧ ((putAll (lgs (ss.take k) L)).length = 0 → o = .slice none 0 0) ∧ Ext w wr) (fun _ _ i _ => ss.length - (intOf i).toNat)
  case atStart => exact ⟨0, Nat.zero_le _, rfl, by simp [shs, sumI], RowS.nil _ _, fun _ => rfl, Ext.refl _⟩
  case round =>
    obtain ⟨k, hk, rfl, rfl, hr, hn, hx⟩ := hrel
    have HR := Lib.hid hr
    have HN := Lib.hid hn
    clear hr hn
    have hst := sumI_top (shs (ss.take k) L) hL
    have hst2 : sumI (shs (ss.take k) L) L ≤ 20000000 := by
      have := shs_len (ss.take k) L
      rw [List.length_take] at this
      omega
    have HPL := Lib.hid (show (putAll (lgs (ss.take k) L)).length ≤ 20 by
      have h1 := putAll_le (lgs (ss.take k) L)
      have h2 := lgs_len (ss.take k) L
      rw [List.length_take] at h2
      omega)
    by_cases hlt : k < ss.length
    · obtain ⟨b, off, ha, e1⟩ := (HS.out.ext hx).get2 k hlt
      have HT1 := Lib.hid (shs_take ss L k hlt)
      have HT2 := Lib.hid (lgs_take ss L k hlt)
      obtain ⟨s, hs⟩ : ∃ s, s = ss[k] := ⟨_, rfl⟩
      rw [← hs] at e1 HT1 HT2
      clear hs
      obtain ⟨y, hy⟩ : ∃ y : Nat, y = sumI (shs (ss.take k) L) L := ⟨_, rfl⟩
      have HY := Lib.hid hy
      rw [← hy] at hst2 ⊢
      clear hy hst
      subst ha
      by_cases hsz : s.size ≤ L
      · have h1 : (s.size : Int) ≤ (L : Int) := by omega
        have h1b : ¬ (L : Int) < (s.size : Int) := by omega
        obtain ⟨d, hd⟩ : ∃ d, d = L - s.size := ⟨_, rfl⟩
        have W : IntKind.i64.wrap ((L : Int) - (s.size : Int)) = (d : Int) := by simp only [IntKind.wrap_i64]; omega
        have hd6 : d ≤ 6 := by omega
        have hw := ten_bd d (by omega)
        have HCC := Lib.hid (fun w => tens_any d w hd6)
        have HE := Lib.hid (show nIn s L = 10 ^ d by rw [nIn_hi (by omega), hd])
        obtain ⟨x, hxx⟩ : ∃ x : Nat, x = 10 ^ d := ⟨_, rfl⟩
        simp only [← hxx] at HCC
        rw [← hxx] at HE hw
        have W1 : IntKind.i64.wrap ((x0 : Int) - (y : Int) - (x : Int)) = (x0 : Int) - (y : Int) - (x : Int) := by simp only [IntKind.wrap_i64]; omega
        have HN1 := Lib.hid (show ((x0 : Int) - ((sumI (shs (ss.take (k + 1)) L) L : Nat) : Int)) = (x0 : Int) - (y : Int) - (x : Int) from by
          rw [HT1.out, if_pos hsz, sumI_app, sumI_one, ← HY.out, HE.out]
          omega)
        have HN2 := Lib.hid (show lgs (ss.take (k + 1)) L = lgs (ss.take k) L by rw [HT2.out, if_pos hsz, List.append_nil])
        clear hd hxx hsz
        go_wp2_with (go_at_call 49; refine (HCC.out _).mono ?_; rintro e w' ⟨rfl, rfl⟩)
        go_roundw
        case rel => exact ⟨k + 1, by omega, by go_num, by rw [HN1.out], by rw [HN2.out]; exact HR.out, by rw [HN2.out]; exact HN.out, hx⟩
        case measure => simp [intOf]; omega
      · have h1 : ¬ (s.size : Int) ≤ (L : Int) := by omega
        have h1b : (L : Int) < (s.size : Int) := by omega
        have hLs : L ≤ s.size := by omega
        have hLi : (L : Int) ≤ (s.size : Int) := by omega
        obtain ⟨E, hE⟩ : ∃ E, E = s.extract 0 L := ⟨_, rfl⟩
        have hsl := fun w => slB_to s L hLs w
        simp only [← hE] at hsl
        have HN1 := Lib.hid (show ((x0 : Int) - ((sumI (shs (ss.take (k + 1)) L) L : Nat) : Int)) = (x0 : Int) - (y : Int) from by
          rw [HT1.out, if_neg hsz, List.append_nil, ← HY.out])
        have HN2 := Lib.hid (show putAll (lgs (ss.take (k + 1)) L) = putL (putAll (lgs (ss.take k) L)) E by rw [HT2.out, if_neg hsz, putAll_snoc, hE])
        have HPO := Lib.hid (show 0 < (putAll (lgs (ss.take (k + 1)) L)).length from by
          rw [HN2.out]
          exact List.length_pos_of_mem ((putL_mem _ _ E).2 (.inr rfl)))
        have HM := Lib.hid (show ∀ t ∈ putAll (lgs (ss.take k) L), t.size ≤ maxLen from fun t ht => by
          have := lgs_size ((putAll_mem _ t).1 ht)
          unfold maxLen
          omega)
        clear hE hsz
        by_cases h0 : (putAll (lgs (ss.take k) L)).length = 0
        · have HE := Lib.hid (List.eq_nil_of_length_eq_zero h0)
          obtain rfl := HN.out h0
          clear h0
          go_wp2_with (go_at_call 40; refine (wdPut_nil _ _).mono ?_; rintro e w9 ⟨v9, rfl, r9, x9⟩)
          go_roundw
          case rel => exact ⟨k + 1, by omega, by go_num, by rw [HN1.out], by rw [HN2.out, HE.out]; exact r9.down hx.size, fun h => absurd HPO.out (by omega), hx.trans x9⟩
          case measure => simp [intOf]; omega
        · have hpos : 0 < (putAll (lgs (ss.take k) L)).length := by omega
          have hle : (putAll (lgs (ss.take k) L)).length ≤ 100 := by have := HPL.out; omega
          clear h0
          go_wp2_with (go_at_call 40; refine (wdPut_any w.heap.size _ _ _ _ HR.out hx.size hle HM.out hpos).mono ?_; rintro e w9 ⟨v9, rfl, r9, x9, _⟩)
          go_roundw
          case rel => exact ⟨k + 1, by omega, by go_num, by rw [HN1.out], by rw [HN2.out]; exact r9, fun h => absurd HPO.out (by omega), hx.trans x9⟩
          case measure => simp [intOf]; omega
    · have HT := Lib.hid (show ss.take k = ss from List.take_of_length_le (by omega))
      rw [HT.out] at HR HPL hst2 ⊢
      obtain ⟨a3, cap3, ho3⟩ := HR.out.shape
      subst ho3
      obtain ⟨y, hy⟩ : ∃ y : Nat, y = sumI (shs ss L) L := ⟨_, rfl⟩
      obtain ⟨z, hz⟩ : ∃ z : Nat, z = (putAll (lgs ss L)).length := ⟨_, rfl⟩
      rw [← hy, ← hz] at HV
      rw [← hy] at hst2 ⊢
      rw [← hz] at HPL ⊢
      have hz20 := HPL.out
      clear hy hz hst
      have W1 : IntKind.i64.wrap ((x0 : Int) - (y : Int) - (z : Int)) = (x0 : Int) - (y : Int) - (z : Int) := by simp only [IntKind.wrap_i64]; omega
      go_wp2
      go_ret
      exact ⟨ret_intF HV.out.symm, hx⟩

set_option maxHeartbeats 1000000 in
theorem ccI_any (v : Value) (ss : List ByteArray) (n : Int) (w : World) (h : Strs w v ss) (hcap : CapOk v) : Calls Try.prog 22 #[v, .int .i64 n] w fun e w' => e = .returned (.tuple #[.int .i64 (vC ss n), .bool (okC ss n)]) ∧ Ext w w' := by
  have HS := Lib.hid h
  have HC := Lib.hid hcap
  clear h hcap
  cases h1 : plB ss
  · have HV := Lib.hid (okC_p (n := n) h1)
    go_enter Try.func22, Try.ntmps22
    go_wp2_with (go_at_call 50; refine (isPl_any _ _ _ HS.out HC.out).mono ?_; rintro e w1 ⟨rfl, x1⟩; rw [h1])
    go_ret2
    exact ⟨ret_ib2 (vC_no HV.out).symm HV.out.symm, x1⟩
  cases h2 : inW n 1 6
  · have HV := Lib.hid (okC_n (ss := ss) h2)
    go_enter Try.func22, Try.ntmps22
    go_wp2_with (first | (go_at_call 50; refine (isPl_any _ _ _ HS.out HC.out).mono ?_; rintro e w1 ⟨rfl, x1⟩; rw [h1]) | (go_at_call 51; refine (codeLong_any _ _).mono ?_; rintro e w' ⟨rfl, rfl⟩; rw [h2]))
    go_ret2
    exact ⟨ret_ib2 (vC_no HV.out).symm HV.out.symm, x1⟩
  have hb := inW_bnd h2
  obtain ⟨L, rfl⟩ : ∃ L : Nat, n = L := ⟨n.toNat, by omega⟩
  have HV := Lib.hid (okC_y h1 h2)
  have HN := Lib.hid (vC_yes (okC_y h1 h2))
  rw [Int.toNat_natCast] at HN
  have HP := Lib.hid (plB_iff.1 h1)
  have HG := Lib.hid (show plB ss = true ∧ inW (L : Int) 1 6 = true from ⟨h1, h2⟩)
  have HB := Lib.hid (show 1 ≤ L ∧ L ≤ 6 by omega)
  clear h1 h2 hb
  go_enter Try.func22, Try.ntmps22
  go_wp2_with (first | (go_at_call 50; refine (isPl_any _ _ _ HS.out HC.out).mono ?_; rintro e w1 ⟨rfl, x1⟩; rw [HG.out.1]) | (go_at_call 51; refine (codeLong_any _ _).mono ?_; rintro e w' ⟨rfl, rfl⟩; rw [HG.out.2]) | (go_at_call 54; refine (cfI_any _ ss L _ (HS.out.ext x1) HP.out HB.out.1 HB.out.2).mono ?_; rintro e w2 ⟨rfl, x2⟩))
  go_ret2
  exact ⟨ret_ib2 HN.out.symm HV.out.symm, x1.trans x2⟩
set_option maxHeartbeats 1000000 in
theorem ccS_any (v : Value) (ss : List ByteArray) (n : Int) (w : World) (h : Strs w v ss) : Calls Try.prog 21 #[v, .int .i64 n] w fun e w' => e = .returned (.tuple #[.int .i64 (vC ss n), .bool (okC ss n)]) ∧ Ext w w' := by
  have HS := Lib.hid h
  clear h
  cases h1 : plB ss
  · have HV := Lib.hid (okC_p (n := n) h1)
    go_enter Try.func21, Try.ntmps21
    go_wp2_with (go_at_call 47; refine (plGood_any _ _ _ HS.out).mono ?_; rintro e w1 ⟨rfl, x1⟩; rw [h1])
    go_ret2
    exact ⟨ret_ib2 (vC_no HV.out).symm HV.out.symm, x1⟩
  cases h2 : inW n 1 6
  · have HV := Lib.hid (okC_n (ss := ss) h2)
    go_enter Try.func21, Try.ntmps21
    go_wp2_with (first | (go_at_call 47; refine (plGood_any _ _ _ HS.out).mono ?_; rintro e w1 ⟨rfl, x1⟩; rw [h1]) | (go_at_call 48; refine (plLong_any _ _).mono ?_; rintro e w' ⟨rfl, rfl⟩; rw [h2]))
    go_ret2
    exact ⟨ret_ib2 (vC_no HV.out).symm HV.out.symm, x1⟩
  have hb := inW_bnd h2
  obtain ⟨L, rfl⟩ : ∃ L : Nat, n = L := ⟨n.toNat, by omega⟩
  have HV := Lib.hid (okC_y h1 h2)
  have HN := Lib.hid (vC_yes (okC_y h1 h2))
  rw [Int.toNat_natCast] at HN
  have HP := Lib.hid (plB_iff.1 h1)
  have HG := Lib.hid (show plB ss = true ∧ inW (L : Int) 1 6 = true from ⟨h1, h2⟩)
  have HB := Lib.hid (show 1 ≤ L ∧ L ≤ 6 by omega)
  clear h1 h2 hb
  go_enter Try.func21, Try.ntmps21
  go_wp2_with (first | (go_at_call 47; refine (plGood_any _ _ _ HS.out).mono ?_; rintro e w1 ⟨rfl, x1⟩; rw [HG.out.1]) | (go_at_call 48; refine (plLong_any _ _).mono ?_; rintro e w' ⟨rfl, rfl⟩; rw [HG.out.2]) | (go_at_call 55; refine (cfS_any _ ss L _ (HS.out.ext x1) HP.out HB.out.1 HB.out.2).mono ?_; rintro e w2 ⟨rfl, x2⟩))
  go_ret2
  exact ⟨ret_ib2 HN.out.symm HV.out.symm, x1.trans x2⟩

end Go.Proofs.Ytinojlbnmnlmhab
