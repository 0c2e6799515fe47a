/- SplitCode, at both sides. No conditions. -/
import Derived.Test.YtinojlbnmnlmhabSpl
namespace Go.Proofs.Ytinojlbnmnlmhab
open Go.RowKit

theorem rowT_holds {B : Nat} {w : World} {g n : Nat} {l : List ByteArray} (h : RowT B w g n l) (hl : l.length = n) : HoldsS w ⟨g, 0, none⟩ l := by
  refine ⟨(World.ownsRow.lt h g rfl).2, fun j u hu => ?_⟩
  rw [List.getElem?_map] at hu
  by_cases hj : j < l.length
  · rw [List.getElem?_eq_getElem hj] at hu
    injection hu with hu
    subst hu
    rw [addr_add, Nat.zero_add]
    exact (h.at j (by omega) hl).1
  · rw [List.getElem?_eq_none (by omega)] at hu; cases hu

set_option maxRecDepth 100000 in
set_option maxHeartbeats 1000000 in
theorem spI_any (v : Value) (ss : List ByteArray) (c : ByteArray) (w : World) (h : Strs w v ss) (_hs : c.size ≤ maxLen) (hcap : CapOk v) : Calls Try.prog 15 #[v, .string c] w (ResS (vS ss c) (okS ss c) w) := by
  have HS := Lib.hid h
  have HC := Lib.hid hcap
  clear h hcap
  cases h1 : plHas ss c
  · have HV := Lib.hid (okS_p h1)
    go_enter Try.func15, Try.ntmps15
    go_wp2_with (go_at_call 42; refine (codeOf_any _ _ _ _ HS.out HC.out).mono ?_; rintro e w' ⟨rfl, x1⟩; rw [h1])
    go_ret2
    exact ⟨_, ret_vb HV.out.symm, by rw [vS_no HV.out]; exact RowS.nil _ _, x1⟩
  have HP := Lib.hid (plHas_of h1)
  have HD := Lib.hid (split_mp h1)
  have HKL := Lib.hid (keptB_len c ss)
  have hl2 := HP.out.1.l2
  have hc100 : c.size ≤ 100 := by have := isDg_size (HP.out.1.cd c HP.out.2); omega
  have HT10 := Lib.hid (ten_len c)
  obtain ⟨T, hT⟩ : ∃ T, T = ten c := ⟨_, rfl⟩
  have HTT := Lib.hid hT
  obtain ⟨l, hl⟩ : ∃ l, l = keptB c ss ++ ten c := ⟨_, rfl⟩
  have HL := Lib.hid hl
  have hll : l.length ≤ 30 := by rw [hl, List.length_append, ten_len]; have := HKL.out; omega
  have HZ := Lib.hid (show ∀ t ∈ l, t.size ≤ maxLen from fun t ht => by
    rw [hl] at ht
    rcases List.mem_append.1 ht with h1 | h1
    · exact HS.out.2.1 t (keptB_mem h1)
    · rw [ten_size h1]; unfold maxLen; omega)
  rw [← hl] at HD
  rw [← hT] at HT10 HL
  have HG := Lib.hid h1
  clear h1 hl hT
  go_enter Try.func15, Try.ntmps15
  go_wp2_with (first | (go_at_call 42; refine (codeOf_any _ _ _ _ HS.out HC.out).mono ?_; rintro e w1 ⟨rfl, x1⟩; rw [HG.out]) | (go_at_call 45; refine (oneL_any c _ hc100).mono ?_; rintro e w2 ⟨g2, rfl, r2, x2⟩; rw [← HTT.out] at r2; rw [← HTT.out]; have R2 := Lib.hid r2; have X2 := Lib.hid (x1.trans x2); clear r2 x2) | (go_at_call 44; refine (excS_any _ ss c ⟨g2, 0, none⟩ T.length T.length T _ (HS.out.ext X2.out) HP.out.1.l1 hl2 rfl (by rw [HT10.out]; omega) (rowT_holds R2.out rfl)).mono ?_; rintro e w4 ⟨v4, rfl, r4, x4⟩; rw [← HL.out] at r4; have R4 := Lib.hid r4; have X4 := Lib.hid (X2.out.trans x4); clear r4 x4) | (go_at_call 43; refine (mkpl_any _ l _ (R4.out.strs (by unfold maxLen; omega) HZ.out)).mono ?_; rintro e w5 ⟨v5, rfl, r5, x5⟩; have R5 := Lib.hid r5; clear r5))
  go_ret2
  exact ⟨_, ret_vb HD.out.1, by rw [← HD.out.2]; exact R5.out.down X4.out.size, X4.out.trans x5⟩

/-! ### The model's -/
set_option maxRecDepth 100000 in
set_option maxHeartbeats 1000000 in
theorem plDrop2_any (v : Value) (ss : List ByteArray) (s : ByteArray) (w : World) (h : Strs w v ss) (h20 : ss.length ≤ 20) : Calls Try.prog 39 #[v, .string s] w fun e w' => ∃ v, e = .returned v ∧ RowS w.heap.size w' v (less1 ss s) ∧ Ext w w' ∧ ((less1 ss s).length = 0 → v = .slice none 0 0) := by
  have HS := Lib.hid h
  obtain ⟨a, cap, hv, _⟩ := h.at
  rw [hv] at HS ⊢
  clear hv h v
  go_enter Try.func39, Try.ntmps39
  go_wp2
  go_loopw [5, 10] (fun o i wr => ∃ k : Nat, k ≤ ss.length ∧ i = .int .i64 k ∧ RowS w.heap.size wr o (less1 (ss.take k) s) ∧ Ext w wr ∧ ((less1 (ss.take k) s).length = 0 → o = .slice none 0 0)) (fun _ i _ => ss.length - (intOf i).toNat)
  case atStart => exact ⟨0, Nat.zero_le _, rfl, RowS.nil _ _, Ext.refl _, fun _ => rfl⟩
  case round =>
    obtain ⟨k, hk, rfl, hr, hx, hn⟩ := hrel
    have HNL := Lib.hid hn
    clear hn
    have HR := Lib.hid hr
    clear hr
    by_cases hlt : k < ss.length
    · obtain ⟨b, off, ha, e1⟩ := (HS.out.ext hx).get2 k hlt
      have HLN := Lib.hid (show (less1 (ss.take k) s).length ≤ 1000000 from Nat.le_trans (less1_len _ _) (by rw [List.length_take]; omega))
      subst ha
      by_cases he : ss[k] = s
      · have HN := Lib.hid (less1_yes (s := s) (h := hlt) he)
        obtain ⟨t, ht⟩ : ∃ t, t = ss[k] := ⟨_, rfl⟩
        rw [← ht] at e1 he
        have t1 : (t.toList == s.toList) = true := by rw [beqT, decide_eq_true he]
        clear ht he
        go_wp2
        go_roundw
        case rel => exact ⟨k + 1, by omega, by go_num, by rw [HN.out]; exact HR.out, hx, by rw [HN.out]; exact HNL.out⟩
        case measure => simp [intOf]; omega
      · have HN := Lib.hid (less1_no (s := s) (h := hlt) he)
        obtain ⟨t, ht⟩ : ∃ t, t = ss[k] := ⟨_, rfl⟩
        rw [← ht] at e1 he HN
        have t1 : (t.toList == s.toList) = false := by rw [beqT, decide_eq_false he]
        clear ht he
        go_wp2_with (at_builtin; refine app_str rfl _ _ rfl w w.heap.size _ _ _ _ rfl (by exact HR.out) hx (Nat.le_refl _) hx.size (by exact HLN.out) rfl ?_; intro v9 w9 r9 x9 _)
        go_roundw
        case rel => exact ⟨k + 1, by omega, by go_num, by rw [HN.out]; exact r9, x9, fun h => by rw [HN.out, List.length_append] at h; simp at h⟩
        case measure => simp [intOf]; omega
    · have HT := Lib.hid (show ss.take k = ss from List.take_of_length_le (by omega))
      rw [HT.out] at HR HNL
      go_wp2
      go_ret
      exact ⟨_, rfl, HR.out, hx, HNL.out⟩

/-- The first so many of the ten, put where they belong. -/
def ptT (ss : List ByteArray) (c : ByteArray) (k : Nat) : List ByteArray := ((ten c).take k).foldl putL (less1 ss c)
theorem ptT_zero (ss : List ByteArray) (c : ByteArray) : ptT ss c 0 = less1 ss c := rfl
theorem ptT_step (ss : List ByteArray) (c : ByteArray) (k : Nat) (h : k < 10) : ptT ss c (k + 1) = putL (ptT ss c k) (c ++ dg1T k) := by
  unfold ptT
  rw [takeS (ten c) k (by rw [ten_len]; exact h), List.foldl_append, ten_at c k h]
  rfl
theorem ptT_ten (ss : List ByteArray) (c : ByteArray) : ptT ss c 10 = (ten c).foldl putL (less1 ss c) := by
  unfold ptT
  rw [List.take_of_length_le (by rw [ten_len]; omega)]
theorem ptT_len (ss : List ByteArray) (c : ByteArray) : ∀ k, k ≤ 10 → (ptT ss c k).length ≤ ss.length + k
  | 0, _ => less1_len ss c
  | k + 1, h => by
    have := ptT_len ss c k (by omega)
    have := putL_len (ptT ss c k) (c ++ dg1T k)
    rw [ptT_step ss c k (by omega)]
    omega
theorem ptT_mem {ss : List ByteArray} {c t : ByteArray} {k : Nat} (h : t ∈ ptT ss c k) : t ∈ ss ∨ t.size = c.size + 1 := by
  rcases (fold_mem _ _ _).1 h with h | h
  · exact .inl (less1_mem h)
  · exact .inr (ten_size (List.mem_of_mem_take h))
theorem ptT_pos {ss : List ByteArray} {c : ByteArray} {k : Nat} (h : 0 < k) (h2 : k ≤ 10) : 0 < (ptT ss c k).length := by
  have hm : (ten c)[0]'(by rw [ten_len]; omega) ∈ (ten c).take k := List.mem_iff_getElem.2 ⟨0, by rw [List.length_take, ten_len]; omega, by rw [List.getElem_take]⟩
  exact List.length_pos_of_mem ((fold_mem ((ten c).take k) (less1 ss c) _).2 (.inr hm))

set_option maxRecDepth 100000 in
set_option maxHeartbeats 2000000 in
theorem spS_any (v : Value) (ss : List ByteArray) (c : ByteArray) (w : World) (h : Strs w v ss) (_hs : c.size ≤ maxLen) : Calls Try.prog 13 #[v, .string c] w (ResS (vS ss c) (okS ss c) w) := by
  have HS := Lib.hid h
  obtain ⟨a, cap, hv, _⟩ := h.at
  rw [hv] at HS ⊢
  clear hv h v
  cases h1 : plHas ss c
  · have HV := Lib.hid (okS_p h1)
    go_enter Try.func13, Try.ntmps13
    go_wp2_with (go_at_call 38; refine (plHas_any _ _ _ _ HS.out).mono ?_; rintro e w' ⟨rfl, x1⟩; rw [h1])
    go_ret2
    exact ⟨_, ret_vb HV.out.symm, by rw [vS_no HV.out]; exact RowS.nil _ _, x1⟩
  have HP := Lib.hid (plHas_of h1)
  have hl2 := HP.out.1.l2
  have hz := isDg_size (HP.out.1.cd c HP.out.2)
  have HG := Lib.hid h1
  by_cases h6 : c.size = 6
  · have HV := Lib.hid (okS_6 (ss := ss) h6)
    have t1 : ((c.size : Int) == 6) = true := by simp [h6]
    clear h1 h6 hz
    go_enter Try.func13, Try.ntmps13
    go_wp2_with (go_at_call 38; refine (plHas_any _ _ _ _ HS.out).mono ?_; rintro e w' ⟨rfl, x1⟩; rw [HG.out])
    go_ret2
    exact ⟨_, ret_vb HV.out.symm, by rw [vS_no HV.out]; exact RowS.nil _ _, x1⟩
  have t1 : ((c.size : Int) == 6) = false := by simp; omega
  obtain ⟨n9, hn9⟩ : ∃ n9 : Nat, n9 = ss.length + 9 := ⟨_, rfl⟩
  have W9 : IntKind.i64.wrap ((ss.length : Int) + 9) = (n9 : Int) := by simp only [IntKind.wrap_i64]; omega
  by_cases h20 : ss.length + 9 ≤ 20
  rotate_left
  · have HV := Lib.hid (okS_l (c := c) (ss := ss) (by omega))
    have g1 : (20 : Int) < (n9 : Int) := by omega
    clear h1 h6 hz hn9
    go_enter Try.func13, Try.ntmps13
    go_wp2_with (go_at_call 38; refine (plHas_any _ _ _ _ HS.out).mono ?_; rintro e w' ⟨rfl, x1⟩; rw [HG.out])
    go_ret2
    exact ⟨_, ret_vb HV.out.symm, by rw [vS_no HV.out]; exact RowS.nil _ _, x1⟩
  have HV := Lib.hid (okS_y h1 h6 h20)
  have g1 : ¬ (20 : Int) < (n9 : Int) := by omega
  have HSS := Lib.hid (fun k (hk : k ≤ 10) => ptT_len ss c k hk)
  have HMM := Lib.hid (show ∀ k, ∀ t ∈ ptT ss c k, t.size ≤ maxLen from fun k t ht => by
    rcases ptT_mem ht with h | h
    · exact HS.out.2.1 t h
    · rw [h]; unfold maxLen; omega)
  have HCZ := Lib.hid (show c.size ≤ 6 by omega)
  clear h1 h6 hz hn9
  go_enter Try.func13, Try.ntmps13
  go_wp2_with (first | (go_at_call 38; refine (plHas_any _ _ _ _ HS.out).mono ?_; rintro e w1 ⟨rfl, x1⟩; rw [HG.out]) | (go_at_call 39; refine (plDrop2_any _ ss c _ (HS.out.ext x1) hl2).mono ?_; rintro e w2 ⟨v2, rfl, r2, x2, n2⟩; have R2 := Lib.hid (r2.down x1.size); have N2 := Lib.hid n2; have X2 := Lib.hid (x1.trans x2); clear r2 n2 x2))
  clear W9 g1 t1
  go_loopw [6, 7] (fun o i wr => ∃ k : Nat, k ≤ 10 ∧ i = .int .i64 k ∧ RowS w.heap.size wr o (ptT ss c k) ∧ ((ptT ss c k).length = 0 → o = .slice none 0 0) ∧ Ext w wr) (fun _ i _ => 10 - (intOf i).toNat)
  case atStart => exact ⟨0, Nat.zero_le _, rfl, R2.out, N2.out, X2.out⟩
  case round =>
    obtain ⟨k, hk, rfl, hr, hn, hx⟩ := hrel
    have HR := Lib.hid hr
    have HN := Lib.hid hn
    clear hr hn
    by_cases hlt : k < 10
    · have hki : (k : Int) < 10 := by omega
      have HST := Lib.hid (ptT_step ss c k hlt)
      have HPO := Lib.hid (show 0 < (ptT ss c (k + 1)).length from ptT_pos (by omega) hlt)
      obtain ⟨D, hD⟩ : ∃ D, D = dg1T k := ⟨_, rfl⟩
      have hDs : D.size = 1 := by rw [hD]; rfl
      have HNUM := Lib.hid (fun w => l1NumD_any k w hlt)
      rw [← hD] at HST
      simp only [← hD] at HNUM
      have hsz : ¬ (9223372036854775807 : Int) < (c.size : Int) + (D.size : Int) := by have := HCZ.out; omega
      have hsz2 : ¬ 9223372036854775807 < c.size + D.size := by have := HCZ.out; omega
      have HDS := Lib.hid hDs
      clear hD hDs
      by_cases h0 : (ptT ss c k).length = 0
      · have HE := Lib.hid (List.eq_nil_of_length_eq_zero h0)
        obtain rfl := HN.out h0
        clear h0
        go_wp2_with (first | (go_at_call 41; refine (HNUM.out _).mono ?_; rintro e w5 ⟨rfl, x5⟩) | (go_at_call 40; refine (wdPut_nil _ _).mono ?_; rintro e w9 ⟨v9, rfl, r9, x9⟩))
        go_roundw
        case rel => exact ⟨k + 1, by omega, by go_num, by rw [HST.out, HE.out]; exact r9.down (hx.trans x5).size, fun h => absurd HPO.out (by omega), (hx.trans x5).trans x9⟩
        case measure => simp [intOf]; omega
      · have hpos : 0 < (ptT ss c k).length := by omega
        have hle : (ptT ss c k).length ≤ 100 := by have := HSS.out k hk; omega
        clear h0
        go_wp2_with (first | (go_at_call 41; refine (HNUM.out _).mono ?_; rintro e w5 ⟨rfl, x5⟩) | (go_at_call 40; refine (wdPut_any w.heap.size _ _ _ _ (HR.out.ext x5) (hx.trans x5).size hle (HMM.out k) hpos).mono ?_; rintro e w9 ⟨v9, rfl, r9, x9, _⟩))
        go_roundw
        case rel => exact ⟨k + 1, by omega, by go_num, by rw [HST.out]; exact r9, fun h => absurd HPO.out (by omega), (hx.trans x5).trans x9⟩
        case measure => simp [intOf]; omega
    · obtain rfl : k = 10 := by omega
      have HE := Lib.hid (ptT_ten ss c)
      rw [HE.out] at HR
      go_wp2
      go_ret2
      exact ⟨_, ret_vb HV.out.symm, by rw [vS_yes HV.out]; exact HR.out, hx⟩

end Go.Proofs.Ytinojlbnmnlmhab
