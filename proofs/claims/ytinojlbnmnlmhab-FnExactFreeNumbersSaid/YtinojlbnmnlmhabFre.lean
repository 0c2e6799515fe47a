/- CountFreeCodes: how many codes of a length can be put in. No conditions. -/
import Derived.Test.YtinojlbnmnlmhabSpl
import Derived.Test.YtinojlbnmnlmhabOnce
namespace Go.Proofs.Ytinojlbnmnlmhab
open Go.RowKit

/-! ### Plainly -/
def sts (ss : List ByteArray) (L : Nat) : List ByteArray := ss.map fun c => c.extract 0 (min c.size L)
def shs (ss : List ByteArray) (L : Nat) : List ByteArray := ss.filter fun c => decide (c.size ≤ L)
def lgs (ss : List ByteArray) (L : Nat) : List ByteArray := (ss.filter fun c => !decide (c.size ≤ L)).map fun c => c.extract 0 L
def sumI (l : List ByteArray) (L : Nat) : Nat := (l.map fun s => nIn s L).sum
theorem ext_all2 (s : ByteArray) : s.extract 0 s.size = s := by
  apply tl_inj
  rw [tl_ex, ← tl_len, List.take_length]
theorem ext_size {s : ByteArray} {k : Nat} (h : k ≤ s.size) : (s.extract 0 k).size = k := by rw [ByteArray.size_extract]; omega
theorem ext_bg {s : ByteArray} (k : Nat) : bgB (s.extract 0 k) s = true := by
  rw [bg_iff, tl_ex]
  exact List.take_prefix _ _
theorem sts_mem (ss : List ByteArray) (L : Nat) (x : ByteArray) : x ∈ sts ss L ↔ x ∈ shs ss L ++ putAll (lgs ss L) := by
  rw [List.mem_append, putAll_mem]
  unfold sts shs lgs
  rw [List.mem_map, List.mem_filter, List.mem_map]
  constructor
  · rintro ⟨c, hc, rfl⟩
    by_cases h : c.size ≤ L
    · refine .inl ?_
      rw [Nat.min_eq_left h, ext_all2]
      exact ⟨hc, decide_eq_true h⟩
    · refine .inr ⟨c, List.mem_filter.2 ⟨hc, by simp [h]⟩, ?_⟩
      rw [Nat.min_eq_right (by omega)]
  · rintro (⟨h1, h2⟩ | ⟨c, hc, rfl⟩)
    · refine ⟨x, h1, ?_⟩
      rw [Nat.min_eq_left (of_decide_eq_true h2), ext_all2]
    · obtain ⟨h1, h2⟩ := List.mem_filter.1 hc
      have h3 : ¬ c.size ≤ L := by simpa using h2
      exact ⟨c, h1, by rw [Nat.min_eq_right (by omega)]⟩
theorem inc_nodup {l : List ByteArray} (h : Inc l) : l.Nodup := h.imp fun {a b} hl he => by
  rw [he, less_irrefl] at hl
  cases hl
theorem free_sum {ss : List ByteArray} (hp : PlB ss) (L : Nat) : sumI (putAll (sts ss L)) L = sumI (shs ss L) L + (putAll (lgs ss L)).length := by
  have hn1 : (putAll (sts ss L)).Nodup := inc_nodup (putAll_inc _)
  have hl3 : ∀ x ∈ putAll (lgs ss L), x.size = L ∧ ∃ c ∈ ss, bgB x c = true ∧ ¬ c.size ≤ L := fun x hx => by
    rw [putAll_mem] at hx
    obtain ⟨c, hc, rfl⟩ := List.mem_map.1 hx
    obtain ⟨h1, h2⟩ := List.mem_filter.1 hc
    have h3 : ¬ c.size ≤ L := by simpa using h2
    exact ⟨ext_size (by omega), c, h1, ext_bg L, h3⟩
  have hn2 : (shs ss L ++ putAll (lgs ss L)).Nodup := by
    rw [List.nodup_append]
    refine ⟨(inc_nodup hp.inc).sublist List.filter_sublist, inc_nodup (putAll_inc _), fun a ha b hb he => ?_⟩
    obtain ⟨h1, h2⟩ := List.mem_filter.1 ha
    obtain ⟨h4, c, hc, hb2, hcl⟩ := hl3 b hb
    rw [← he] at hb2
    have := hp.nb a h1 c hc hb2
    rw [← this] at hcl
    exact hcl (of_decide_eq_true h2)
  have hperm : (putAll (sts ss L)).Perm (shs ss L ++ putAll (lgs ss L)) :=
    (List.perm_ext_iff_of_nodup hn1 hn2).2 fun x => by rw [putAll_mem, sts_mem]
  have hs := (hperm.map fun s => nIn s L).sum_nat
  have hone : ((putAll (lgs ss L)).map fun s => nIn s L) = List.replicate (putAll (lgs ss L)).length 1 := by
    rw [← List.map_const]
    refine List.map_congr_left fun x hx => ?_
    have := (hl3 x hx).1
    show nIn x L = 1
    rw [nIn_hi (by omega), this, Nat.sub_self]
  unfold sumI
  rw [hs, List.map_append, List.sum_append_nat, hone, List.sum_replicate_nat, Nat.mul_one]
theorem nIn_le (c : ByteArray) {L : Nat} (h : L ≤ 6) : nIn c L ≤ 1000000 := by
  by_cases e : L < c.size
  · rw [nIn_lo e]; exact Nat.zero_le _
  · rw [nIn_hi e]; exact ten_bd _ (by omega)
theorem sumI_take (l : List ByteArray) (L k : Nat) (h : k < l.length) : sumI (l.take (k + 1)) L = sumI (l.take k) L + nIn l[k] L := by
  unfold sumI
  rw [takeS l k h, List.map_append, List.sum_append_nat]
  simp
theorem sumI_le (l : List ByteArray) {L : Nat} (hL : L ≤ 6) : ∀ k, k ≤ l.length → sumI (l.take k) L ≤ k * 1000000
  | 0, _ => by simp [sumI]
  | k + 1, h => by
    have h1 := sumI_le l hL k (by omega)
    have h2 := nIn_le (l[k]'(by omega)) hL
    rw [sumI_take l L k (by omega)]
    omega
theorem sumI_top (l : List ByteArray) {L : Nat} (hL : L ≤ 6) : sumI l L ≤ l.length * 1000000 := by
  have := sumI_le l hL l.length (Nat.le_refl _)
  rwa [List.take_length] at this
def freV (ss : List ByteArray) (L : Nat) : Int := ((10 ^ L : Nat) : Int) - (sumI (putAll (sts ss L)) L : Nat)
def okC (ss : List ByteArray) (n : Int) : Bool := plB ss && inW n 1 6
def vC (ss : List ByteArray) (n : Int) : Int := if okC ss n then freV ss n.toNat else 0
theorem okC_p {ss : List ByteArray} {n : Int} (h : plB ss = false) : okC ss n = false := by unfold okC; rw [h]; rfl
theorem okC_n {ss : List ByteArray} {n : Int} (h : inW n 1 6 = false) : okC ss n = false := by unfold okC; rw [h, Bool.and_false]
theorem okC_y {ss : List ByteArray} {n : Int} (h : plB ss = true) (h2 : inW n 1 6 = true) : okC ss n = true := by unfold okC; rw [h, h2]; rfl
theorem vC_no {ss : List ByteArray} {n : Int} (h : okC ss n = false) : vC ss n = 0 := by unfold vC; rw [h]; rfl
theorem vC_yes {ss : List ByteArray} {n : Int} (h : okC ss n = true) : vC ss n = freV ss n.toNat := by unfold vC; rw [h]; rfl
theorem ret_ib2 {a a' : Int} {b b' : Bool} (h : a = a') (h2 : b = b') : Ending.returned (.tuple #[.int .i64 a, .bool b]) = .returned (.tuple #[.int .i64 a', .bool b']) := by rw [h, h2]

/-! ### The program's -/
theorem min2_run (x y : Nat) (w : World) : (Builtin.min_ #[3, 3] 3 #[.int .i64 (x : Int), .int .i64 (y : Int)]).run Try.prog w = .ok (.int .i64 ((min x y : Nat) : Int)) w := by
  have e : (if (y : Int) < (x : Int) then (y : Int) else (x : Int)) = ((min x y : Nat) : Int) := by split <;> omega
  have h : (Builtin.min_ #[3, 3] 3 #[.int .i64 (x : Int), .int .i64 (y : Int)]).run Try.prog w = .ok (.int .i64 (if (y : Int) < (x : Int) then (y : Int) else (x : Int))) w := by
    simp [Builtin.min_, Builtin.min2]
  rw [h, e]
theorem cfclo_any (s : ByteArray) (L C : Nat) (w : World) (hL : L ≤ 6) (hc : w.cell? ⟨C, 0, none⟩ = some (.int .i64 (L : Int))) : Calls Try.prog 93 #[.string s, .pointer (some ⟨C, 0, none⟩)] w fun e w' => e = .returned (.int .i64 ((nIn s L : Nat) : Int)) ∧ w = w' := by
  have H := Lib.hid (fun w => numIn_any s L w hL)
  obtain ⟨x, hx⟩ : ∃ x : Nat, x = nIn s L := ⟨_, rfl⟩
  simp only [← hx] at H
  rw [← hx]
  clear hx
  go_enter Try.func93, Try.ntmps93
  go_wp2_with (go_at_call 94; refine (H.out _).mono ?_; rintro e w' ⟨rfl, rfl⟩)
  go_ret
  exact ⟨rfl, rfl⟩

set_option maxHeartbeats 1000000 in
theorem totS_any (v : Value) (l : List ByteArray) (L C : Nat) (w : World) (h : Strs w v l) (hl : l.length ≤ 100) (hL : L ≤ 6) (hc : w.cell? ⟨C, 0, none⟩ = some (.int .i64 (L : Int))) : Calls Try.prog 91 #[v, .func (.func 93) #[] #[.pointer (some ⟨C, 0, none⟩)]] w fun e w' => e = .returned (.int .i64 ((sumI l L : Nat) : Int)) ∧ w = w' := by
  have H := Lib.hid h
  obtain ⟨a, cap, hv, _⟩ := h.at
  rw [hv] at H ⊢
  clear hv h
  have HCC := Lib.hid hc
  clear hc
  go_enter Try.func91, Try.ntmps91
  go_wp2
  go_loop [5, 10] (fun s i => ∃ k : Nat, k ≤ l.length ∧ i = .int .i64 k ∧ s = .int .i64 ((sumI (l.take k) L : Nat) : Int)) (fun _ i => l.length - (intOf i).toNat)
  case atStart => exact ⟨0, Nat.zero_le _, rfl, rfl⟩
  case round =>
    obtain ⟨k, hk, rfl, rfl⟩ := hrel
    have hp := sumI_le l hL k hk
    by_cases hlt : k < l.length
    · obtain ⟨b, off, ha, e1⟩ := H.out.get2 k hlt
      have HT := Lib.hid (sumI_take l L k hlt)
      have hw := nIn_le l[k] hL
      have HN := Lib.hid (fun w hc => cfclo_any l[k] L C w hL hc)
      obtain ⟨z, hz⟩ : ∃ z, z = l[k] := ⟨_, rfl⟩
      rw [← hz] at e1 HT hw
      simp only [← hz] at HN
      obtain ⟨x, hx⟩ : ∃ x : Nat, x = nIn z L := ⟨_, rfl⟩
      rw [← hx] at HT hw
      simp only [← hx] at HN
      obtain ⟨y, hy⟩ : ∃ y : Nat, y = sumI (l.take k) L := ⟨_, rfl⟩
      rw [← hy] at HT hp ⊢
      clear hz hx hy
      subst ha
      have W1 : IntKind.i64.wrap ((y : Int) + (x : Int)) = ((y + x : Nat) : Int) := by simp only [IntKind.wrap_i64]; omega
      go_wp2_with (go_at_call 93; refine (HN.out _ HCC.out).mono ?_; rintro e w' ⟨rfl, rfl⟩)
      go_round
      case rel => exact ⟨k + 1, by omega, by go_num, by rw [HT.out, Int.natCast_add]⟩
      case measure => simp [intOf]; omega
    · have HV := Lib.hid (show sumI (l.take k) L = sumI l L by rw [List.take_of_length_le (by omega)])
      go_wp2
      go_ret
      exact ⟨ret_intF (by rw [HV.out]), rfl⟩

theorem sts_len (ss : List ByteArray) (L : Nat) : (sts ss L).length = ss.length := List.length_map ..
theorem sts_at (ss : List ByteArray) (L k : Nat) (h : k < ss.length) : (sts ss L)[k]'(by rw [sts_len]; exact h) = ss[k].extract 0 (min ss[k].size L) := by unfold sts; rw [List.getElem_map]
theorem rowT_row {B : Nat} {w : World} {g n : Nat} {l : List ByteArray} (h : RowT B w g n l) (hl : l.length = n) : RowS B w (.slice (some ⟨g, 0, none⟩) n n) l := by
  subst hl
  exact h

set_option maxRecDepth 100000 in
set_option maxHeartbeats 2000000 in
theorem cfI_any (v : Value) (ss : List ByteArray) (L : Nat) (w : World) (h : Strs w v ss) (hp : PlB ss) (hL1 : 1 ≤ L) (hL : L ≤ 6) : Calls Try.prog 54 #[v, .int .i64 L] w fun e w' => e = .returned (.int .i64 (freV ss L)) ∧ Ext w w' := by
  have HS := Lib.hid h
  have hl1 := hp.l1
  have hl2 := hp.l2
  have HM := Lib.hid h.2.1
  obtain ⟨a, cap, hv, _⟩ := h.at
  rw [hv] at HS ⊢
  clear hv h hp v
  obtain ⟨i0, hi, hz0, hzs, hzb⟩ := info_parts info_strC
  have HI := Lib.hid (show Try.prog.info? 9 = some i0 ∧ i0.zero = some (.string ⟨#[]⟩) ∧ i0.size = 1 ∧ i0.bytes = 16 from ⟨hi, hz0, hzs, hzb⟩)
  clear hi hz0 hzs hzb
  have HLL := Lib.hid (sts_len ss L)
  have HAT := Lib.hid (sts_at ss L)
  have HV := Lib.hid (show freV ss L = ((10 ^ L : Nat) : Int) - (sumI (putAll (sts ss L)) L : Nat) from rfl)
  obtain ⟨T, hT⟩ : ∃ T, T = sts ss L := ⟨_, rfl⟩
  have HTE := Lib.hid hT
  rw [← hT] at HLL HV
  clear hT
  have X1 := Lib.hid (show Ext w (w.alloc (.cells #[.int .i64 (L : Int)] 3)) from (Ext.refl w).alloc _)
  have HB := Lib.hid (show (w.alloc (.cells #[.int .i64 (L : Int)] 3)).heap.size = w.heap.size + 1 by simp)
  have HCC := Lib.hid (show (w.alloc (.cells #[.int .i64 (L : Int)] 3)).cell? ⟨w.heap.size, 0, none⟩ = some (.int .i64 (L : Int)) from (cell1 (heap_alloc_new w _)).1)
  go_enter Try.func54, Try.ntmps54
  go_wp2_with (at_make; refine wpList_make_full _ rfl _ _ 22 rfl (w.alloc (.cells #[.int .i64 (L : Int)] 3)).heap.size 9 i0 (.string ⟨#[]⟩) 1 Try.underlying22 HI.out.1 HI.out.2.1 HI.out.2.2.1 .i64 .i64 _ _ ss.length rfl rfl rfl rfl (by rw [HI.out.2.2.2]; omega) (by unfold maxLen; omega) (Nat.le_refl _) ?_; intro w2 hown hgr; have X2 := Lib.hid (ext_grown (Ext.refl (w.alloc (.cells #[.int .i64 (L : Int)] 3))) hgr (by intro k hk; cases hk)); have RR := Lib.hid (show RowT (w.alloc (.cells #[.int .i64 (L : Int)] 3)).heap.size w2 (w.alloc (.cells #[.int .i64 (L : Int)] 3)).heap.size ss.length (partT T 0) from by unfold RowT; rw [partT_zero, HLL.out]; exact hown); clear hown hgr)
  obtain ⟨w1, hw1⟩ : ∃ w1, w1 = w.alloc (.cells #[.int .i64 (L : Int)] 3) := ⟨_, rfl⟩
  rw [← hw1] at X1 HB HCC X2 RR
  rw [HB.out] at RR
  clear hw1
  go_loopw [13] (fun i wr => ∃ k : Nat, k ≤ ss.length ∧ i = .int .i64 k ∧ RowT (w.heap.size + 1) wr (w.heap.size + 1) ss.length (partT T k) ∧ Ext w1 wr) (fun i _ => ss.length - (intOf i).toNat)
  case atStart => exact ⟨0, Nat.zero_le _, rfl, RR.out, X2.out⟩
  case round =>
    obtain ⟨k, hk, rfl, hr, hx⟩ := hrel
    have HR := Lib.hid hr
    clear hr
    have hcl := (hx.cell (p := ⟨w.heap.size, 0, none⟩) (by rw [HB.out]; exact Nat.lt_succ_self _)).trans HCC.out
    by_cases hlt : k < ss.length
    · obtain ⟨b, off, ha, e1⟩ := (HS.out.ext (Ext.trans X1.out hx)).get2 k hlt
      have hpl : (partT T k).length = ss.length := by rw [partT_len _ _ (by rw [HLL.out]; omega), HLL.out]
      obtain ⟨c1, c2⟩ := HR.out.at k hlt hpl
      have HAK := Lib.hid (HAT.out k hlt)
      obtain ⟨s, hs⟩ : ∃ s, s = ss[k] := ⟨_, rfl⟩
      rw [← hs] at e1 HAK
      obtain ⟨m, hm⟩ : ∃ m, m = min s.size L := ⟨_, rfl⟩
      have hms : m ≤ s.size := by omega
      have hmi : (m : Int) ≤ (s.size : Int) := by omega
      have hm0 : (0 : Int) ≤ (m : Int) := by omega
      have hmin := fun w => min2_run s.size L w
      simp only [← hm] at hmin
      rw [← hm] at HAK
      have HW := Lib.hid (show ∀ wz, Ext w1 wz → RowT (w.heap.size + 1) wz (w.heap.size + 1) ss.length (partT T k) → RowT (w.heap.size + 1) (wz.setCell ⟨w.heap.size + 1, k, none⟩ (.string (s.extract 0 m))) (w.heap.size + 1) ss.length (partT T (k + 1)) ∧ Ext w1 (wz.setCell ⟨w.heap.size + 1, k, none⟩ (.string (s.extract 0 m))) from fun wz hxz hz => by
        refine ⟨?_, hxz.setCell (Nat.le_of_eq HB.out) _⟩
        have e2 : partT T (k + 1) = (partT T k).set k (s.extract 0 m) := by
          rw [← partT_set T k (by rw [HLL.out]; exact hlt)]
          congr 1
          have := HAK.out
          simp only [HTE.out]
          exact this
        rw [e2]
        exact hz.put k _)
      obtain ⟨q, hq⟩ : ∃ q, q = (partT T k)[k]'(by omega) := ⟨_, rfl⟩
      rw [← hq] at c1
      obtain ⟨E, hE⟩ : ∃ E, E = s.extract 0 m := ⟨_, rfl⟩
      have hsl := fun w => slB_to s m hms w
      simp only [← hE] at hsl
      rw [← hE] at HW
      clear hs hm hq hpl hE
      subst ha
      go_wp2
      go_roundw
      case rel => exact ⟨k + 1, by omega, by go_num, (HW.out _ hx HR.out).1, (HW.out _ hx HR.out).2⟩
      case measure => simp [intOf]; omega
    · have HR2 := Lib.hid (show RowT (w.heap.size + 1) wr (w.heap.size + 1) ss.length T from by
        have h2 := HR.out
        have hkL : k = T.length := by rw [HLL.out]; omega
        rw [hkL, partT_all] at h2
        exact h2)
      have HPL := Lib.hid (putAll_le T)
      have HZ := Lib.hid (show ∀ t ∈ putAll T, t.size ≤ maxLen from fun t ht => by
        rw [putAll_mem, HTE.out] at ht
        obtain ⟨c, hc, rfl⟩ := List.mem_map.1 ht
        have := HM.out c hc
        rw [ext_size (by omega)]
        exact Nat.le_trans (by omega) this)
      have hst := sumI_top (putAll T) hL
      have hst2 : sumI (putAll T) L ≤ 20000000 := by have := HPL.out; rw [HLL.out] at this; omega
      have HTS := Lib.hid (fun v w (h : Strs w v (putAll T)) hc => totS_any v (putAll T) L w.heap.size w h (by have := HPL.out; rw [HLL.out] at this; omega) hL hc)
      have HTQ := Lib.hid (fun v w' (h : Strs w' v (putAll T)) hc => totS_any v (putAll T) L w.heap.size w' h (by have := HPL.out; rw [HLL.out] at this; omega) hL hc)
      have hp10 := ten_bd L (by omega)
      have HAN := Lib.hid (fun w => allNum_any L w hL)
      obtain ⟨y, hy⟩ : ∃ y : Nat, y = sumI (putAll T) L := ⟨_, rfl⟩
      obtain ⟨x, hx2⟩ : ∃ x : Nat, x = 10 ^ L := ⟨_, rfl⟩
      rw [← hy, ← hx2] at HV
      rw [← hy] at hst2
      rw [← hx2] at hp10
      simp only [← hy] at HTQ
      simp only [← hx2] at HAN
      have W1 : IntKind.i64.wrap ((x : Int) - (y : Int)) = (x : Int) - (y : Int) := by simp only [IntKind.wrap_i64]; omega
      clear hy hx2 hst HTS
      have hkl := HLL.out
      go_wp2_with (first | (go_at_call 90; refine (HAN.out _).mono ?_; rintro e w' ⟨rfl, rfl⟩) | (go_at_call 92; refine (once_any (w.heap.size + 1) (w.heap.size + 1) ss.length ss.length T _ hkl (by omega) HR2.out).mono ?_; rintro e w4 ⟨v4, rfl, r4, x4⟩; have R4 := Lib.hid r4; have X4 := Lib.hid (x4 w1 hx (Nat.le_of_eq HB.out)); clear r4 x4) | (go_at_call 91; refine (HTQ.out _ _ (R4.out.strs (by have := HPL.out; unfold maxLen; omega) HZ.out) ((X4.out.cell (p := ⟨w.heap.size, 0, none⟩) (by rw [HB.out]; exact Nat.lt_succ_self _)).trans HCC.out)).mono ?_; rintro e w' ⟨rfl, rfl⟩))
      go_ret
      exact ⟨ret_intF HV.out.symm, Ext.trans X1.out X4.out⟩

/-! ### The model's -/

end Go.Proofs.Ytinojlbnmnlmhab
