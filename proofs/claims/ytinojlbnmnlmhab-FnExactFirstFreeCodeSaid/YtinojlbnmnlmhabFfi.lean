/- FirstFreeCode: the program's search. No conditions. -/
import Derived.Test.YtinojlbnmnlmhabFfr
import Derived.Deep.RegionHeld3
namespace Go.Proofs.Ytinojlbnmnlmhab
open Go.RowKit

theorem begun_any (v : Value) (ss : List ByteArray) (c : ByteArray) (w : World) (h : Strs w v ss) : Calls Try.prog 97 #[v, .string c] w fun e w' => e = .returned (.bool (bgO ss c)) ∧ Ext w w' := by
  have X0 := Lib.hid (show Ext w (w.alloc (.cells #[.string c] 9)) from (Ext.refl w).alloc _)
  have HC := Lib.hid (contf_ib c v ss w.heap.size _ (heap_alloc_new w (.cells #[.string c] 9)) (h.ext X0.out))
  obtain ⟨q, hq⟩ : ∃ q, q = ss.any (fun s => bgB s c) := ⟨_, rfl⟩
  have HQ := Lib.hid hq
  simp only [← hq] at HC
  clear h hq
  go_enter Try.func97, Try.ntmps97
  go_wp2_with (go_at_call 131; refine HC.out.mono ?_; rintro e w' ⟨rfl, rfl⟩)
  go_ret
  exact ⟨ret_bool HQ.out, X0.out⟩

/-- The cells that the search has in hand. -/
structure FrC (w : World) (A B C : Nat) (v : Value) (L : Nat) : Prop where
  c1 : w.cell? ⟨A, 0, none⟩ = some v
  c2 : w.cell? ⟨B, 0, none⟩ = some (.int .i64 (L : Int))
  c3 : w.cell? ⟨C, 0, none⟩ = some (.func (.func 96) #[] #[.pointer (some ⟨A, 0, none⟩), .pointer (some ⟨B, 0, none⟩), .pointer (some ⟨C, 0, none⟩)])
  h1 : A < w.heap.size
  h2 : B < w.heap.size
  h3 : C < w.heap.size
theorem FrC.ext {w w' : World} {A B C : Nat} {v : Value} {L : Nat} (h : FrC w A B C v L) (hx : Ext w w') : FrC w' A B C v L :=
  ⟨(hx.cell (p := ⟨A, 0, none⟩) h.h1).trans h.c1, (hx.cell (p := ⟨B, 0, none⟩) h.h2).trans h.c2, (hx.cell (p := ⟨C, 0, none⟩) h.h3).trans h.c3,
    Nat.lt_of_lt_of_le h.h1 hx.size, Nat.lt_of_lt_of_le h.h2 hx.size, Nat.lt_of_lt_of_le h.h3 hx.size⟩

set_option maxRecDepth 100000 in
set_option maxHeartbeats 1000000 in
theorem fr0_any (ss : List ByteArray) (L : Nat) (b : ByteArray) (A B C : Nat) (v : Value) (w : World) (hC : FrC w A B C v L) (h : Strs w v ss) (hb : b.size = L) : Calls Try.prog 96 #[.string b, .pointer (some ⟨A, 0, none⟩), .pointer (some ⟨B, 0, none⟩), .pointer (some ⟨C, 0, none⟩)] w fun e w' => e = .returned (.string (txO (fr ss b 0))) ∧ Ext w w' := by
  have HS := Lib.hid h
  have HC := Lib.hid hC
  have HBL := Lib.hid hb
  have e1 := hC.c1
  have e2 := hC.c2
  have hbi : (b.size : Int) = (L : Int) := by omega
  clear h hC hb
  cases h3 : bgO ss b
  rotate_left
  · have HV := Lib.hid (fr_o (m := 0) h3)
    have H3 := Lib.hid h3
    clear hbi h3
    go_enter Try.func96, Try.ntmps96
    go_wp2_with (go_at_call 97; refine (begun_any _ _ _ _ HS.out).mono ?_; rintro e w1 ⟨rfl, x1⟩; rw [H3.out])
    go_ret
    exact ⟨ret_s1 (by rw [HV.out]; rfl), x1⟩
  cases h4 : bgA b ss
  rotate_left
  · have HV := Lib.hid (fr_a (ss := ss) h4)
    have H3 := Lib.hid (And.intro h3 h4)
    clear h3 h4
    go_enter Try.func96, Try.ntmps96
    go_wp2_with (first | (go_at_call 97; refine (begun_any _ _ _ _ HS.out).mono ?_; rintro e w1 ⟨rfl, x1⟩; rw [H3.out.1]; have e3 := (HC.out.ext x1).c1; have e4 := (HC.out.ext x1).c2) | (go_at_call 98; refine (begAny_any _ _ _ _ (HS.out.ext x1)).mono ?_; rintro e w2 ⟨rfl, x2⟩; rw [H3.out.2]))
    go_ret
    exact ⟨ret_s1 (by rw [HV.out]; rfl), x1.trans x2⟩
  · have HV := Lib.hid (fr_y h3 h4)
    have H3 := Lib.hid (And.intro h3 h4)
    clear h3 h4
    go_enter Try.func96, Try.ntmps96
    go_wp2_with (first | (go_at_call 97; refine (begun_any _ _ _ _ HS.out).mono ?_; rintro e w1 ⟨rfl, x1⟩; rw [H3.out.1]; have e3 := (HC.out.ext x1).c1; have e4 := (HC.out.ext x1).c2) | (go_at_call 98; refine (begAny_any _ _ _ _ (HS.out.ext x1)).mono ?_; rintro e w2 ⟨rfl, x2⟩; rw [H3.out.2]; have e5 := (HC.out.ext (x1.trans x2)).c2))
    go_ret
    exact ⟨ret_s1 (by rw [HV.out]; rfl), x1.trans x2⟩

theorem txO_no {o : Option ByteArray} (h : o = none) : txO o = ⟨#[]⟩ := by rw [h]; rfl
theorem txO_yes {o : Option ByteArray} {t : ByteArray} (h : o = some t) : txO o = t := by rw [h]; rfl

set_option maxRecDepth 100000 in
set_option maxHeartbeats 2000000 in
theorem frI_any (ss : List ByteArray) (L : Nat) (A B C : Nat) (v : Value) (hL : L ≤ 6) : ∀ (m : Nat) (b : ByteArray) (w : World), FrC w A B C v L → Strs w v ss → b.size + m = L → Calls Try.prog 96 #[.string b, .pointer (some ⟨A, 0, none⟩), .pointer (some ⟨B, 0, none⟩), .pointer (some ⟨C, 0, none⟩)] w fun e w' => e = .returned (.string (txO (fr ss b m))) ∧ Ext w w' := by
  intro m
  induction m with
  | zero => intro b w hC h hb; exact fr0_any ss L b A B C v w hC h (by omega)
  | succ m ih =>
    intro b w hC h hbm
    have IH := Lib.hid ih
    have HS := Lib.hid h
    have HC := Lib.hid hC
    have e1 := hC.c1
    have e2 := hC.c2
    have hbi : ¬ (b.size : Int) = (L : Int) := by omega
    have hbb : ((b.size : Int) == (L : Int)) = false := beq_eq_false_iff_ne.2 hbi
    have hb100 : b.size ≤ 100 := by omega
    clear ih h hC
    cases h3 : bgO ss b
    rotate_left
    · have HV := Lib.hid (fr_o (m := m + 1) h3)
      have H3 := Lib.hid h3
      obtain ⟨o, ho⟩ : ∃ o, o = fr ss b (m + 1) := ⟨_, rfl⟩
      rw [← ho] at HV ⊢
      clear hbi hbb h3 hbm ho
      go_enter Try.func96, Try.ntmps96
      go_wp2_with (go_at_call 97; refine (begun_any _ _ _ _ HS.out).mono ?_; rintro e w1 ⟨rfl, x1⟩; rw [H3.out])
      go_ret
      exact ⟨ret_s1 (by rw [HV.out]; rfl), x1⟩
    have H3 := Lib.hid h3
    have HFS := Lib.hid (fr_s (m := m) h3)
    obtain ⟨oo, hoo⟩ : ∃ o, o = fr ss b (m + 1) := ⟨_, rfl⟩
    rw [← hoo] at HFS ⊢
    have HBM := Lib.hid (show b.size + 1 + m = L by omega)
    have HTL := Lib.hid (ten_len b)
    have HTA := Lib.hid (ten_at b)
    obtain ⟨T, hT⟩ : ∃ T, T = ten b := ⟨_, rfl⟩
    have HTT := Lib.hid hT
    rw [← hT] at HTL
    clear h3 hbm hoo hT
    go_enter Try.func96, Try.ntmps96
    go_wp2_with (first | (go_at_call 97; refine (begun_any _ _ _ _ HS.out).mono ?_; rintro e w1 ⟨rfl, x1⟩; rw [H3.out]; have e3 := (HC.out.ext x1).c1; have e4 := (HC.out.ext x1).c2) | (go_at_call 45; refine (oneL_any b _ hb100).mono ?_; rintro e w2 ⟨g2, rfl, r2, x2⟩; rw [← HTT.out] at r2; rw [← HTT.out, HTL.out]; rw [HTL.out] at r2; have R2 := Lib.hid r2; have X2 := Lib.hid (x1.trans x2); clear r2 x2))
    clear e1 e2 e3 e4
    go_loopw [31] (fun i wr => ∃ k : Nat, k ≤ 10 ∧ i = .int .i64 k ∧ frT ss b m k = none ∧ Ext w2 wr) (fun i _ => 10 - (intOf i).toNat)
    case atStart => exact ⟨0, Nat.zero_le _, rfl, frT_zero _ _ _, Ext.refl _⟩
    case round =>
      obtain ⟨k, hk, rfl, hnone, hx⟩ := hrel
      have HN := Lib.hid hnone
      clear hnone
      have HX := Lib.hid (X2.out.trans hx)
      have e5 := (HC.out.ext HX.out).c3
      by_cases hlt : k < 10
      · have hki : (k : Int) < 10 := by omega
        have HST := Lib.hid (frT_step ss b m k HN.out)
        have HSM := Lib.hid (fun t h => frT_some (t := t) HN.out hlt h)
        obtain ⟨c1, _⟩ := RowT.at (row_ext R2.out hx) k hlt HTL.out
        have hTk : T[k]'(by rw [HTL.out]; exact hlt) = b ++ dg1T k := by simp only [HTT.out]; exact HTA.out k hlt
        rw [hTk] at c1
        clear hTk
        obtain ⟨D, hD⟩ : ∃ D, D = b ++ dg1T k := ⟨_, rfl⟩
        have HDZ := Lib.hid (show D.size + m = L by rw [hD, ByteArray.size_append, dg1_size]; exact HBM.out)
        rw [← hD] at HST HSM c1
        clear hD
        obtain ⟨o, ho⟩ : ∃ o, o = fr ss D m := ⟨_, rfl⟩
        have HSZ := Lib.hid (fun (t : ByteArray) (h : o = some t) => fr_size m (t := t) (by rw [← ho]; exact h))
        have IHK := Lib.hid (fun w hc hs => IH.out D w hc hs HDZ.out)
        rw [← ho] at HST HSM
        simp only [← ho] at IHK
        clear ho
        cases o with
        | none =>
          have IHN := Lib.hid (show ∀ (w : World), FrC w A B C v L → Strs w v ss → Calls Try.prog 96 #[.string D, .pointer (some ⟨A, 0, none⟩), .pointer (some ⟨B, 0, none⟩), .pointer (some ⟨C, 0, none⟩)] w fun e w' => e = .returned (.string ⟨#[]⟩) ∧ Ext w w' from fun w hc hs => IHK.out w hc hs)
          have t1 : ((⟨#[]⟩ : ByteArray).toList == []) = true := emp_b rfl
          clear IHK
          go_wp2_with (go_at_call 96; refine (IHN.out _ (HC.out.ext HX.out) (HS.out.ext HX.out)).mono ?_; rintro e w6 ⟨rfl, x6⟩)
          go_roundw
          case rel => exact ⟨k + 1, by omega, by go_num, HST.out, hx.trans x6⟩
          case measure => simp [intOf]; omega
        | some t =>
          have HV := Lib.hid (HSM.out t rfl)
          have hts := HSZ.out t rfl
          have t1 : (t.toList == []) = false := emp_n (by have := HBM.out; have := HDZ.out; omega)
          have IHN := Lib.hid (show ∀ (w : World), FrC w A B C v L → Strs w v ss → Calls Try.prog 96 #[.string D, .pointer (some ⟨A, 0, none⟩), .pointer (some ⟨B, 0, none⟩), .pointer (some ⟨C, 0, none⟩)] w fun e w' => e = .returned (.string t) ∧ Ext w w' from fun w hc hs => IHK.out w hc hs)
          clear IHK hts
          go_wp2_with (go_at_call 96; refine (IHN.out _ (HC.out.ext HX.out) (HS.out.ext HX.out)).mono ?_; rintro e w6 ⟨rfl, x6⟩)
          go_ret
          exact ⟨ret_s1 (by rw [HFS.out, HV.out]; rfl), HX.out.trans x6⟩
      · obtain rfl : k = 10 := by omega
        go_wp2
        go_ret
        exact ⟨ret_s1 (by rw [HFS.out, HN.out]; rfl), HX.out⟩

/-- The search's three boxes, and the closure in its own. -/
def fsV (w : World) : Value := .func (.func 96) #[] #[.pointer (some ⟨w.heap.size, 0, none⟩), .pointer (some ⟨w.heap.size + 1, 0, none⟩), .pointer (some ⟨w.heap.size + 1 + 1, 0, none⟩)]
def fsU (w : World) (v : Value) (L : Nat) : World := (w.alloc (.cells #[v] 22)).alloc (.cells #[.int .i64 (L : Int)] 3)
theorem fsU_size (w : World) (v : Value) (L : Nat) : (fsU w v L).heap.size = w.heap.size + 1 + 1 := by unfold fsU; simp
theorem fst_run (w : World) (v : Value) (L : Nat) : Sem.run Try.prog (store ⟨w.heap.size + 1 + 1, 0, none⟩ (fsV w)) ((fsU w v L).alloc (.cells #[.nilFunc] 85)) = .ok () ((fsU w v L).alloc (.cells #[fsV w] 85)) := by
  have hn := heap_alloc_new (fsU w v L) (.cells #[.nilFunc] 85)
  rw [fsU_size] at hn
  obtain ⟨h1, h2⟩ := cell1 hn
  rw [run_store _ _ _ _ _ rfl, h1, h2]
  rw [World.setCell_alloc_at (w := fsU w v L) #[.nilFunc] 85 (w.heap.size + 1 + 1) 0 (fsV w) (fsU_size w v L).symm]
  rfl
theorem fst_cells (w : World) (v : Value) (L : Nat) : FrC ((fsU w v L).alloc (.cells #[fsV w] 85)) w.heap.size (w.heap.size + 1) (w.heap.size + 1 + 1) v L ∧ Ext w ((fsU w v L).alloc (.cells #[fsV w] 85)) := by
  have X1 : Ext w (w.alloc (.cells #[v] 22)) := (Ext.refl w).alloc _
  have hz1 : (w.alloc (.cells #[v] 22)).heap.size = w.heap.size + 1 := by simp
  have X2 : Ext (w.alloc (.cells #[v] 22)) (fsU w v L) := (Ext.refl _).alloc _
  have hz2 : (fsU w v L).heap.size = w.heap.size + 1 + 1 := fsU_size w v L
  have X4 : Ext (fsU w v L) ((fsU w v L).alloc (.cells #[fsV w] 85)) := (Ext.refl _).alloc _
  have c1 := (cell1 (heap_alloc_new w (.cells #[v] 22))).1
  have c2 := (cell1 (heap_alloc_new (w.alloc (.cells #[v] 22)) (.cells #[.int .i64 (L : Int)] 3))).1
  have c3 := (cell1 (heap_alloc_new (fsU w v L) (.cells #[fsV w] 85))).1
  rw [hz1] at c2
  rw [hz2] at c3
  have hzz : ((fsU w v L).alloc (.cells #[fsV w] 85)).heap.size = w.heap.size + 1 + 1 + 1 := by rw [← hz2]; simp
  exact ⟨⟨(((X2.trans X4).cell (p := ⟨w.heap.size, 0, none⟩) (by rw [hz1]; exact Nat.lt_succ_self _)).trans c1), ((X4.cell (p := ⟨w.heap.size + 1, 0, none⟩) (by rw [hz2]; exact Nat.lt_succ_self _)).trans c2), c3, by omega, by omega, by omega⟩, (X1.trans X2).trans X4⟩

set_option maxRecDepth 100000 in
set_option maxHeartbeats 2000000 in
theorem ffr_any (v : Value) (ss : List ByteArray) (L : Nat) (w : World) (h : Strs w v ss) (hL : L ≤ 6) : Calls Try.prog 57 #[v, .int .i64 L] w fun e w' => e = .returned (.string (txO (fr ss ⟨#[]⟩ L))) ∧ Ext w w' := by
  have HS := Lib.hid h
  have HF := Lib.hid (fun A B C w hC hs => frI_any ss L A B C v hL L ⟨#[]⟩ w hC hs (by show 0 + L = L; omega))
  obtain ⟨o, ho⟩ : ∃ o, o = fr ss ⟨#[]⟩ L := ⟨_, rfl⟩
  rw [← ho]
  simp only [← ho] at HF
  obtain ⟨t, ht⟩ : ∃ t, t = txO o := ⟨_, rfl⟩
  rw [← ht]
  simp only [← ht] at HF
  obtain ⟨a, cap, hv, _⟩ := h.at
  rw [hv] at HS ⊢
  simp only [hv] at HF
  clear h ho ht hv v
  have hst := fst_run w (.slice a ss.length cap) L
  unfold fsU fsV at hst
  have HW := Lib.hid (fst_cells w (.slice a ss.length cap) L)
  go_enter Try.func57, Try.ntmps57
  go_wp2_with (go_at_call 96; refine (HF.out w.heap.size (w.heap.size + 1) (w.heap.size + 1 + 1) _ HW.out.1 (HS.out.ext HW.out.2)).mono ?_; rintro e w5 ⟨rfl, x5⟩)
  go_ret
  exact ⟨rfl, Ext.trans HW.out.2 x5⟩

set_option maxHeartbeats 1000000 in
theorem ffI_any (v : Value) (ss : List ByteArray) (n : Int) (w : World) (h : Strs w v ss) (hcap : CapOk v) : Calls Try.prog 24 #[v, .int .i64 n] w fun e w' => e = .returned (.tuple #[.string (vFF ss n), .bool (okFF ss n)]) ∧ Ext w w' := by
  have HS := Lib.hid h
  have HC := Lib.hid hcap
  clear h hcap
  cases h1 : plB ss
  · have HV := Lib.hid (okFF_p (n := n) h1)
    go_enter Try.func24, Try.ntmps24
    go_wp2_with (go_at_call 50; refine (isPl_any _ _ _ HS.out HC.out).mono ?_; rintro e w1 ⟨rfl, x1⟩; rw [h1])
    go_ret2
    exact ⟨ret_sb (vFF_no HV.out).symm HV.out.symm, x1⟩
  cases h2 : inW n 1 6
  · have HV := Lib.hid (okFF_n (ss := ss) h2)
    go_enter Try.func24, Try.ntmps24
    go_wp2_with (first | (go_at_call 50; refine (isPl_any _ _ _ HS.out HC.out).mono ?_; rintro e w1 ⟨rfl, x1⟩; rw [h1]) | (go_at_call 51; refine (codeLong_any _ _).mono ?_; rintro e w' ⟨rfl, rfl⟩; rw [h2]))
    go_ret2
    exact ⟨ret_sb (vFF_no HV.out).symm HV.out.symm, x1⟩
  have hb := inW_bnd h2
  obtain ⟨L, rfl⟩ : ∃ L : Nat, n = L := ⟨n.toNat, by omega⟩
  have HO := Lib.hid (okFF_y h1 h2)
  have HV := Lib.hid (vFF_y h1 h2)
  rw [Int.toNat_natCast] at HO HV
  have HG := Lib.hid (show plB ss = true ∧ inW (L : Int) 1 6 = true from ⟨h1, h2⟩)
  have HPF := Lib.hid (fun v w h => ffr_any v ss L w h (by omega))
  have HSZ := Lib.hid (fun t h => fr_size L (ss := ss) (b := ⟨#[]⟩) (t := t) h)
  have hL1 : 1 ≤ L := by omega
  obtain ⟨o, ho⟩ : ∃ o, o = fr ss ⟨#[]⟩ L := ⟨_, rfl⟩
  rw [← ho] at HO HV
  simp only [← ho] at HPF HSZ
  clear h1 h2 hb ho
  cases o with
  | none =>
    have t1 : ((⟨#[]⟩ : ByteArray).toList == []) = true := emp_b rfl
    have HPN := Lib.hid (show ∀ (v : Value) (w : World), Strs w v ss → Calls Try.prog 57 #[v, .int .i64 L] w fun e w' => e = .returned (.string ⟨#[]⟩) ∧ Ext w w' from fun v w hs => HPF.out v w hs)
    clear HPF
    go_enter Try.func24, Try.ntmps24
    go_wp2_with (first | (go_at_call 50; refine (isPl_any _ _ _ HS.out HC.out).mono ?_; rintro e w1 ⟨rfl, x1⟩; rw [HG.out.1]) | (go_at_call 51; refine (codeLong_any _ _).mono ?_; rintro e w' ⟨rfl, rfl⟩; rw [HG.out.2]) | (go_at_call 57; refine (HPN.out _ _ (HS.out.ext x1)).mono ?_; rintro e w2 ⟨rfl, x2⟩))
    go_ret2
    exact ⟨ret_sb (by rw [HV.out]; rfl) (by rw [HO.out]; rfl), x1.trans x2⟩
  | some t =>
    have hts := HSZ.out t rfl
    have t1 : (t.toList == []) = false := emp_n (by rw [hts]; show 1 ≤ 0 + L; omega)
    have HPN := Lib.hid (show ∀ (v : Value) (w : World), Strs w v ss → Calls Try.prog 57 #[v, .int .i64 L] w fun e w' => e = .returned (.string t) ∧ Ext w w' from fun v w hs => HPF.out v w hs)
    clear HPF hts
    go_enter Try.func24, Try.ntmps24
    go_wp2_with (first | (go_at_call 50; refine (isPl_any _ _ _ HS.out HC.out).mono ?_; rintro e w1 ⟨rfl, x1⟩; rw [HG.out.1]) | (go_at_call 51; refine (codeLong_any _ _).mono ?_; rintro e w' ⟨rfl, rfl⟩; rw [HG.out.2]) | (go_at_call 57; refine (HPN.out _ _ (HS.out.ext x1)).mono ?_; rintro e w2 ⟨rfl, x2⟩))
    go_ret2
    exact ⟨ret_sb (by rw [HV.out]; rfl) (by rw [HO.out]; rfl), x1.trans x2⟩

end Go.Proofs.Ytinojlbnmnlmhab
