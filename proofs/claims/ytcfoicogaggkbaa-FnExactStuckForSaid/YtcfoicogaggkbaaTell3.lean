/- How often keys must show their letters: the program's way. No conditions. -/
import Derived.Test.YtcfoicogaggkbaaTell2
import Derived.Deep.RegionHeld3
namespace Go.Proofs.Ytcfoicogaggkbaa
open Go.RowKit

def fIc (t s : ByteArray) (c : UInt8) : Nat := if cntF t c = 0 then 1 else min (cntF s c / cntF t c) 2
theorem fIc_eq (t s : ByteArray) : fIc t s = fI t.data.toList s.data.toList := rfl
theorem fIc_le (t s : ByteArray) (c : UInt8) : fIc t s c ≤ 2 := by unfold fIc; split <;> omega
theorem isT0 : isT 20 (⟨#[]⟩ : ByteArray) = true := rfl
theorem ones (j : Nat) : swR ⟨#[]⟩ ⟨#[]⟩ j = 1 := rfl
def z26 : Array Value := #[.int .i64 0, .int .i64 0, .int .i64 0, .int .i64 0, .int .i64 0, .int .i64 0, .int .i64 0, .int .i64 0, .int .i64 0, .int .i64 0, .int .i64 0, .int .i64 0, .int .i64 0, .int .i64 0, .int .i64 0, .int .i64 0, .int .i64 0, .int .i64 0, .int .i64 0, .int .i64 0, .int .i64 0, .int .i64 0, .int .i64 0, .int .i64 0, .int .i64 0, .int .i64 0]
theorem new26 (w0 w1 : World) (RR : Array Value) (t : Nat → Int) (hRR : RR = (row26 t).toArray) (hx : Ext w0 w1) : ∃ W, (storeCells ⟨w1.heap.size, 0, none⟩ RR.toList).run Try.prog (w1.alloc (.cells #[.int .i64 0, .int .i64 0, .int .i64 0, .int .i64 0, .int .i64 0, .int .i64 0, .int .i64 0, .int .i64 0, .int .i64 0, .int .i64 0, .int .i64 0, .int .i64 0, .int .i64 0, .int .i64 0, .int .i64 0, .int .i64 0, .int .i64 0, .int .i64 0, .int .i64 0, .int .i64 0, .int .i64 0, .int .i64 0, .int .i64 0, .int .i64 0, .int .i64 0, .int .i64 0] 36)) = .ok () W ∧ TabR W w1.heap.size t ∧ Ext w0 W ∧ Ext w1 W := by
  have hT0 : TabR (w1.alloc (.cells #[.int .i64 0, .int .i64 0, .int .i64 0, .int .i64 0, .int .i64 0, .int .i64 0, .int .i64 0, .int .i64 0, .int .i64 0, .int .i64 0, .int .i64 0, .int .i64 0, .int .i64 0, .int .i64 0, .int .i64 0, .int .i64 0, .int .i64 0, .int .i64 0, .int .i64 0, .int .i64 0, .int .i64 0, .int .i64 0, .int .i64 0, .int .i64 0, .int .i64 0, .int .i64 0] 36)) w1.heap.size (fun _ => 0) := by unfold TabR; rw [zero26]; exact heap_alloc_new w1 _
  obtain ⟨W, h1, h2, h3⟩ := row26_store (w := w1) (w1.alloc (.cells #[.int .i64 0, .int .i64 0, .int .i64 0, .int .i64 0, .int .i64 0, .int .i64 0, .int .i64 0, .int .i64 0, .int .i64 0, .int .i64 0, .int .i64 0, .int .i64 0, .int .i64 0, .int .i64 0, .int .i64 0, .int .i64 0, .int .i64 0, .int .i64 0, .int .i64 0, .int .i64 0, .int .i64 0, .int .i64 0, .int .i64 0, .int .i64 0, .int .i64 0, .int .i64 0] 36)) w1.heap.size (fun _ => 0) t hT0 ((Ext.refl w1).alloc _) (Nat.le_refl _)
  exact ⟨W, by rw [hRR]; exact h1, h2, hx.trans h3, h3⟩

theorem row26_store2 (wr : World) (R : Nat) (t0 t : Nat → Int) (h : TabR wr R t0) {w : World} (hx : Ext w wr) (hR : w.heap.size ≤ R) (CL : List Value) (hCL : CL = row26 t) : ∃ W4, (storeCells ⟨R, 0, none⟩ CL).run Try.prog wr = .ok () W4 ∧ TabR W4 R t ∧ Ext w W4 ∧ ∀ k, k ≠ R → W4.heap[k]? = wr.heap[k]? := by
  subst hCL
  have hone : ∀ v ∈ row26 t, v.oneCell' = true := by
    intro v hv
    obtain ⟨i, _, rfl⟩ := List.mem_map.1 hv
    rfl
  have hst := run_storeCells_at Try.prog R 0 36 (row26 t) 0 (row26 t0).toArray wr h (by rw [List.size_toArray, row26_len, row26_len]; decide) hone
  rw [row26_len, Nat.add_zero, show ((row26 t0).toArray.toList.take 0 ++ row26 t ++ (row26 t0).toArray.toList.drop (0 + 26)).toArray = (row26 t).toArray by
    rw [List.take_zero, List.nil_append, List.drop_of_length_le (by rw [List.toList_toArray, row26_len]; decide), List.append_nil]] at hst
  exact ⟨_, hst, setRow_heap _ _ _ _ _ _ h, ext_setRowR hx _ _ hR, fun k hk => setRow_other _ _ k _ hk⟩
theorem store_CL {w W : World} {R : Nat} {CL : List Value} (hst : (storeCells ⟨R, 0, none⟩ CL).run Try.prog w = .ok () W) (hl : CL.length = 26) (hone : ∀ v ∈ CL, v.oneCell' = true) (hth : w.there R 0 26) : w.setCells R 0 CL = W := by
  have h7 := run_storeCells_cells (P := Try.prog) R 0 CL 0 w (fun j hj => by have := (hth j (by rw [hl] at hj; exact hj)).1; simpa using this) (fun j hj => by have := (hth j (by rw [hl] at hj; exact hj)).2; simpa using this) hone
  exact (ok_world (hst.symm.trans h7)).symm
theorem wrap64_q (q : Nat) (h : q ≤ 1000) : wrap64 (q : Int) = (q : Int) := by unfold wrap64; omega
theorem minV (q : Nat) : (if 2 < (q : Int) then (2 : Int) else (q : Int)) = ((min q 2 : Nat) : Int) := by split <;> omega
set_option maxRecDepth 100000 in
set_option maxHeartbeats 4000000 in
theorem showsFor_any (t s : ByteArray) (w : World) (ht : isT 20 t = true) (hs : isT 40 s = true) : Calls Try.prog 41 #[.string t, .string s] w fun e w' => e = .returned (.tuple #[.agg (row26 (rwF (fIc t s))).toArray, .bool (decide (tB (shw (fIc t s) t.data.toList) = s))]) ∧ Ext w w' := by
  have HT := Lib.hid ht
  have HS := Lib.hid hs
  have h20 := isT_size ht
  have h40 := isT_size hs
  clear ht hs
  have TR0 : TabR (w.alloc (.cells #[.int .i64 0, .int .i64 0, .int .i64 0, .int .i64 0, .int .i64 0, .int .i64 0, .int .i64 0, .int .i64 0, .int .i64 0, .int .i64 0, .int .i64 0, .int .i64 0, .int .i64 0, .int .i64 0, .int .i64 0, .int .i64 0, .int .i64 0, .int .i64 0, .int .i64 0, .int .i64 0, .int .i64 0, .int .i64 0, .int .i64 0, .int .i64 0, .int .i64 0, .int .i64 0] 36)) w.heap.size (fun _ => 0) := by unfold TabR; rw [zero26]; exact heap_alloc_new w _
  have X0 : Ext w (w.alloc (.cells #[.int .i64 0, .int .i64 0, .int .i64 0, .int .i64 0, .int .i64 0, .int .i64 0, .int .i64 0, .int .i64 0, .int .i64 0, .int .i64 0, .int .i64 0, .int .i64 0, .int .i64 0, .int .i64 0, .int .i64 0, .int .i64 0, .int .i64 0, .int .i64 0, .int .i64 0, .int .i64 0, .int .i64 0, .int .i64 0, .int .i64 0, .int .i64 0, .int .i64 0, .int .i64 0] 36)) := (Ext.refl _).alloc _
  go_enter Try.func41, Try.ntmps41
  go_wp2_with fail
  refine (showsW_any ⟨#[]⟩ ⟨#[]⟩ _ isT0 isT0).mono ?_
  rintro e w1 ⟨rfl, x1⟩
  obtain ⟨R1, hR1⟩ : ∃ RR, RR = (row26 (swR ⟨#[]⟩ ⟨#[]⟩)).toArray := ⟨_, rfl⟩
  rw [← hR1]
  obtain ⟨W2, st2, T2, X2, Y2⟩ := new26 w w1 R1 _ hR1 (X0.trans x1)
  have HR1s : R1.size = 26 := by rw [hR1, List.size_toArray, row26_len]
  have H2 := Lib.hid (show TabR W2 w1.heap.size (fun j => if j < 0 then rwF (fIc t s) j else 1) from T2.congr (fun j _ => by rw [if_neg (by omega)]; exact ones j))
  have HR2 := Lib.hid ((TR0.ext x1).ext Y2)
  have hl2 : w1.heap.size < W2.heap.size := T2.lt
  clear T2 hR1 Y2
  go_wp2_with fail
  refine (countsIn_any 40 s _ HS.out (by decide)).mono ?_
  rintro e w3 ⟨rfl, x3⟩
  obtain ⟨R3, hR3⟩ : ∃ RR, RR = (row26 (rwF (cntF s))).toArray := ⟨_, rfl⟩
  rw [← hR3]
  obtain ⟨W4, st4, T4, X4, Y4⟩ := new26 w w3 R3 _ hR3 (X2.trans x3)
  have HR3s : R3.size = 26 := by rw [hR3, List.size_toArray, row26_len]
  have H4 := Lib.hid ((H2.out.ext x3).ext Y4)
  have HR4 := Lib.hid ((HR2.out.ext x3).ext Y4)
  have HS4 := Lib.hid T4
  clear T4 hR3 Y4 st2 HR2 H2
  go_wp2_with fail
  refine (countsIn_any 20 t _ HT.out (by decide)).mono ?_
  rintro e w5 ⟨rfl, x5⟩
  obtain ⟨R5, hR5⟩ : ∃ RR, RR = (row26 (rwF (cntF t))).toArray := ⟨_, rfl⟩
  have HR5 := Lib.hid hR5
  rw [← hR5]
  have H5 := Lib.hid (H4.out.ext x5)
  have HRR5 := Lib.hid (HR4.out.ext x5)
  have HS5 := Lib.hid (HS4.out.ext x5)
  have X5 : Ext w w5 := X4.trans x5
  clear st4 HR4 H4 HS4 hR5
  have hC1 : w.heap.size + 1 ≤ w1.heap.size := by have := x1.size; simp at this; omega
  have hC13 : w1.heap.size < w3.heap.size := by have := x3.size; omega
  obtain ⟨C1, hC1e⟩ : ∃ C, C = w1.heap.size := ⟨_, rfl⟩
  obtain ⟨C2, hC2e⟩ : ∃ C, C = w3.heap.size := ⟨_, rfl⟩
  rw [← hC1e] at H5 hC1 hC13 ⊢
  rw [← hC2e] at HS5 hC13 ⊢
  obtain ⟨R, hRe⟩ : ∃ C, C = w.heap.size := ⟨_, rfl⟩
  have HRW := Lib.hid hRe
  rw [← hRe] at HRR5 hC1 ⊢
  clear hC1e hC2e hRe
  go_wp2
  go_loopw [19] (fun i wr => ∃ k : Nat, k ≤ 26 ∧ i = .int .i64 k ∧ TabR wr C1 (fun j => if j < k then rwF (fIc t s) j else 1) ∧ TabR wr C2 (rwF (cntF s)) ∧ TabR wr R (fun _ => 0) ∧ Ext w wr) (fun i _ => 26 - (intOf i).toNat)
  case atStart => exact ⟨0, Nat.zero_le _, rfl, H5.out, HS5.out, HRR5.out, X5⟩
  case round =>
    obtain ⟨k, hk, rfl, hT1, hT2, hTR, hx⟩ := hrel
    have HA := Lib.hid hT1
    have HB := Lib.hid hT2
    have HC := Lib.hid hTR
    clear hT1 hT2 hTR
    by_cases hlt : k < 26
    · have hki : (k : Int) < 26 := by omega
      obtain ⟨c, hc⟩ : ∃ c, c = (97 + k).toUInt8 := ⟨_, rfl⟩
      have hix := fun w => ixR R5 k hlt (.int .i64 (cntF t c : Int)) (by rw [HR5.out, row26_arr _ _ hlt]; unfold rwF; rw [hc]) w
      have cB := HB.out.at k hlt
      rw [show rwF (cntF s) k = (cntF s c : Int) by unfold rwF; rw [hc]] at cB
      have fA := HA.out.fr k
      have cA := HA.out.at k hlt
      rw [if_neg (Nat.lt_irrefl k)] at cA
      have HF := Lib.hid (show rwF (fIc t s) k = ((if cntF t c = 0 then 1 else min (cntF s c / cntF t c) 2 : Nat) : Int) by unfold rwF fIc; rw [hc])
      have hn := cntF_le t c
      have hm := cntF_le s c
      obtain ⟨n, hn0⟩ : ∃ n, n = cntF t c := ⟨_, rfl⟩
      obtain ⟨m, hm0⟩ : ∃ m, m = cntF s c := ⟨_, rfl⟩
      rw [← hn0] at hix HF hn
      rw [← hm0] at cB HF hm
      clear hc hn0 hm0
      have HST := Lib.hid (fun (v : Int) (hv : v = rwF (fIc t s) k) => show TabR (wr.setCell ⟨C1, k, none⟩ (.int .i64 v)) C1 (fun j => if j < k + 1 then rwF (fIc t s) j else 1) from (HA.out.set k v).congr (fun j _ => by
        by_cases e : j = k
        · rw [if_pos e, if_pos (by omega), hv, e]
        · rw [if_neg e]
          by_cases e2 : j < k
          · rw [if_pos e2, if_pos (by omega)]
          · rw [if_neg e2, if_neg (by omega)]))
      by_cases h0 : 0 < n
      · have h0i : (0 : Int) < (n : Int) := by omega
        obtain ⟨q, hq⟩ : ∃ q, q = m / n := ⟨_, rfl⟩
        have hqm : q ≤ 40 := by rw [hq]; exact Nat.le_trans (Nat.div_le_self _ _) (by omega)
        have hqi : (m : Int) / (n : Int) = (q : Int) := by rw [hq]; rfl
        have hqw : wrap64 ((m : Int) / (n : Int)) = (q : Int) := by rw [hqi]; exact wrap64_q q (Nat.le_trans hqm (by decide))
        have HV := Lib.hid (HST.out (if 2 < wrap64 ((m : Int) / (n : Int)) then 2 else wrap64 ((m : Int) / (n : Int))) (by
          rw [HF.out, if_neg (Nat.pos_iff_ne_zero.1 h0), ← hq, hqw]
          exact minV q))
        clear hqw hqi
        clear hq HF
        go_wp2
        go_roundw
        case rel => exact ⟨k + 1, by omega, by go_num, HV.out, HB.out.other (by simp; omega) _, HC.out.other (by simp; omega) _, hx.setCell (p := ⟨C1, k, none⟩) (by show w.heap.size ≤ C1; have := HRW.out; omega) _⟩
        case measure => simp [intOf] <;> omega
      · have h0i : ¬ (0 : Int) < (n : Int) := by omega
        have HV := Lib.hid (show TabR wr C1 (fun j => if j < k + 1 then rwF (fIc t s) j else 1) from HA.out.congr (fun j _ => by
          by_cases e : j = k
          · rw [if_neg (by omega), if_pos (by omega), e, HF.out, if_pos (by omega)]; rfl
          · by_cases e2 : j < k
            · rw [if_pos e2, if_pos (by omega)]
            · rw [if_neg e2, if_neg (by omega)]))
        clear HF
        go_wp2
        go_roundw
        case rel => exact ⟨k + 1, by omega, by go_num, HV.out, HB.out, HC.out, hx⟩
        case measure => simp [intOf] <;> omega
    · obtain rfl : k = 26 := by omega
      have HA6 := Lib.hid (HA.out.congr (t' := rwF (fIc t s)) (fun j hj => if_pos hj))
      obtain ⟨CL, hCL⟩ : ∃ CL, CL = row26 (rwF (fIc t s)) := ⟨_, rfl⟩
      have HCL := Lib.hid hCL
      have hcl26 : CL.length = 26 := by rw [hCL, row26_len]
      have hone : ∀ v ∈ CL, v.oneCell' = true := by
        intro v hv
        rw [hCL] at hv
        obtain ⟨i, _, rfl⟩ := List.mem_map.1 hv
        rfl
      have HRG := Lib.hid (fun (w' : World) (hx' : Ext wr w') => show w'.rangeAt C1 0 CL ∧ w'.there R 0 26 ∧ Ext wr w' from ⟨fun j v hv => by
        have h9 := HA6.out.ext hx'
        have hj : j < 26 := by
          rcases Nat.lt_or_ge j 26 with h | h
          · exact h
          · rw [List.getElem?_eq_none (by rw [hcl26]; exact h)] at hv; cases hv
        rw [Nat.zero_add, h9.at j hj]
        rw [hCL, row26_at _ j hj] at hv
        exact hv, fun j hj => by
        have h9 := HC.out.ext hx'
        rw [Nat.zero_add]
        exact ⟨by rw [h9.at j hj]; rfl, h9.fr j⟩, hx'⟩)
      have hu36 := Try.underlying36
      have hi36 : (Try.prog.info? 36).map (·.size) = some CL.length := by rw [hcl26]; kernel_rfl
      clear hCL
      have HRA := Lib.hid (fun (w' : World) (hx' : Ext wr w') => (HRG.out w' hx').1)
      have hE := beqU (tB (shw (fIc t s) t.data.toList)) s
      go_wp2
      refine wp_region_noPanic ?_
      refine wp_region_held_drew (S := fun w' => w'.rangeAt C1 0 CL) (by kernel_rfl) (HRA.out _ (Ext.refl _).drew) (fun hHeld => ?_)
      refine' wpAnyH_take (i := 0) (oi := { dst := some 34, op := Op.load 36 (Operand.tmp 6), type := 36, pos := "l4_broken.go:117", after := #[], guard := none }) (v := .agg CL.toArray) rfl (by kernel_rfl) (by kernel_rfl) (by kernel_rfl) (fun _ _ _ h => h) (yieldsIf_load_mid (by rfl) _ _ rfl C1 0 rfl CL _ (fun _ h => h) hu36 rfl hi36) hHeld ?_
      try simp only [Act.put, List.setIfInBounds_toArray, List.set_cons_zero, List.set_cons_succ]
      refine' wpAnyH_take (i := 1) (oi := { dst := some 35, op := Op.load 36 (Operand.tmp 6), type := 36, pos := "l4_broken.go:117", after := #[], guard := none }) (v := .agg CL.toArray) rfl (by kernel_rfl) (by kernel_rfl) (by kernel_rfl) (fun _ _ _ h => h) (yieldsIf_load_mid (by rfl) _ _ rfl C1 0 rfl CL _ (fun _ h => h) hu36 rfl hi36) hHeld ?_
      try simp only [Act.put, List.setIfInBounds_toArray, List.set_cons_zero, List.set_cons_succ]
      refine' wpAnyH_take (i := 2) (oi := { dst := some 36, op := Op.move (Operand.tmp 0), type := 9, pos := "l4_broken.go:117", after := #[], guard := none }) (v := .string t) rfl (by kernel_rfl) (by kernel_rfl) (by kernel_rfl) (fun _ _ _ h => h) (Or.inl ⟨by rfl, fun w _ => by go_simp⟩) hHeld ?_
      try simp only [Act.put, List.setIfInBounds_toArray, List.set_cons_zero, List.set_cons_succ]
      refine' wpAnyH_take (i := 4) (oi := { dst := some 38, op := Op.move (Operand.tmp 1), type := 9, pos := "l4_broken.go:117", after := #[{ on := 6, ground := Ground.gcOnly Departure.lateStores }], guard := none }) (v := .string s) rfl (by kernel_rfl) (by kernel_rfl) (by kernel_rfl) (fun _ _ _ h => h) (Or.inl ⟨by rfl, fun w _ => by go_simp⟩) hHeld ?_
      try simp only [Act.put, List.setIfInBounds_toArray, List.set_cons_zero, List.set_cons_succ]
      refine wpAnyH_ready (rs := [3]) (by kernel_rfl) (by simp) ?_
      refine AllReadyH.cons rfl (fun K3 hK3 => ?_) AllReadyH.nil
      go_simp
      have hsh := showI_any (fIc t s) t wr.drew (fIc_le t s) HT.out
      rw [← HCL.out] at hsh
      obtain ⟨T, hTT⟩ : ∃ T, T = tB (shw (fIc t s) t.data.toList) := ⟨_, rfl⟩
      have HTT := Lib.hid hTT
      rw [← hTT] at hsh hE
      clear hTT
      refine hsh.mono ?_
      rintro e w9 ⟨rfl, x9⟩
      have Y9 : Ext wr w9 := (Ext.refl _).drew.trans x9
      obtain ⟨W9, st9, g9, X9, B9⟩ := row26_store2 w9 R (fun _ => 0) (rwF (fIc t s)) (HC.out.ext Y9) (hx.trans Y9) (by have := HRW.out; omega) CL HCL.out
      have HG9 := Lib.hid g9
      have HB9 := Lib.hid (show W9.rangeAt C1 0 CL from fun j v hv => by
        have h9 := HRA.out _ Y9 j v hv
        rw [← h9]
        exact World.cell?_of_block (B9 C1 (by omega)))
      clear g9 B9 hsh
      refine hK3.out _ _ (HRA.out _ Y9) (fun hHeld2 => ?_)
      clear hK3 K3
      try simp only [Act.put, List.setIfInBounds_toArray, List.set_cons_zero, List.set_cons_succ]
      refine' wpAnyH_take (i := 5) (oi := { dst := some 39, op := Op.binOp BinOp.eql 9 (Operand.tmp 37) (Operand.tmp 38) 9, type := 4, pos := "l4_broken.go:117", after := #[{ on := 3, ground := Ground.data }, { on := 4, ground := Ground.data }, { on := 6, ground := Ground.gcOnly Departure.lateStores }], guard := none }) (v := .bool (decide (T = s))) rfl (by kernel_rfl) (by kernel_rfl) (by kernel_rfl) (fun _ _ _ h => h) (Or.inl ⟨by rfl, fun w _ => by go_simp; first | done | rw [hE]⟩) hHeld2 ?_
      try simp only [Act.put, List.setIfInBounds_toArray, List.set_cons_zero, List.set_cons_succ]
      refine wpAnyH_ready (rs := [6]) (by kernel_rfl) (by simp) ?_
      refine AllReadyH.cons rfl (fun K6 hK6 => ?_) AllReadyH.nil
      have HTH := Lib.hid (HRG.out _ Y9).2.1
      have HSC := Lib.hid (store_CL st9 hcl26 hone HTH.out)
      have HTH2 := HTH.out
      rw [if_pos (by rfl)]
      refine wp_store_mid _ _ _ rfl _ _ (List.toArray CL) rfl rfl (by rw [List.size_toArray, hcl26]; exact HTH2) (by rw [List.size_toArray]; exact hi36) (all_oneCell_toArray hone) ?_
      try simp only [Act.put]
      rw [HSC.out]
      refine hK6.out _ _ HB9.out (fun hHeld3 => ?_)
      clear hK6 K6
      refine' wpAnyH_take (i := 7) (oi := { dst := some 5, op := Op.assign (Operand.tmp 39), type := 4, pos := "l4_broken.go:117", after := #[{ on := 5, ground := Ground.data }, { on := 6, ground := Ground.chain }, { on := 0, ground := Ground.phase }, { on := 1, ground := Ground.phase }, { on := 2, ground := Ground.phase }, { on := 3, ground := Ground.phase }, { on := 4, ground := Ground.phase }, { on := 5, ground := Ground.phase }, { on := 6, ground := Ground.phase }], guard := none }) (v := .bool (decide (T = s))) rfl (by kernel_rfl) (by kernel_rfl) (by kernel_rfl) (fun _ _ _ h => h) (Or.inl ⟨by rfl, fun w _ => by go_simp⟩) hHeld3 ?_
      try simp only [Act.put, List.setIfInBounds_toArray]
      refine wpAnyH_done (by kernel_rfl) (NoPanic.normal ?_) _
      go_wp2
      have HN := Lib.hid (show (Try.prog.info? 36).map (·.size) = some (row26 (rwF (fIc t s))).toArray.size by rw [List.size_toArray, row26_len]; kernel_rfl)
      exact bodyPost_ret (results_cell2 (P := Try.prog) (p := 4) (u := 5) (ty := 36) rfl _ _ R 36 (row26 (rwF (fIc t s))).toArray (0, 0) _ rfl HG9.out Try.underlying36 rfl HN.out) rfl ⟨by rw [HTT.out]; rfl, X9⟩
end Go.Proofs.Ytcfoicogaggkbaa
