/- The numbers that fit clues, in order: by the program. No conditions. -/
import Derived.Test.YtpdnpphjlnlneaaGreatDoorSol
import Derived.Test.YtpdnpphjlnlneaaGreatDoorHsn
namespace Go.Proofs.YtpdnpphjlnlneaaGreatDoor
open Go.RowKit

set_option maxRecDepth 100000 in
set_option maxHeartbeats 2000000 in
theorem notF_any (g : Cl) (n : ByteArray) (C : Nat) (w : World) (h : isDg 2 3 n = true) (hc : isCl (n.size : Int) g = true) (hC : C < w.heap.size) (hcell : w.cell? ⟨C, 0, none⟩ = some (.string n)) : Calls Tryz.prog 91 #[.agg #[.int .i64 g.k, .int .i64 g.a, .int .i64 g.b], .pointer (some ⟨C, 0, none⟩)] w fun e w' => e = .returned (.bool (!fitC g n)) ∧ Ext w w' := by
  have HF := Lib.hid (fun w => fits_any g n w h hc)
  obtain ⟨x, hx⟩ : ∃ x, x = fitC g n := ⟨_, rfl⟩
  rw [← hx] at HF ⊢
  clear hx h hc
  have X0 := Lib.hid (show Ext w (w.alloc (.cells #[.int .i64 g.k, .int .i64 g.a, .int .i64 g.b] 26)) from (Ext.refl w).alloc _)
  have hc2 := (X0.out.cell (p := ⟨C, 0, none⟩) hC).trans hcell
  clear hcell
  cases x
  · go_enter Tryz.func91, Tryz.ntmps91
    go_wp2_with fail
    refine (HF.out _).mono ?_
    rintro e w1 ⟨rfl, x1⟩
    go_wp2
    go_ret
    exact ⟨rfl, X0.out.trans x1⟩
  · go_enter Tryz.func91, Tryz.ntmps91
    go_wp2_with fail
    refine (HF.out _).mono ?_
    rintro e w1 ⟨rfl, x1⟩
    go_wp2
    go_ret
    exact ⟨rfl, X0.out.trans x1⟩

theorem fitN_no {gs : List Cl} {n : ByteArray} (j : Nat) (h : j < gs.length) (h2 : fitC gs[j] n = false) : fitA gs n = false := by
  unfold fitA
  rw [List.all_eq_false]
  exact ⟨gs[j], List.getElem_mem h, by simp [h2]⟩
set_option maxRecDepth 100000 in
set_option maxHeartbeats 2000000 in
theorem idxC_any (v : Value) (gs : List Cl) (n : ByteArray) (C : Nat) (w : World) (hs : Cls w v gs) (h : isDg 2 3 n = true) (hc : ∀ g ∈ gs, isCl (n.size : Int) g = true) (hC : C < w.heap.size) (hcell : w.cell? ⟨C, 0, none⟩ = some (.string n)) : Calls Tryz.prog 113 #[v, .func (.func 91) #[] #[.pointer (some ⟨C, 0, none⟩)]] w fun e w' => (∃ r : Int, e = .returned (.int .i64 r) ∧ decide (0 ≤ r) = !fitA gs n) ∧ Ext w w' := by
  have H := Lib.hid hs
  have HA := Lib.hid hc
  have HCE := Lib.hid hcell
  have hl := hs.1
  unfold maxLen at hl
  obtain ⟨a, cap, hv, _⟩ := hs.at
  rw [hv] at H ⊢
  clear hv hs hc hcell
  go_enter Tryz.func113, Tryz.ntmps113
  go_wp2
  go_loopw [8] (fun i wr => ∃ j : Nat, j ≤ gs.length ∧ i = .int .i64 j ∧ fitN gs n j = true ∧ Ext w wr) (fun i _ => gs.length - (intOf i).toNat)
  case atStart => exact ⟨0, Nat.zero_le _, rfl, rfl, Ext.refl _⟩
  case round =>
    obtain ⟨j, hj, rfl, hall, hx⟩ := hrel
    have HY := Lib.hid hx
    have HAL := Lib.hid hall
    clear hx hall
    by_cases hlt : j < gs.length
    · rcases (H.out.ext HY.out).2.2 with ⟨h3, _⟩ | ⟨b, off, cap', h1, hb1, hcc⟩
      · rw [h3] at hlt; exact absurd hlt (by simp)
      have ha : a = some ⟨b, off, none⟩ := by injection h1
      have HCK := Lib.hid (hcc j hlt)
      have HFS := Lib.hid (fitN_succ gs n j hlt)
      have HFN := Lib.hid (fun hh => fitN_no (n := n) j hlt hh)
      have HGA := Lib.hid (HA.out gs[j] (List.getElem_mem hlt))
      obtain ⟨g, hg⟩ : ∃ g, g = gs[j] := ⟨_, rfl⟩
      rw [← hg] at HCK HFS HGA HFN
      clear hcc h1 hg
      have HPF := Lib.hid (fun (w' : World) (x' : Ext w w') => notF_any g n C w' h HGA.out (Nat.lt_of_lt_of_le hC x'.size) ((x'.cell (p := ⟨C, 0, none⟩) hC).trans HCE.out))
      obtain ⟨gk, ga, gb⟩ := g
      rw [ha]
      cases hz : fitC ⟨gk, ga, gb⟩ n
      · have HV := Lib.hid (HFN.out hz)
        rw [hz] at HPF
        clear hz
        go_wp2_with (first | (refine wpList_load_mid rfl _ _ rfl b (off + j * 3) rfl [.int .i64 gk, .int .i64 ga, .int .i64 gb] _ HCK.out Tryz.underlying26 rfl (ci_size (Cl.mk gk ga gb)) ?_) | (go_at_call 91; refine (HPF.out _ HY.out).mono ?_; rintro e w2 ⟨rfl, x2⟩; have X2 := Lib.hid (HY.out.trans x2); clear x2))
        go_ret
        exact ⟨⟨_, rfl, by rw [HV.out, decide_eq_true (by omega)]; rfl⟩, X2.out⟩
      · rw [hz] at HPF HFS
        clear hz
        go_wp2_with (first | (refine wpList_load_mid rfl _ _ rfl b (off + j * 3) rfl [.int .i64 gk, .int .i64 ga, .int .i64 gb] _ HCK.out Tryz.underlying26 rfl (ci_size (Cl.mk gk ga gb)) ?_) | (go_at_call 91; refine (HPF.out _ HY.out).mono ?_; rintro e w2 ⟨rfl, x2⟩; have X2 := Lib.hid (HY.out.trans x2); clear x2))
        go_roundw
        case rel => exact ⟨j + 1, by omega, by go_num, by rw [HFS.out, HAL.out]; rfl, X2.out⟩
        case measure => simp [intOf]; omega
    · have HV := Lib.hid (show fitA gs n = true by have := HAL.out; rw [fitN_all gs n j (by omega)] at this; exact this)
      go_wp2
      go_ret
      exact ⟨⟨_, rfl, by rw [HV.out]; rfl⟩, HY.out⟩

theorem conC_any (v : Value) (gs : List Cl) (n : ByteArray) (C : Nat) (w : World) (hs : Cls w v gs) (h : isDg 2 3 n = true) (hc : ∀ g ∈ gs, isCl (n.size : Int) g = true) (hC : C < w.heap.size) (hcell : w.cell? ⟨C, 0, none⟩ = some (.string n)) : Calls Tryz.prog 90 #[v, .func (.func 91) #[] #[.pointer (some ⟨C, 0, none⟩)]] w fun e w' => e = .returned (.bool (!fitA gs n)) ∧ Ext w w' := by
  have H := Lib.hid (idxC_any v gs n C w hs h hc hC hcell)
  clear h hs hc hC hcell
  obtain ⟨b, hb⟩ : ∃ b, b = !fitA gs n := ⟨_, rfl⟩
  rw [← hb] at H ⊢
  clear hb
  go_enter Tryz.func90, Tryz.ntmps90
  go_wp2_with fail
  refine H.out.mono ?_
  rintro e w' ⟨⟨r, rfl, hr⟩, x1⟩
  have HR := Lib.hid hr
  clear hr
  go_wp2_with fail
  go_ret
  exact ⟨ret_bool HR.out, x1⟩

set_option maxRecDepth 100000 in
set_option maxHeartbeats 4000000 in
theorem solP_any (d : Nat) (v : Value) (gs : List Cl) (w : World) (h : Cls w v gs) (hd1 : 2 ≤ d) (hd2 : d ≤ 3) (_hl : gs.length ≤ 6) (hc : ∀ g ∈ gs, isCl (d : Int) g = true) :
    Calls Tryz.prog 69 #[.agg #[.int .i64 (d : Int), v]] w fun e w' => ∃ u, e = .returned u ∧ RowS w.heap.size w' u (sols d gs) ∧ Ext w w' := by
  have H := Lib.hid h
  have HC := Lib.hid hc
  have hp := pow_bd3 hd2
  obtain ⟨P, hP⟩ : ∃ P, P = 10 ^ d := ⟨_, rfl⟩
  have hmf : ∀ (fn : Fn) (first cap : Array Value) (w : World), (Instr.makeFunc fn first cap).run Tryz.prog w = .ok (.func fn first cap) w := fun _ _ _ _ => rfl
  have HT := Lib.hid (fun w => (hP ▸ allNum_any d w (by omega) : Calls Tryz.prog 88 #[.int .i64 (d : Int)] w fun e w' => e = .returned (.int .i64 ((P : Nat) : Int)) ∧ w = w'))
  have HS := Lib.hid (show solK d gs P = sols d gs by rw [hP]; rfl)
  rw [← hP] at hp
  have X0 := Lib.hid (show Ext w (w.alloc (.cells #[.int .i64 (d : Int), v] 37)) from (Ext.refl w).alloc _)
  obtain ⟨a, cap, hv, hnil⟩ := h.at
  rw [hv] at H X0 ⊢
  clear hv h hnil hc hP
  go_enter Tryz.func69, Tryz.ntmps69
  go_wp2_with (go_at_call 88; refine (HT.out _).mono ?_; rintro e w' ⟨rfl, rfl⟩)
  go_loopw [3, 9] (fun o i wr => ∃ k : Nat, k ≤ P ∧ i = .int .i64 k ∧ RowS (w.heap.size + 1) wr o (solK d gs k) ∧ Ext (w.alloc (.cells #[.int .i64 (d : Int), .slice a gs.length cap] 37)) wr) (fun _ i _ => P - (intOf i).toNat)
  case atStart => exact ⟨0, Nat.zero_le _, rfl, RowS.nil _ _, Ext.refl _⟩
  case round =>
    obtain ⟨k, hk, rfl, hr, hx⟩ := hrel
    have HR := Lib.hid hr
    have HX := Lib.hid hx
    clear hr hx
    have hkl := solK_len d gs k
    by_cases hlt : k < P
    · have hsz := numT10_size k d
      have hdg := numT10_dg k d hd1 hd2
      have HA := Lib.hid (all_isCl HC.out k)
      have HSU := Lib.hid (show solK d gs (k + 1) = if fitA gs (numT10 k d) then solK d gs k ++ [numT10 k d] else solK d gs k from rfl)
      have HPI := Lib.hid (fun w => (show Calls Tryz.prog 89 #[.int .i64 (k : Int), .int .i64 10, .int .i64 (d : Int)] w fun e w' => e = .returned (.string (numT10 k d)) ∧ Ext w w' from pinOf_any 10 k d w (by omega) (by omega) (by omega) (by omega) (by omega)))
      obtain ⟨n, hn⟩ : ∃ n, n = numT10 k d := ⟨_, rfl⟩
      rw [← hn] at hsz hdg HA HSU HPI
      clear hn
      obtain ⟨a1, a2⟩ := pz_cells HX.out
      go_wp2_with fail
      refine (HPI.out _).mono ?_
      rintro e w1 ⟨rfl, x1⟩
      have XN := Lib.hid (show Ext w1 (w1.alloc (.cells #[.string n] 9)) from (Ext.refl w1).alloc _)
      have X1 := Lib.hid (HX.out.trans (x1.trans XN.out))
      have R1 := Lib.hid (HR.out.ext (x1.trans XN.out))
      have HCC := Lib.hid (conC_any (.slice a gs.length cap) gs n w1.heap.size _ (H.out.ext (X0.out.trans X1.out)) hdg HA.out (by simp) (cell_of (heap_alloc_new w1 (.cells #[.string n] 9)) (j := 0) rfl).1)
      have hcn := (cell_of (heap_alloc_new w1 (.cells #[.string n] 9)) (j := 0) rfl).1
      have hltn : w1.heap.size < (w1.alloc (.cells #[.string n] 9)).heap.size := by simp
      obtain ⟨b1, b2⟩ := pz_cells X1.out
      have hkl2 : (solK d gs k).length ≤ 1000000 := by omega
      clear x1 a1 a2
      cases hf : fitA gs n
      · rw [hf, if_neg (by simp)] at HSU
        rw [hf] at HCC
        clear hf
        go_wp2_with (go_at_call 90; refine HCC.out.mono ?_; rintro e w2 ⟨rfl, x2⟩; have X2 := Lib.hid (X1.out.trans x2); have R2 := Lib.hid (R1.out.ext x2); clear x2)
        go_roundw
        case rel => exact ⟨k + 1, by omega, by go_num, by rw [HSU.out]; exact R2.out, X2.out⟩
        case measure => simp [intOf]; omega
      · rw [hf, if_pos rfl] at HSU
        rw [hf] at HCC
        clear hf
        go_wp2_with (first | (go_at_call 90; refine HCC.out.mono ?_; rintro e w2 ⟨rfl, x2⟩; have X2 := Lib.hid (X1.out.trans x2); have R2 := Lib.hid (R1.out.ext x2); have hcn2 := (x2.cell (p := ⟨w1.heap.size, 0, none⟩) hltn).trans hcn; clear x2) | (at_builtin; refine app_str rfl _ _ rfl (w.alloc (.cells #[.int .i64 (d : Int), .slice a gs.length cap] 37)) (w.heap.size + 1) _ _ _ _ rfl (by exact R2.out) X2.out (by simp) (by have := X2.out.size; simpa using this) (by exact hkl2) rfl ?_; intro v9 w9 r9 x9 _; have R9 := Lib.hid r9; have X9 := Lib.hid x9; clear r9 x9))
        go_roundw
        case rel => exact ⟨k + 1, by omega, by go_num, by rw [HSU.out]; exact R9.out, X9.out⟩
        case measure => simp [intOf]; omega
    · have HE := Lib.hid (show solK d gs k = sols d gs by rw [← HS.out]; congr 1; omega)
      go_wp2
      go_ret
      exact ⟨_, rfl, by rw [← HE.out]; exact HR.out.down (by omega), X0.out.trans HX.out⟩
end Go.Proofs.YtpdnpphjlnlneaaGreatDoor
