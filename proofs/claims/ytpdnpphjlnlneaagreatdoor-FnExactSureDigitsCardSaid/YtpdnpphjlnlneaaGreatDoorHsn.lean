/- The recovered door: hasNone. No conditions. -/
import Derived.Test.YtpdnpphjlnlneaaGreatDoorClp
namespace Go.Proofs.YtpdnpphjlnlneaaGreatDoor
open Go.RowKit

theorem ta_yes (k a b : Value) (w : World) : (Instr.typeAssert (.iface 26 (.agg #[k, a, b])) 20 26 true).run Tryz.prog w = .ok (.tuple #[.agg #[k, a, b], .bool true]) w := by kernel_rfl
theorem ta_no (w : World) : (Instr.typeAssert .nilIface 20 26 true).run Tryz.prog w = .ok (.tuple #[.agg #[.int .i64 0, .int .i64 0, .int .i64 0], .bool false]) w := by kernel_rfl
theorem catch_yes (p : Addr) (k a b : Int) (x : Value) (w : World) (hc : w.cell? p = some x) (hz : w.frozen? p = false) : CallsD Tryz.prog 120 #[.pointer (some p)] (.panicking (rais k a b)) w fun e u' w' => e = .returned (.tuple #[]) ∧ u' = .panicking [{ v := .iface 26 (.agg #[.int .i64 k, .int .i64 a, .int .i64 b]), recovered := true }] ∧ w' = w.setCell p (.bool true) := by
  have hta := fun w => ta_yes (.int .i64 k) (.int .i64 a) (.int .i64 b) w
  unfold rais
  refine callsD_of_wpS Tryz.func120 rfl fun c₀ cs hu => ?_
  apply wpS_region
  simp [wpOpsS, go_sem, recoverD, hu, Tryz.ntmps120, hta, hc, hz, bodyPostS, results, Tryz.results120]
theorem catch_no (p : Addr) (x : Value) (w : World) (hc : w.cell? p = some x) (hz : w.frozen? p = false) : CallsD Tryz.prog 120 #[.pointer (some p)] .returning w fun e u' w' => e = .returned (.tuple #[]) ∧ u' = .returning ∧ w' = w.setCell p (.bool false) := by
  have hta := fun w => ta_no w
  refine callsD_of_wpS Tryz.func120 rfl fun c₀ cs hu => ?_
  apply wpS_region
  simp [wpOpsS, go_sem, recoverD, hu, Tryz.ntmps120, hta, hc, hz, bodyPostS, results, Tryz.results120]
  cases c₀
  simp_all

set_option maxHeartbeats 2000000 in
theorem hasN_any (d : Int) (v : Value) (gs : List Cl) (w : World) (h : Cls w v gs) (hd : 0 ≤ d ∧ d ≤ 1048576) : Calls Tryz.prog 97 #[.int .i64 d, v] w fun e w' => e = .returned (.bool (!gs.all (isCl d))) ∧ Ext w w' := by
  have hmf : ∀ (fn : Fn) (first cap : Array Value) (w : World), (Instr.makeFunc fn first cap).run Tryz.prog w = .ok (.func fn first cap) w := fun _ _ _ _ => rfl
  have H := Lib.hid h
  have hl := h.1
  unfold maxLen at hl
  have X0 := Lib.hid (show Ext w (w.alloc (.cells #[.bool false] 4)) from (Ext.refl w).alloc _)
  obtain ⟨a, cap, hv, hnil⟩ := h.at
  rw [hv] at H ⊢
  clear hv h hnil
  go_enter_defers Tryz.func97, Tryz.ntmps97
  go_wp2
  go_loopw [10] (fun i wr => ∃ k : Nat, k ≤ gs.length ∧ i = .int .i64 k ∧ (gs.take k).all (isCl d) = true ∧ Ext (w.alloc (.cells #[.bool false] 4)) wr) (fun i _ => gs.length - (intOf i).toNat)
  case atStart => exact ⟨0, Nat.zero_le _, rfl, rfl, Ext.refl _⟩
  case round =>
    obtain ⟨k, hk, rfl, hall, hx⟩ := hrel
    have HA := Lib.hid hall
    have HX := Lib.hid hx
    clear hall hx
    by_cases hlt : k < gs.length
    · rcases (H.out.ext (X0.out.trans HX.out)).2.2 with ⟨h3, _⟩ | ⟨b, off, cap', h1, hb1, hc⟩
      · rw [h3] at hlt; exact absurd hlt (by simp)
      have ha : a = some ⟨b, off, none⟩ := by injection h1
      have HCK := Lib.hid (hc k hlt)
      have HT := Lib.hid (take_allC (p := isCl d) gs k hlt)
      have HF := Lib.hid (fun (h : isCl d gs[k] = false) => all_noC (p := isCl d) k hlt h)
      obtain ⟨g, hg⟩ : ∃ g, g = gs[k] := ⟨_, rfl⟩
      rw [← hg] at HCK HT HF
      obtain ⟨gk, ga, gb⟩ := g
      clear hc h1 hg
      rw [ha]
      cases hbo : isCl d ⟨gk, ga, gb⟩
      · have HV := Lib.hid (HF.out hbo)
        have HC := Lib.hid (fun w => must_no d gk ga gb w hbo hd)
        clear hbo
        go_wp2_with (first | (refine wpList_load_mid rfl _ _ rfl b (off + k * 3) rfl [.int .i64 gk, .int .i64 ga, .int .i64 gb] _ HCK.out Tryz.underlying26 rfl (ci_size (Cl.mk gk ga gb)) ?_) | (go_at_call 121; refine (HC.out _).mono ?_; rintro e w' ⟨rfl, x1⟩; have X1 := Lib.hid (HX.out.trans (((Ext.refl wr).alloc (.cells #[.int .i64 gk, .int .i64 ga, .int .i64 gb] 26)).trans x1)); clear x1))
        have hblk : w'.heap[w.heap.size]? = some (.cells #[.bool false] 4 (0, 0)) := (X1.out.block w.heap.size (by simp)).trans (heap_alloc_new w _)
        obtain ⟨hc0, hf0⟩ := cell_of hblk (j := 0) rfl
        refine leaves_cons (f := 120) (args := #[.pointer (some ⟨w.heap.size, 0, none⟩)]) (by simp) (by simp [go_sem]) ?_
        refine (catch_yes ⟨w.heap.size, 0, none⟩ gk ga gb _ _ hc0 hf0).mono ?_
        rintro e u' w'' ⟨rfl, rfl, rfl⟩
        have hs1 := set_cells2 (j := 0) (u := .bool true) hblk
        obtain ⟨hc1, hf1⟩ := cell_of hs1 (j := 0) rfl
        simp [Leaves, settle, results, Tryz.results97, go_sem, hc1]
        exact ⟨by simpa using HV.out, (X0.out.trans X1.out).setCell (p := ⟨w.heap.size, 0, none⟩) (Nat.le_refl _) _⟩
      · have HN := Lib.hid (show (gs.take (k + 1)).all (isCl d) = true by rw [HT.out, HA.out, hbo]; rfl)
        have HC := Lib.hid (fun w => must_yes d gk ga gb w hbo hd)
        clear hbo
        go_wp2_with (first | (refine wpList_load_mid rfl _ _ rfl b (off + k * 3) rfl [.int .i64 gk, .int .i64 ga, .int .i64 gb] _ HCK.out Tryz.underlying26 rfl (ci_size (Cl.mk gk ga gb)) ?_) | (go_at_call 121; refine (HC.out _).mono ?_; rintro e w' ⟨rfl, x1⟩; have X1 := Lib.hid (HX.out.trans (((Ext.refl wr).alloc (.cells #[.int .i64 gk, .int .i64 ga, .int .i64 gb] 26)).trans x1)); clear x1))
        go_roundw
        case rel => exact ⟨k + 1, by omega, by go_num, HN.out, X1.out⟩
        case measure => simp [intOf]; omega
    · have HV := Lib.hid (show gs.all (isCl d) = true by have := HA.out; rw [List.take_of_length_le (by omega)] at this; exact this)
      have hblk : wr.heap[w.heap.size]? = some (.cells #[.bool false] 4 (0, 0)) := (HX.out.block w.heap.size (by simp)).trans (heap_alloc_new w _)
      obtain ⟨hc0, hf0⟩ := cell_of hblk (j := 0) rfl
      have hs1 := set_cells2 (j := 0) (u := .bool false) hblk
      obtain ⟨hc1, hf1⟩ := cell_of hs1 (j := 0) rfl
      go_wp2
      refine leaves_cons (f := 120) (args := #[.pointer (some ⟨w.heap.size, 0, none⟩)]) (by simp) (by simp [go_sem]) ?_
      refine (catch_no ⟨w.heap.size, 0, none⟩ _ _ hc1 hf1).mono ?_
      rintro e u' w'' ⟨rfl, rfl, rfl⟩
      have hs2 := set_cells2 (j := 0) (u := .bool false) hs1
      obtain ⟨hc2, hf2⟩ := cell_of hs2 (j := 0) rfl
      simp [Leaves, settle, results, Tryz.results97, go_sem, hc2]
      exact ⟨by simpa using HV.out, ((X0.out.trans HX.out).setCell (p := ⟨w.heap.size, 0, none⟩) (Nat.le_refl _) _).setCell (p := ⟨w.heap.size, 0, none⟩) (Nat.le_refl _) _⟩

theorem isHidL_any (d : Int) (w : World) : Calls Tryz.prog 96 #[.int .i64 d] w fun e w' => e = .returned (.bool (inW d 2 3)) ∧ w = w' := by
  by_cases h1 : 2 ≤ d
  · by_cases h2 : d ≤ 3
    · have HV := Lib.hid (inW_yes h1 h2)
      go_enter Tryz.func96, Tryz.ntmps96
      go_wp2
      go_ret
      exact ⟨ret_bool (by rw [HV.out] <;> simp [h2]), rfl⟩
    · have HV := Lib.hid (inW_hi (n := d) (lo := 2) (hi := 3) (by omega))
      go_enter Tryz.func96, Tryz.ntmps96
      go_wp2
      go_ret
      exact ⟨ret_bool (by rw [HV.out] <;> simp <;> omega), rfl⟩
  · have HV := Lib.hid (inW_lo (n := d) (lo := 2) (hi := 3) (by omega))
    go_enter Tryz.func96, Tryz.ntmps96
    go_wp2
    go_ret
    exact ⟨ret_bool (by rw [HV.out]), rfl⟩

theorem areC_any (d : Int) (v : Value) (gs : List Cl) (w : World) (h : Cls w v gs) : Calls Tryz.prog 81 #[.int .i64 d, v] w fun e w' => e = .returned (.bool (inW d 2 3 && gs.all (isCl d))) ∧ Ext w w' := by
  have H := Lib.hid h
  obtain ⟨a, cap, hv, hnil⟩ := h.at
  rw [hv] at H ⊢
  clear hv h hnil
  cases h1 : inW d 2 3
  · go_enter Tryz.func81, Tryz.ntmps81
    go_wp2_with (go_at_call 96; refine (isHidL_any _ _).mono ?_; rintro e w' ⟨rfl, rfl⟩; rw [h1])
    go_ret
    exact ⟨rfl, Ext.refl _⟩
  · have hb := inW_bd' h1
    obtain ⟨x, hx⟩ : ∃ x, x = gs.all (isCl d) := ⟨_, rfl⟩
    have HC := Lib.hid (fun w (h : Cls w (.slice a gs.length cap) gs) => hasN_any d _ gs w h (by omega))
    rw [← hx] at HC ⊢
    clear hx
    cases x
    · go_enter Tryz.func81, Tryz.ntmps81
      go_wp2_with (first | (go_at_call 96; refine (isHidL_any _ _).mono ?_; rintro e w' ⟨rfl, rfl⟩; rw [h1]) | (go_at_call 97; refine (HC.out _ H.out).mono ?_; rintro e w' ⟨rfl, x1⟩))
      go_ret
      exact ⟨rfl, x1⟩
    · go_enter Tryz.func81, Tryz.ntmps81
      go_wp2_with (first | (go_at_call 96; refine (isHidL_any _ _).mono ?_; rintro e w' ⟨rfl, rfl⟩; rw [h1]) | (go_at_call 97; refine (HC.out _ H.out).mono ?_; rintro e w' ⟨rfl, x1⟩))
      go_ret
      exact ⟨rfl, x1⟩

theorem cls1 (w : World) (g : Cl) (T : TypeId) (h : g.ok) : Cls (w.alloc (.cells #[.int .i64 g.k, .int .i64 g.a, .int .i64 g.b] T)) (.slice (some ⟨w.heap.size, 0, none⟩) 1 1) [g] := by
  refine ⟨by unfold maxLen; simp, by simpa using h, .inr ⟨w.heap.size, 0, 1, rfl, by simp, fun j hj i u hu => ?_⟩⟩
  obtain rfl : j = 0 := by simpa using hj
  obtain ⟨c0, c1, c2⟩ := cl_cells (Ext.refl (w.alloc (.cells #[.int .i64 g.k, .int .i64 g.a, .int .i64 g.b] T)))
  match i, hu with
  | 0, hu => rw [← hu]; exact c0
  | 1, hu => rw [← hu]; exact c1
  | 2, hu => rw [← hu]; exact c2
theorem isClP_any (d k a b : Int) (w : World) (h : (Cl.mk k a b).ok) : Calls Tryz.prog 52 #[.int .i64 d, .agg #[.int .i64 k, .int .i64 a, .int .i64 b]] w fun e w' => e = .returned (.bool (inW d 2 3 && clB d k a b)) ∧ Ext w w' := by
  have h1 := cls1 (w.alloc (.cells #[.int .i64 k, .int .i64 a, .int .i64 b] 26)) (Cl.mk k a b) 26 h
  rw [show (w.alloc (.cells #[.int .i64 k, .int .i64 a, .int .i64 b] 26)).heap.size = w.heap.size + 1 by simp] at h1
  have HC := Lib.hid (areC_any d _ [Cl.mk k a b] _ h1)
  have HV := Lib.hid (show [Cl.mk k a b].all (isCl d) = clB d k a b by simp [isCl])
  rw [HV.out] at HC
  clear h HV h1
  go_enter Tryz.func52, Tryz.ntmps52
  go_wp2_with (go_at_call 81; refine HC.out.mono ?_; rintro e w' ⟨rfl, x1⟩)
  go_ret
  exact ⟨rfl, (((Ext.refl _).alloc _).alloc _).trans x1⟩

set_option maxHeartbeats 1000000 in
theorem isPzP_any (d : Int) (v : Value) (gs : List Cl) (w : World) (h : Cls w v gs) : Calls Tryz.prog 58 #[.agg #[.int .i64 d, v]] w fun e w' => e = .returned (.bool (isPz d gs)) ∧ Ext w w' := by
  have H := Lib.hid h
  have hl := h.1
  unfold maxLen at hl
  have X0 := Lib.hid (show Ext w (w.alloc (.cells #[.int .i64 d, v] 37)) from (Ext.refl w).alloc _)
  obtain ⟨a, cap, hv, hnil⟩ := h.at
  rw [hv] at H X0 ⊢
  clear hv h hnil
  by_cases h2 : 6 < gs.length
  · have HV := Lib.hid (isPz_l (d := d) h2)
    go_enter Tryz.func58, Tryz.ntmps58
    go_wp2
    go_ret
    exact ⟨ret_bool HV.out.symm, X0.out⟩
  · have HV := Lib.hid (show (inW d 2 3 && gs.all (isCl d)) = isPz d gs by unfold isPz; rw [decide_eq_true (show gs.length ≤ 6 by omega)]; rfl)
    have HC := Lib.hid (areC_any d (.slice a gs.length cap) gs _ (H.out.ext X0.out))
    rw [HV.out] at HC
    go_enter Tryz.func58, Tryz.ntmps58
    go_wp2_with (go_at_call 81; refine HC.out.mono ?_; rintro e w' ⟨rfl, x1⟩)
    go_ret
    exact ⟨rfl, X0.out.trans x1⟩
end Go.Proofs.YtpdnpphjlnlneaaGreatDoor
