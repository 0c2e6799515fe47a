/- Are they guesses: the program. No conditions. -/
import Derived.Test.YtmpajijnpoekgaaGueB
import Derived.Deep.RegionHeld3
namespace Go.Proofs.Ytmpajijnpoekgaa
open Go.RowKit

theorem isGu_no {z : Nat} {g : Gu} (h : isGu g.p.size g = false) : isGu z g = false := by
  by_cases e : g.p.size = z
  · rw [← e]; exact h
  · unfold isGu; rw [decide_eq_false e]; simp
theorem isGu_ne {z : Nat} {g : Gu} (h : ¬ g.p.size = z) : isGu z g = false := by unfold isGu; rw [decide_eq_false h]; simp
theorem isGu_eq {z : Nat} {g : Gu} (h : isGu g.p.size g = true) (e : g.p.size = z) : isGu z g = true := by rw [← e]; exact h

set_option linter.unusedSimpArgs false in
set_option maxHeartbeats 1000000 in
theorem areG_any (v : Value) (gs : List Gu) (w : World) (h : Gus w v gs) : Calls Try.prog 34 #[v] w fun e w' => e = .returned (.bool (guB gs)) ∧ Ext w w' := by
  have HM := Lib.hid h.2.1
  have HS := Lib.hid h
  have hm := h.1
  unfold maxLen at hm
  obtain ⟨a, cap, hv, hnil⟩ := h.at
  rw [hv] at HS ⊢
  clear hv hnil h v
  by_cases c1 : gs.length < 1
  · have HV := Lib.hid (guB_len (inW_lo (n := (gs.length : Int)) (lo := 1) (hi := 10) (by omega)))
    go_enter Try.func34, Try.ntmps34
    go_wp2
    go_ret
    exact ⟨ret_bool HV.out.symm, Ext.refl _⟩
  by_cases c2 : 10 < gs.length
  · have HV := Lib.hid (guB_len (inW_hi (n := (gs.length : Int)) (lo := 1) (hi := 10) (by omega)))
    go_enter Try.func34, Try.ntmps34
    go_wp2
    go_ret
    exact ⟨ret_bool HV.out.symm, Ext.refl _⟩
  have HI := Lib.hid (inW_yes (n := (gs.length : Int)) (lo := 1) (hi := 10) (by omega) (by omega))
  have hlen : 1 ≤ gs.length := by omega
  rcases HS.out.2.2 with ⟨h2, _⟩ | ⟨b, off, cap', h1, hb, hc⟩
  · rw [h2] at hlen; exact absurd hlen (by simp)
  have ha : a = some ⟨b, off, none⟩ := by injection h1
  rw [ha]
  have HC := Lib.hid hc
  have HB := Lib.hid hb
  clear h1 ha HS hc hb
  go_enter Try.func34, Try.ntmps34
  go_wp2
  go_loopw [15] (fun i wr => ∃ k : Nat, k ≤ gs.length ∧ i = .int .i64 k ∧ (∀ j (hj : j < gs.length), j < k → isGu (z0 gs) gs[j] = true) ∧ Ext w wr) (fun i _ => gs.length - (intOf i).toNat)
  case atStart => exact ⟨0, Nat.zero_le _, rfl, fun j _ h => absurd h (by omega), Ext.refl _⟩
  case round =>
    obtain ⟨k, hk, rfl, hall, hx⟩ := hrel
    have HA := Lib.hid hall
    clear hall
    by_cases hlt : k < gs.length
    · have HCK := Lib.hid (rangeAt_ext (HC.out k hlt) hx HB.out)
      have HC0 := Lib.hid (fun (w' : World) (x' : Ext wr w') => rangeAt_ext (HC.out 0 (by omega)) (hx.trans x') HB.out 0 _ rfl)
      have hbb : b < wr.heap.size := Nat.lt_of_lt_of_le HB.out hx.size
      have HZ := Lib.hid (z0_at (gs := gs) (by omega))
      have HGA := Lib.hid (fun (hh : isGu (z0 gs) gs[k] = false) => guB_at hlt hh)
      have HOK := Lib.hid (HM.out gs[k] (List.getElem_mem hlt))
      have HOK0 := Lib.hid (HM.out gs[0] (List.getElem_mem (by omega)))
      have HNX := Lib.hid (fun (hh : isGu (z0 gs) gs[k] = true) => (show ∀ j (hj : j < gs.length), j < k + 1 → isGu (z0 gs) gs[j] = true from fun j hj hjk => by
        by_cases e : j = k
        · subst e; exact hh
        · exact HA.out j hj (by omega)))
      obtain ⟨g, hg⟩ : ∃ g, g = gs[k] := ⟨_, rfl⟩
      obtain ⟨g0, hg0⟩ : ∃ g0, g0 = gs[0] := ⟨_, rfl⟩
      rw [← hg] at HCK HOK HGA HNX
      rw [← hg0] at HZ HC0 HOK0
      clear hg hg0
      have hp2 := HOK.out.1
      have hp02 := HOK0.out.1
      unfold maxLen at hp2 hp02
      obtain ⟨p, x, y⟩ := g
      have HCK2 := Lib.hid (show wr.rangeAt b (off + k * 3) [.string p, .int .i64 x, .int .i64 y] from HCK.out)
      simp only at hp2
      have HG := Lib.hid (fun w => isG_any ⟨p, x, y⟩ w HOK.out)
      clear HCK
      obtain ⟨W0, hW0⟩ : ∃ W0, W0 = wr.alloc (.cells #[.string p, .int .i64 x, .int .i64 y] 66) := ⟨_, rfl⟩
      have X0 : Ext wr W0 := by rw [hW0]; exact (Ext.refl _).alloc _
      have hbz : wr.heap.size < W0.heap.size := by rw [hW0]; show _ < (wr.heap.push _).size; simp
      have HB0 : W0.heap[wr.heap.size]? = some (.cells #[.string p, .int .i64 x, .int .i64 y] 66) := by rw [hW0]; exact heap_alloc_new wr _
      have HSN := Lib.hid (fun (w' : World) (x' : Ext W0 w') => (show (w'.cell? ⟨wr.heap.size, 0, none⟩ = some (.string p) ∧ w'.cell? ⟨wr.heap.size, 1, none⟩ = some (.int .i64 x) ∧ w'.cell? ⟨wr.heap.size, 2, none⟩ = some (.int .i64 y) ∧ w'.cell? ⟨b, off, none⟩ = some (.string g0.p)) ∧ Ext W0 w' from
        ⟨⟨by rw [cell_of_row w' wr.heap.size 0 _ _ _ ((x'.block _ hbz).trans HB0)]; rfl, by rw [cell_of_row w' wr.heap.size 1 _ _ _ ((x'.block _ hbz).trans HB0)]; rfl, by rw [cell_of_row w' wr.heap.size 2 _ _ _ ((x'.block _ hbz).trans HB0)]; rfl, by simpa using HC0.out _ (X0.trans x')⟩, x'⟩))
      have HW0 := Lib.hid hW0
      clear hW0 HB0 hbz
      cases h1 : isGu p.size ⟨p, x, y⟩
      · have HV := Lib.hid (HGA.out (isGu_no h1))
        go_wp2_with (refine wpList_load_mid rfl 66 _ rfl b (off + k * 3) rfl [.string p, .int .i64 x, .int .i64 y] _ HCK2.out Try.underlying66 rfl (gi_size ⟨p, x, y⟩) ?_; refine id ?_; clear HCK2)
        rw [← HW0.out]
        refine wp_region_noPanic ?_
        refine wp_region_held_drew (S := fun w' => (w'.cell? ⟨wr.heap.size, 0, none⟩ = some (.string p) ∧ w'.cell? ⟨wr.heap.size, 1, none⟩ = some (.int .i64 x) ∧ w'.cell? ⟨wr.heap.size, 2, none⟩ = some (.int .i64 y) ∧ w'.cell? ⟨b, off, none⟩ = some (.string g0.p)) ∧ Ext W0 w') (by kernel_rfl) (HSN.out _ (Ext.refl _).drew) (fun hHeld => ?_)
        refine' wpAnyH_take (i := 0) (v := .agg #[.string p, .int .i64 x, .int .i64 y]) rfl (by kernel_rfl) (by kernel_rfl) (by kernel_rfl) (fun _ _ _ h => h) (Or.inl ⟨by rfl, fun w hS => by obtain ⟨⟨s0, s1, s2, s3⟩, _⟩ := hS; go_simp⟩) hHeld ?_
        try simp only [Act.put, List.setIfInBounds_toArray, List.set_cons_zero, List.set_cons_succ]
        refine wpAnyH_ready (rs := [1]) (by kernel_rfl) (by simp) ?_
        refine AllReadyH.cons rfl (fun K3 hK3 => ?_) AllReadyH.nil
        go_simp
        refine (HG.out _).mono ?_
        rintro e w9 ⟨rfl, x1⟩
        rw [show isGu (Gu.mk p x y).p.size ⟨p, x, y⟩ = false from h1]
        refine hK3.out _ _ (HSN.out _ ((Ext.refl _).drew.trans x1)) (fun hHeld2 => ?_)
        clear hK3 K3
        try simp only [Act.put, List.setIfInBounds_toArray, List.set_cons_zero, List.set_cons_succ]
        refine' wpAnyH_take (i := 2) (oi := { dst := some 21, op := Op.unOp UnOp.not 4 (Operand.tmp 20), type := 4, pos := "l6_pin.go:225", after := #[{ on := 1, ground := Ground.data }], guard := none }) (v := .bool true) rfl (by kernel_rfl) (by kernel_rfl) (by kernel_rfl) (fun _ _ _ h => h) (Or.inl ⟨by rfl, fun w _ => by go_simp⟩) hHeld2 ?_
        try simp only [Act.put, List.setIfInBounds_toArray, List.set_cons_zero, List.set_cons_succ]
        refine' wpAnyH_take (i := 3) (oi := { dst := some 22, op := Op.move (Operand.tmp 21), type := 4, pos := "l6_pin.go:225", after := #[{ on := 2, ground := Ground.data }, { on := 1, ground := Ground.chain }], guard := none }) (v := .bool true) rfl (by kernel_rfl) (by kernel_rfl) (by kernel_rfl) (fun _ _ _ h => h) (Or.inl ⟨by rfl, fun w _ => by go_simp⟩) hHeld2 ?_
        try simp only [Act.put, List.setIfInBounds_toArray, List.set_cons_zero, List.set_cons_succ]
        refine' wpAnyH_take (i := 4) (oi := { dst := some 23, op := Op.fieldAddr 66 (Operand.tmp 4) 0, type := 0, pos := "l6_pin.go:225", after := #[{ on := 3, ground := Ground.guard }], guard := some (3, false) }) (v := undef) rfl (by kernel_rfl) (by kernel_rfl) (by kernel_rfl) (fun _ _ _ h => h) (Or.inr ⟨by rfl, rfl⟩) hHeld2 ?_
        try simp only [Act.put, List.setIfInBounds_toArray, List.set_cons_zero, List.set_cons_succ]
        refine' wpAnyH_take (i := 5) (oi := { dst := some 24, op := Op.load 9 (Operand.tmp 23), type := 9, pos := "l6_pin.go:225", after := #[{ on := 4, ground := Ground.data }, { on := 3, ground := Ground.guard }], guard := some (3, false) }) (v := undef) rfl (by kernel_rfl) (by kernel_rfl) (by kernel_rfl) (fun _ _ _ h => h) (Or.inr ⟨by rfl, rfl⟩) hHeld2 ?_
        try simp only [Act.put, List.setIfInBounds_toArray, List.set_cons_zero, List.set_cons_succ]
        refine' wpAnyH_take (i := 6) (oi := { dst := some 25, op := Op.call { callee := Callee.builtin Builtin.len, args := #[Operand.tmp 24], argTypes := #[9] }, type := 3, pos := "l6_pin.go:225", after := #[{ on := 5, ground := Ground.data }, { on := 3, ground := Ground.guard }], guard := some (3, false) }) (v := undef) rfl (by kernel_rfl) (by kernel_rfl) (by kernel_rfl) (fun _ _ _ h => h) (Or.inr ⟨by rfl, rfl⟩) hHeld2 ?_
        try simp only [Act.put, List.setIfInBounds_toArray, List.set_cons_zero, List.set_cons_succ]
        refine' wpAnyH_take (i := 7) (oi := { dst := some 26, op := Op.move (Operand.tmp 0), type := 39, pos := "l6_pin.go:225", after := #[{ on := 3, ground := Ground.guard }], guard := some (3, false) }) (v := undef) rfl (by kernel_rfl) (by kernel_rfl) (by kernel_rfl) (fun _ _ _ h => h) (Or.inr ⟨by rfl, rfl⟩) hHeld2 ?_
        try simp only [Act.put, List.setIfInBounds_toArray, List.set_cons_zero, List.set_cons_succ]
        refine' wpAnyH_take (i := 8) (oi := { dst := some 27, op := Op.indexAddr 39 (Operand.tmp 26) (Operand.const (Value.int IntKind.i64 0)), type := 0, pos := "l6_pin.go:225", after := #[{ on := 7, ground := Ground.data }, { on := 3, ground := Ground.guard }], guard := some (3, false) }) (v := undef) rfl (by kernel_rfl) (by kernel_rfl) (by kernel_rfl) (fun _ _ _ h => h) (Or.inr ⟨by rfl, rfl⟩) hHeld2 ?_
        try simp only [Act.put, List.setIfInBounds_toArray, List.set_cons_zero, List.set_cons_succ]
        refine' wpAnyH_take (i := 9) (oi := { dst := some 28, op := Op.fieldAddr 66 (Operand.tmp 27) 0, type := 0, pos := "l6_pin.go:225", after := #[{ on := 8, ground := Ground.data }, { on := 3, ground := Ground.guard }], guard := some (3, false) }) (v := undef) rfl (by kernel_rfl) (by kernel_rfl) (by kernel_rfl) (fun _ _ _ h => h) (Or.inr ⟨by rfl, rfl⟩) hHeld2 ?_
        try simp only [Act.put, List.setIfInBounds_toArray, List.set_cons_zero, List.set_cons_succ]
        refine' wpAnyH_take (i := 10) (oi := { dst := some 29, op := Op.load 9 (Operand.tmp 28), type := 9, pos := "l6_pin.go:225", after := #[{ on := 9, ground := Ground.data }, { on := 3, ground := Ground.guard }], guard := some (3, false) }) (v := undef) rfl (by kernel_rfl) (by kernel_rfl) (by kernel_rfl) (fun _ _ _ h => h) (Or.inr ⟨by rfl, rfl⟩) hHeld2 ?_
        try simp only [Act.put, List.setIfInBounds_toArray, List.set_cons_zero, List.set_cons_succ]
        refine' wpAnyH_take (i := 11) (oi := { dst := some 30, op := Op.call { callee := Callee.builtin Builtin.len, args := #[Operand.tmp 29], argTypes := #[9] }, type := 3, pos := "l6_pin.go:225", after := #[{ on := 10, ground := Ground.data }, { on := 3, ground := Ground.guard }], guard := some (3, false) }) (v := undef) rfl (by kernel_rfl) (by kernel_rfl) (by kernel_rfl) (fun _ _ _ h => h) (Or.inr ⟨by rfl, rfl⟩) hHeld2 ?_
        try simp only [Act.put, List.setIfInBounds_toArray, List.set_cons_zero, List.set_cons_succ]
        refine' wpAnyH_take (i := 12) (oi := { dst := some 31, op := Op.binOp BinOp.neq 3 (Operand.tmp 25) (Operand.tmp 30) 3, type := 4, pos := "l6_pin.go:225", after := #[{ on := 6, ground := Ground.data }, { on := 11, ground := Ground.data }, { on := 3, ground := Ground.guard }], guard := some (3, false) }) (v := undef) rfl (by kernel_rfl) (by kernel_rfl) (by kernel_rfl) (fun _ _ _ h => h) (Or.inr ⟨by rfl, rfl⟩) hHeld2 ?_
        try simp only [Act.put, List.setIfInBounds_toArray, List.set_cons_zero, List.set_cons_succ]
        refine' wpAnyH_take (i := 13) (oi := { dst := some 32, op := Op.pick (Operand.tmp 22) (Operand.const (Value.bool true)) (Operand.tmp 31), type := 4, pos := "l6_pin.go:225", after := #[{ on := 3, ground := Ground.data }, { on := 12, ground := Ground.data }], guard := none }) (v := .bool true) rfl (by kernel_rfl) (by kernel_rfl) (by kernel_rfl) (fun _ _ _ h => h) (Or.inl ⟨by rfl, fun w _ => by go_simp⟩) hHeld2 ?_
        try simp only [Act.put, List.setIfInBounds_toArray, List.set_cons_zero, List.set_cons_succ]
        refine wpAnyH_done (by kernel_rfl) (NoPanic.normal ?_) _
        go_wp2
        go_ret
        exact ⟨ret_bool HV.out.symm, (hx.trans X0).trans ((Ext.refl _).drew.trans x1)⟩
      have hl0 : (0 : Int) < (gs.length : Int) := by omega
      have hl1 : 0 < gs.length := by omega
      have hl2 : ¬ gs = [] := fun e => by rw [e] at hl1; exact absurd hl1 (by simp)
      have hp4 : p.size ≤ 4 := by
        unfold isGu at h1
        rw [Bool.and_eq_true] at h1
        exact (pinB_size h1.1).2
      by_cases hsz : ¬ p.size = g0.p.size
      · have HV := Lib.hid (HGA.out (isGu_ne (g := ⟨p, x, y⟩) (by rw [HZ.out]; exact hsz)))
        have hb1 : ((p.size : Int) == (g0.p.size : Int)) = false := beq_eq_false_iff_ne.2 (by omega)
        have hb2 : ¬ (p.size : Int) = (g0.p.size : Int) := by omega
        go_wp2_with (refine wpList_load_mid rfl 66 _ rfl b (off + k * 3) rfl [.string p, .int .i64 x, .int .i64 y] _ HCK2.out Try.underlying66 rfl (gi_size ⟨p, x, y⟩) ?_; refine id ?_; clear HCK2)
        rw [← HW0.out]
        go_region_held3 (fun w' => (w'.cell? ⟨wr.heap.size, 0, none⟩ = some (.string p) ∧ w'.cell? ⟨wr.heap.size, 1, none⟩ = some (.int .i64 x) ∧ w'.cell? ⟨wr.heap.size, 2, none⟩ = some (.int .i64 y) ∧ w'.cell? ⟨b, off, none⟩ = some (.string g0.p)) ∧ Ext W0 w') (first | exact HSN.out _ (Ext.refl _).drew | exact HSN.out _ (Ext.trans (And.right (by assumption)) x1) | assumption) (first | (go_at_call 69; refine (HG.out _).mono ?_; rintro e w' ⟨rfl, x1⟩; rw [show isGu (Gu.mk p x y).p.size ⟨p, x, y⟩ = true from h1]))
        go_wp2
        go_ret
        exact ⟨ret_bool HV.out.symm, (hx.trans X0).trans ((Ext.refl _).drew.trans x1)⟩
      have hsz : p.size = g0.p.size := Decidable.not_not.1 hsz
      have HV := Lib.hid (HNX.out (isGu_eq (g := ⟨p, x, y⟩) h1 (by rw [HZ.out]; exact hsz)))
      have hb1 : ((p.size : Int) == (g0.p.size : Int)) = true := beq_iff_eq.2 (by omega)
      have hb2 : (p.size : Int) = (g0.p.size : Int) := by omega
      clear hsz
      go_wp2_with (refine wpList_load_mid rfl 66 _ rfl b (off + k * 3) rfl [.string p, .int .i64 x, .int .i64 y] _ HCK2.out Try.underlying66 rfl (gi_size ⟨p, x, y⟩) ?_; refine id ?_; clear HCK2)
      rw [← HW0.out]
      go_region_held3 (fun w' => (w'.cell? ⟨wr.heap.size, 0, none⟩ = some (.string p) ∧ w'.cell? ⟨wr.heap.size, 1, none⟩ = some (.int .i64 x) ∧ w'.cell? ⟨wr.heap.size, 2, none⟩ = some (.int .i64 y) ∧ w'.cell? ⟨b, off, none⟩ = some (.string g0.p)) ∧ Ext W0 w') (first | exact HSN.out _ (Ext.refl _).drew | exact HSN.out _ (Ext.trans (And.right (by assumption)) x1) | assumption) (first | (go_at_call 69; refine (HG.out _).mono ?_; rintro e w' ⟨rfl, x1⟩; rw [show isGu (Gu.mk p x y).p.size ⟨p, x, y⟩ = true from h1]))
      go_wp2
      go_roundw
      case rel => exact ⟨k + 1, by omega, by go_num, HV.out, (hx.trans X0).trans ((Ext.refl _).drew.trans x1)⟩
      case measure => simp [intOf]; omega
    · go_wp2
      go_ret
      have HV := guB_yes HI.out (fun j hj => HA.out j hj (by omega))
      exact ⟨ret_bool HV.symm, hx⟩

end Go.Proofs.Ytmpajijnpoekgaa
