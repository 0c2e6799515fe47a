/- Right numbers and sums: the model's and the program's answers. No conditions. -/
import Derived.Test.YtdhcknknmloopaaNumP
namespace Go.Proofs.Ytdhcknknmloopaa
open Go.RowKit

def rgV (m : Int) (zs : List Int) (s : ByteArray) : Bool := isNum m zs s && decide (sumN zs s % m = 0)
theorem rgV_no {m : Int} {zs : List Int} {s : ByteArray} (h : isNum m zs s = false) : rgV m zs s = false := by unfold rgV; rw [h]; rfl
theorem rgV_yes {m : Int} {zs : List Int} {s : ByteArray} (h : isNum m zs s = true) : rgV m zs s = decide (sumN zs s % m = 0) := by unfold rgV; rw [h]; rfl
def suV (m : Int) (zs : List Int) (s : ByteArray) : Int := if isNum m zs s = true then sumN zs s else 0
theorem suV_no {m : Int} {zs : List Int} {s : ByteArray} (h : isNum m zs s = false) : suV m zs s = 0 := by unfold suV; rw [h]; rfl
theorem suV_yes {m : Int} {zs : List Int} {s : ByteArray} (h : isNum m zs s = true) : suV m zs s = sumN zs s := by unfold suV; rw [h]; rfl
theorem sumN_len {m : Int} {zs : List Int} {s : ByteArray} (h : isNum m zs s = true) : sP zs (vls s) (vls s).length = sumN zs s := by
  rw [vls_len, (isNum_parts h).2.1]; rfl
theorem ext_dr {a b c : World} (h : Ext a b) (n : Nat) (h2 : Ext (b.drewN n) c) : Ext a c := h.trans (Ext.trans (ext_drewN (Ext.refl _) n) h2)


set_option maxHeartbeats 1000000 in
theorem rgS_any (m : Int) (v : Value) (zs : List Int) (s : ByteArray) (w : World) (h : IntsA w v zs) (hm : -9223372036854775808 ≤ m ∧ m ≤ 9223372036854775807) (hs : s.size ≤ maxLen) : Calls Try.prog 18 #[.agg #[.int .i64 m, v], .string s] w fun e w' => e = .returned (.tuple #[.bool (rgV m zs s), .bool (isNum m zs s)]) ∧ Ext w w' := by
  have X0 := Lib.hid (show Ext w (w.alloc (.cells #[.int .i64 m, v] 27)) from (Ext.refl w).alloc _)
  have HI := Lib.hid (h.ext X0.out)
  have HN := Lib.hid (ckNumber_any m v zs s _ HI.out hm hs)
  clear h
  cases h1 : isNum m zs s
  · have HV := Lib.hid (rgV_no h1)
    rw [h1] at HN
    clear h1
    go_enter Try.func18, Try.ntmps18
    go_wp2_with (go_at_call 50; refine HN.out.mono ?_; rintro e w1 ⟨rfl, x1⟩)
    go_ret2
    exact ⟨by rw [HV.out]; rfl, X0.out.trans x1⟩
  · have HV := Lib.hid (rgV_yes h1)
    have HR := Lib.hid (fun w' (x : Ext (w.alloc (.cells #[.int .i64 m, v] 27)) w') => ckRight_any m v zs s w' (HI.out.ext x) h1)
    rw [h1] at HN
    clear h1
    go_enter Try.func18, Try.ntmps18
    go_wp2_with (first | (go_at_call 50; refine HN.out.mono ?_; rintro e w1 ⟨rfl, x1⟩; obtain ⟨c1, c2⟩ := sc_cells x1) | (go_at_call 51; refine (HR.out _ x1).mono ?_; rintro e w2 ⟨rfl, x2⟩))
    go_ret2
    exact ⟨by rw [HV.out]; rfl, X0.out.trans (x1.trans x2)⟩


set_option maxHeartbeats 1000000 in
theorem rgI_any (m : Int) (v : Value) (zs : List Int) (s : ByteArray) (w : World) (h : IntsA w v zs) (hm : -9223372036854775808 ≤ m ∧ m ≤ 9223372036854775807) (hs : s.size ≤ maxLen) : Calls Try.prog 19 #[.agg #[.int .i64 m, v], .string s] w fun e w' => e = .returned (.tuple #[.bool (rgV m zs s), .bool (isNum m zs s)]) ∧ Ext w w' := by
  have X0 := Lib.hid (show Ext w (w.alloc (.cells #[.int .i64 m, v] 27)) from (Ext.refl w).alloc _)
  have HI := Lib.hid (h.ext X0.out)
  have HN := Lib.hid (isNumber_any m v zs s _ HI.out hm hs)
  clear h
  cases h1 : isNum m zs s
  · have HV := Lib.hid (rgV_no h1)
    rw [h1] at HN
    clear h1
    go_enter Try.func19, Try.ntmps19
    go_wp2_with (go_at_call 52; refine HN.out.mono ?_; rintro e w1 ⟨rfl, x1⟩)
    go_ret2
    exact ⟨by rw [HV.out]; rfl, X0.out.trans x1⟩
  · have HV := Lib.hid (rgV_yes h1)
    have hb := isSch_bd (isNum_parts h1).1
    have hsz := (isNum_parts h1).2.1
    have hl2 := hb.l2
    have HVO := Lib.hid (fun w' => valuesOf_any s w' (isNum_sg h1) (by omega))
    have HR := Lib.hid (fun w' (pv : Value) (x : Ext (w.alloc (.cells #[.int .i64 m, v] 27)) w') (hp : Ps w' pv (vls s)) => (show Calls Try.prog 53 #[.agg #[.int .i64 m, v], pv] w' fun e w2 => e = .returned (.bool (decide (sumN zs s % m = 0))) ∧ Ext w' w2 from by
      have := isRightM_any m v zs pv (vls s) w' (HI.out.ext x) hb hp (vls_le h1) (by rw [vls_len]; omega)
      rw [sumN_len h1] at this
      exact this))
    have HVL := Lib.hid (show (vls s).length ≤ maxLen by rw [vls_len]; exact hs)
    have HSN := Lib.hid (fun (w' : World) (x' : Ext (w.alloc (.cells #[.int .i64 m, v] 27)) w') => (show (w'.cell? ⟨w.heap.size, 0, none⟩ = some (.int .i64 m) ∧ w'.cell? ⟨w.heap.size, 1, none⟩ = some v) ∧ Ext (w.alloc (.cells #[.int .i64 m, v] 27)) w' from ⟨sc_cells x', x'⟩))
    rw [h1] at HN
    clear h1 hb hsz hl2
    go_enter Try.func19, Try.ntmps19
    go_wp2_with (first | (go_at_call 52; refine HN.out.mono ?_; rintro e w1 ⟨rfl, x1⟩; obtain ⟨c1, c2⟩ := sc_cells x1))
    go_region_with (first | (go_at_call 54; refine (HVO.out _).mono ?_; rintro e w2 ⟨pv, rfl, hr, x2⟩; have HPV := Lib.hid (hr.ps HVL.out); have X2 := Lib.hid (ext_dr x1 _ x2); obtain ⟨d1, d2⟩ := sc_cells (ext_dr x1 _ x2); clear hr x2) | (go_at_call 53; refine (HR.out _ _ X2.out HPV.out).mono ?_; rintro e w3 ⟨rfl, x3⟩))
    all_goals go_wp2
    all_goals go_ret2
    all_goals exact ⟨by rw [HV.out]; rfl, X0.out.trans (X2.out.trans x3)⟩


set_option maxHeartbeats 1000000 in
theorem suS_any (m : Int) (v : Value) (zs : List Int) (s : ByteArray) (w : World) (h : IntsA w v zs) (hm : -9223372036854775808 ≤ m ∧ m ≤ 9223372036854775807) (hs : s.size ≤ maxLen) : Calls Try.prog 20 #[.agg #[.int .i64 m, v], .string s] w fun e w' => e = .returned (.tuple #[.int .i64 (suV m zs s), .bool (isNum m zs s)]) ∧ Ext w w' := by
  have X0 := Lib.hid (show Ext w (w.alloc (.cells #[.int .i64 m, v] 27)) from (Ext.refl w).alloc _)
  have HI := Lib.hid (h.ext X0.out)
  have HN := Lib.hid (ckNumber_any m v zs s _ HI.out hm hs)
  clear h
  cases h1 : isNum m zs s
  · have HV := Lib.hid (suV_no h1)
    rw [h1] at HN
    clear h1
    go_enter Try.func20, Try.ntmps20
    go_wp2_with (go_at_call 50; refine HN.out.mono ?_; rintro e w1 ⟨rfl, x1⟩)
    go_ret2
    exact ⟨by rw [HV.out]; rfl, X0.out.trans x1⟩
  · have HV := Lib.hid (suV_yes h1)
    have HB := Lib.hid (isSch_bd (isNum_parts h1).1)
    have hl2 := HB.out.l2
    have hsz := (isNum_parts h1).2.1
    have hlast := (isNum_parts h1).2.2.2
    rw [lastSg_at hsz] at hlast
    have HSUM := Lib.hid (sumN_eq hsz)
    have hpd := sP_bd HB.out (vls_le h1) zs.length (by omega)
    have hsv := svB_le hlast
    have ik : ∀ w, (Instr.index 9 (.string s) (.int .i64 (zs.length : Int))).run Try.prog w = .ok (.int .u8 ((s[zs.length]'(by omega)).toNat : Int)) w := fun w => ixS s zs.length (by omega) w
    have HCX := Lib.hid (fun w => ckCheck_any (s[zs.length]'(by omega)) w)
    rw [cx_yes hlast] at HCX
    obtain ⟨b, hb⟩ : ∃ b, b = s[zs.length]'(by omega) := ⟨_, rfl⟩
    obtain ⟨n, hnn⟩ : ∃ n, n = zs.length := ⟨_, rfl⟩
    have HCS := Lib.hid (fun w' (x : Ext (w.alloc (.cells #[.int .i64 m, v] 27)) w') => ckSum_any m v zs s w' (HI.out.ext x) h1)
    obtain ⟨S, hS⟩ : ∃ S, S = sP zs (vls s) zs.length := ⟨_, rfl⟩
    rw [← hS] at HCS HSUM hpd
    rw [← hb] at HCX ik HSUM hsv
    have hszn : s.size = n + 1 := by rw [hnn]; exact hsz
    rw [← hnn] at hl2 ik hpd
    obtain ⟨d, hd⟩ : ∃ d, d = svB b := ⟨_, rfl⟩
    rw [← hd] at HCX HSUM hsv
    have hix : (s.size : Int) - 1 = (n : Int) := by omega
    have wn : IntKind.i64.wrap (n : Int) = (n : Int) := by simp only [IntKind.wrap_i64]; omega
    have wS : IntKind.i64.wrap (S + (d : Int)) = S + (d : Int) := by simp only [IntKind.wrap_i64]; omega
    have HSN := Lib.hid (fun (w' : World) (x' : Ext (w.alloc (.cells #[.int .i64 m, v] 27)) w') => (show (w'.cell? ⟨w.heap.size, 0, none⟩ = some (.int .i64 m) ∧ w'.cell? ⟨w.heap.size, 1, none⟩ = some v) ∧ Ext (w.alloc (.cells #[.int .i64 m, v] 27)) w' from ⟨sc_cells x', x'⟩))
    rw [h1] at HN
    clear hb hS hnn hd hlast h1 hszn hsz
    go_enter Try.func20, Try.ntmps20
    go_wp2_with (first | (go_at_call 50; refine HN.out.mono ?_; rintro e w1 ⟨rfl, x1⟩; obtain ⟨c1, c2⟩ := sc_cells x1))
    go_region_held3 (fun w' => (w'.cell? ⟨w.heap.size, 0, none⟩ = some (.int .i64 m) ∧ w'.cell? ⟨w.heap.size, 1, none⟩ = some v) ∧ Ext (w.alloc (.cells #[.int .i64 m, v] 27)) w') (first | assumption | exact HSN.out _ (x1.trans (Ext.refl _).drew) | exact HSN.out _ (Ext.trans (And.right (by assumption)) x6)) (first | (go_at_call 55; refine (HCS.out _ (And.right (by assumption))).mono ?_; rintro e w6 ⟨rfl, x6⟩) | (go_at_call 56; refine (HCX.out _).mono ?_; rintro e w6 ⟨rfl, rfl⟩; have x6 := Ext.refl w6))
    all_goals (rename_i hHeld)
    all_goals (have hE := X0.out.trans hHeld.2)
    all_goals clear hHeld
    all_goals go_wp2
    all_goals go_ret2
    all_goals exact ⟨by rw [HV.out, HSUM.out]; rfl, hE⟩


set_option maxHeartbeats 1000000 in
theorem suI_any (m : Int) (v : Value) (zs : List Int) (s : ByteArray) (w : World) (h : IntsA w v zs) (hm : -9223372036854775808 ≤ m ∧ m ≤ 9223372036854775807) (hs : s.size ≤ maxLen) : Calls Try.prog 21 #[.agg #[.int .i64 m, v], .string s] w fun e w' => e = .returned (.tuple #[.int .i64 (suV m zs s), .bool (isNum m zs s)]) ∧ Ext w w' := by
  have X0 := Lib.hid (show Ext w (w.alloc (.cells #[.int .i64 m, v] 27)) from (Ext.refl w).alloc _)
  have HI := Lib.hid (h.ext X0.out)
  have HN := Lib.hid (isNumber_any m v zs s _ HI.out hm hs)
  clear h
  cases h1 : isNum m zs s
  · have HV := Lib.hid (suV_no h1)
    rw [h1] at HN
    clear h1
    go_enter Try.func21, Try.ntmps21
    go_wp2_with (go_at_call 52; refine HN.out.mono ?_; rintro e w1 ⟨rfl, x1⟩)
    go_ret2
    exact ⟨by rw [HV.out]; rfl, X0.out.trans x1⟩
  · have HV := Lib.hid (suV_yes h1)
    have hb := isSch_bd (isNum_parts h1).1
    have hsz := (isNum_parts h1).2.1
    have hl2 := hb.l2
    have HVO := Lib.hid (fun w' => valuesOf_any s w' (isNum_sg h1) (by omega))
    have HR := Lib.hid (fun w' (pv : Value) (x : Ext (w.alloc (.cells #[.int .i64 m, v] 27)) w') (hp : Ps w' pv (vls s)) => (show Calls Try.prog 57 #[.agg #[.int .i64 m, v], pv] w' fun e w2 => e = .returned (.int .i64 (sumN zs s)) ∧ Ext w' w2 from by
      have := sumOf_any m v zs pv (vls s) w' (HI.out.ext x) hb hp (vls_le h1) (by rw [vls_len]; omega)
      rw [sumN_len h1] at this
      exact this))
    have HVL := Lib.hid (show (vls s).length ≤ maxLen by rw [vls_len]; exact hs)
    have HSN := Lib.hid (fun (w' : World) (x' : Ext (w.alloc (.cells #[.int .i64 m, v] 27)) w') => (show (w'.cell? ⟨w.heap.size, 0, none⟩ = some (.int .i64 m) ∧ w'.cell? ⟨w.heap.size, 1, none⟩ = some v) ∧ Ext (w.alloc (.cells #[.int .i64 m, v] 27)) w' from ⟨sc_cells x', x'⟩))
    rw [h1] at HN
    clear h1 hb hsz hl2
    go_enter Try.func21, Try.ntmps21
    go_wp2_with (first | (go_at_call 52; refine HN.out.mono ?_; rintro e w1 ⟨rfl, x1⟩; obtain ⟨c1, c2⟩ := sc_cells x1))
    go_region_with (first | (go_at_call 54; refine (HVO.out _).mono ?_; rintro e w2 ⟨pv, rfl, hr, x2⟩; have HPV := Lib.hid (hr.ps HVL.out); have X2 := Lib.hid (ext_dr x1 _ x2); obtain ⟨d1, d2⟩ := sc_cells (ext_dr x1 _ x2); clear hr x2) | (go_at_call 57; refine (HR.out _ _ X2.out HPV.out).mono ?_; rintro e w3 ⟨rfl, x3⟩))
    all_goals go_wp2
    all_goals go_ret2
    all_goals exact ⟨by rw [HV.out]; rfl, X0.out.trans (X2.out.trans x3)⟩

end Go.Proofs.Ytdhcknknmloopaa
