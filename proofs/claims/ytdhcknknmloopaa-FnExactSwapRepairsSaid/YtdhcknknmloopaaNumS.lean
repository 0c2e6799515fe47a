/- Numbers of a scheme: what they are, what their signs stand for, their sums. No conditions. -/
import Derived.Test.YtdhcknknmloopaaSg
import Derived.Test.YtdhcknknmloopaaGood
namespace Go.Proofs.Ytdhcknknmloopaa
open Go.RowKit

theorem lastSg_at {s : ByteArray} {n : Nat} (h : s.size = n + 1) : s.data.toList.getD n 0 = s[n]'(by omega) := by
  rw [List.getD_eq_getElem?_getD, List.getElem?_eq_getElem (show n < s.data.toList.length by simp; omega)]
  rfl
/-- A number of a scheme. -/
def isNum (m : Int) (zs : List Int) (s : ByteArray) : Bool := isSch m zs && (decide (s.size = zs.length + 1) && (allDg (s.extract 0 zs.length) && isSg (s.data.toList.getD zs.length 0)))
theorem isNum_s {m : Int} {zs : List Int} {s : ByteArray} (h : isSch m zs = false) : isNum m zs s = false := by unfold isNum; rw [h]; rfl
theorem isNum_l {m : Int} {zs : List Int} {s : ByteArray} (h : s.size ≠ zs.length + 1) : isNum m zs s = false := by unfold isNum; rw [decide_eq_false h]; simp
theorem isNum_d {m : Int} {zs : List Int} {s : ByteArray} (h : allDg (s.extract 0 zs.length) = false) : isNum m zs s = false := by unfold isNum; rw [h]; simp
theorem isNum_c {m : Int} {zs : List Int} {s : ByteArray} (h : isSg (s.data.toList.getD zs.length 0) = false) : isNum m zs s = false := by unfold isNum; rw [h]; simp
theorem isNum_y {m : Int} {zs : List Int} {s : ByteArray} (h : isSch m zs = true) (h2 : s.size = zs.length + 1) (h3 : allDg (s.extract 0 zs.length) = true) (h4 : isSg (s.data.toList.getD zs.length 0) = true) : isNum m zs s = true := by unfold isNum; rw [h, decide_eq_true h2, h3, h4]; rfl
theorem isNum_parts {m : Int} {zs : List Int} {s : ByteArray} (h : isNum m zs s = true) : isSch m zs = true ∧ s.size = zs.length + 1 ∧ allDg (s.extract 0 zs.length) = true ∧ isSg (s.data.toList.getD zs.length 0) = true := by
  unfold isNum at h
  rw [Bool.and_eq_true, Bool.and_eq_true, Bool.and_eq_true, decide_eq_true_eq] at h
  exact h
theorem allDg_get {s : ByteArray} (h : allDg s = true) (i : Nat) (hi : i < s.size) : isg s[i].toNat = true := by
  unfold allDg at h
  rw [List.all_eq_true] at h
  refine h _ ?_
  have h2 : i < s.data.toList.length := by simpa using hi
  have : s.data.toList[i] = s[i] := rfl
  rw [← this]; exact List.getElem_mem h2
theorem exto_size {s : ByteArray} {n : Nat} (h : n ≤ s.size) : (s.extract 0 n).size = n := by
  have hd : (s.extract 0 n).data = s.data.extract 0 n := ByteArray.data_extract
  show (s.extract 0 n).data.size = n
  rw [hd, Array.size_extract]
  have : s.data.size = s.size := rfl
  omega
theorem exto_get {s : ByteArray} {n : Nat} (h : n ≤ s.size) (i : Nat) (hi : i < n) : ∃ h1 : i < (s.extract 0 n).size, (s.extract 0 n)[i]'h1 = s[i]'(by omega) := by
  have hd : (s.extract 0 n).data = s.data.extract 0 n := ByteArray.data_extract
  refine ⟨by rw [exto_size h]; exact hi, ?_⟩
  show (s.extract 0 n).data[i]'_ = s.data[i]'_
  simp only [hd, Array.getElem_extract, Nat.zero_add]
theorem isNum_dg {m : Int} {zs : List Int} {s : ByteArray} (h : isNum m zs s = true) (i : Nat) (hi : i < zs.length) : ∃ h1 : i < s.size, isg (s[i]'h1).toNat = true := by
  obtain ⟨_, h2, h3, _⟩ := isNum_parts h
  obtain ⟨h4, h5⟩ := exto_get (s := s) (n := zs.length) (by omega) i hi
  refine ⟨by omega, ?_⟩
  rw [← h5]
  exact allDg_get h3 i h4

/-! ### Values and sums -/
/-- What the signs of a text stand for. -/
def vls (s : ByteArray) : List Nat := s.data.toList.map svB
theorem vls_len (s : ByteArray) : (vls s).length = s.size := by unfold vls; rw [List.length_map]; simp
theorem vls_at (s : ByteArray) (k : Nat) (h : k < s.size) : (vls s)[k]'(by rw [vls_len]; exact h) = svB s[k] := by
  unfold vls
  rw [List.getElem_map]
  rfl
theorem vls_get (s : ByteArray) (k : Nat) (h : k < s.size) : (vls s).getD k 0 = svB s[k] := by
  rw [List.getD_eq_getElem?_getD, List.getElem?_eq_getElem (by rw [vls_len]; exact h), vls_at s k h]; rfl
/-- How many times a place counts. -/
def wt (zs : List Int) (j : Nat) : Int := if j = zs.length then 1 else zs.getD j 0
theorem wt_at {zs : List Int} {j : Nat} (h : j < zs.length) : wt zs j = zs[j] := by
  unfold wt
  rw [if_neg (by omega), List.getD_eq_getElem?_getD, List.getElem?_eq_getElem h]; rfl
theorem wt_end (zs : List Int) : wt zs zs.length = 1 := by unfold wt; rw [if_pos rfl]
theorem wt_bd {m : Int} {zs : List Int} (h : SchB m zs) {j : Nat} (hj : j ≤ zs.length) : 0 ≤ wt zs j ∧ wt zs j ≤ 12 := by
  by_cases e : j = zs.length
  · rw [e, wt_end]; decide
  · have := h.at_ j (by omega)
    have := h.m2
    rw [wt_at (by omega)]
    omega
/-- The sum of the first values. -/
def sP (zs : List Int) (ps : List Nat) : Nat → Int
  | 0 => 0
  | k + 1 => sP zs ps k + (ps.getD k 0 : Int) * wt zs k
theorem mul_bd {a b : Int} (h1 : 0 ≤ a) (h2 : a ≤ 10) (h3 : 0 ≤ b) (h4 : b ≤ 12) : 0 ≤ a * b ∧ a * b ≤ 120 := by
  refine ⟨Int.mul_nonneg h1 h3, ?_⟩
  have := Int.mul_le_mul h2 h4 h3 (by decide)
  omega
theorem sP_bd {m : Int} {zs : List Int} (h : SchB m zs) {ps : List Nat} (hp : ∀ p ∈ ps, p ≤ 10) : ∀ k, k ≤ zs.length + 1 → 0 ≤ sP zs ps k ∧ sP zs ps k ≤ 120 * (k : Int) := by
  intro k hk
  induction k with
  | zero => simp [sP]
  | succ k ih =>
    have a := ih (by omega)
    have b := wt_bd h (j := k) (by omega)
    have c : ps.getD k 0 ≤ 10 := by
      rw [List.getD_eq_getElem?_getD]
      cases e : ps[k]? with
      | none => simp
      | some x => simpa using hp x (List.mem_of_getElem? e)
    have d := mul_bd (a := (ps.getD k 0 : Int)) (by omega) (by omega) b.1 b.2
    rw [sP]
    omega
theorem sP_ext {zs : List Int} {ps qs : List Nat} {k : Nat} (h : ∀ j, j < k → ps.getD j 0 = qs.getD j 0) : sP zs ps k = sP zs qs k := by
  induction k with
  | zero => rfl
  | succ k ih => rw [sP, sP, ih (fun j hj => h j (by omega)), h k (by omega)]
theorem vls_le {m : Int} {zs : List Int} {s : ByteArray} (h : isNum m zs s = true) : ∀ p ∈ vls s, p ≤ 10 := by
  intro p hp
  obtain ⟨i, hi, rfl⟩ := List.mem_iff_getElem.1 hp
  rw [vls_len] at hi
  rw [vls_at s i hi]
  obtain ⟨_, h2, _, h4⟩ := isNum_parts h
  by_cases e : i < zs.length
  · obtain ⟨_, h5⟩ := isNum_dg h i e
    exact Nat.le_of_lt (Nat.lt_of_lt_of_le (svB_dg h5).1 (by omega))
  · obtain rfl : i = zs.length := by omega
    rw [lastSg_at h2] at h4
    exact svB_le h4
/-- The sum of a number. -/
def sumN (zs : List Int) (s : ByteArray) : Int := sP zs (vls s) (zs.length + 1)
theorem sumN_eq {zs : List Int} {s : ByteArray} (h : s.size = zs.length + 1) : sumN zs s = sP zs (vls s) zs.length + (svB (s[zs.length]'(by omega)) : Nat) := by
  unfold sumN
  rw [sP, wt_end, Int.mul_one, vls_get s zs.length (by omega)]
theorem sumN_bd {m : Int} {zs : List Int} {s : ByteArray} (h : isNum m zs s = true) : 0 ≤ sumN zs s ∧ sumN zs s ≤ 1560 := by
  have hb := isSch_bd (isNum_parts h).1
  have := sP_bd hb (vls_le h) (zs.length + 1) (Nat.le_refl _)
  have := hb.l2
  unfold sumN
  omega

/-! ### The model's -/
set_option maxHeartbeats 1000000 in
theorem ckSum_any (m : Int) (v : Value) (zs : List Int) (s : ByteArray) (w : World) (h : IntsA w v zs) (hn : isNum m zs s = true) : Calls Try.prog 55 #[.agg #[.int .i64 m, v], .string s] w fun e w' => e = .returned (.int .i64 (sP zs (vls s) zs.length)) ∧ Ext w w' := by
  have H := Lib.hid h
  have HN := Lib.hid hn
  have HB := Lib.hid (isSch_bd (isNum_parts hn).1)
  have hl2 := HB.out.l2
  have hsz := (isNum_parts hn).2.1
  have X0 := Lib.hid (show Ext w (w.alloc (.cells #[.int .i64 m, v] 27)) from (Ext.refl w).alloc _)
  obtain ⟨a, cap, hv⟩ := h.at
  rw [hv] at H X0 ⊢
  clear hv h hn
  have HW := Lib.hid (H.out.ext X0.out)
  go_enter Try.func55, Try.ntmps55
  go_wp2
  go_loop [5, 11] (fun u i => ∃ k : Nat, k ≤ zs.length ∧ i = .int .i64 k ∧ u = .int .i64 (sP zs (vls s) k)) (fun _ i => zs.length - (intOf i).toNat)
  case atStart => exact ⟨0, Nat.zero_le _, rfl, rfl⟩
  case round =>
    obtain ⟨k, hk, rfl, rfl⟩ := hrel
    have hbd := sP_bd HB.out (vls_le HN.out) k (by omega)
    by_cases hlt : k < zs.length
    · obtain ⟨b, off, ha, _, e1⟩ := HW.out.get2 k hlt
      obtain ⟨hks, hdg⟩ := isNum_dg HN.out k hlt
      obtain ⟨c1, c2⟩ := svB_dg hdg
      have hwz := wt_bd HB.out (j := k) (by omega)
      rw [wt_at hlt] at hwz
      have HS := Lib.hid (show sP zs (vls s) (k + 1) = sP zs (vls s) k + (svB (s[k]'hks) : Int) * zs[k] by rw [sP, vls_get s k hks, wt_at hlt])
      have hmb := mul_bd (a := (svB (s[k]'hks) : Int)) (by omega) (by omega) hwz.1 hwz.2
      have ik : ∀ w, (Instr.index 9 (.string s) (.int .i64 (k : Int))).run Try.prog w = .ok (.int .u8 ((svB (s[k]'hks) : Int) + 48)) w := fun w => by
        rw [← c2]; exact ixS s k hks w
      obtain ⟨z, hz⟩ : ∃ z, z = zs[k] := ⟨_, rfl⟩
      obtain ⟨d, hd⟩ : ∃ d, d = svB (s[k]'hks) := ⟨_, rfl⟩
      obtain ⟨S, hS⟩ : ∃ S, S = sP zs (vls s) k := ⟨_, rfl⟩
      rw [← hz] at e1 HS hwz hmb
      rw [← hd] at HS ik hmb c1
      rw [← hS] at HS hbd ⊢
      clear hz hd hS c2 hdg
      have e9 : IntKind.u8.wrap ((d : Int) + 48 - 48) = (d : Int) := by rw [IntWalk.u8_in _ (by omega)]; omega
      have HC := Lib.hid (Int.mul_comm z (d : Int))
      obtain ⟨q, hq⟩ : ∃ q, q = z * (d : Int) := ⟨_, rfl⟩
      have hqb : 0 ≤ q ∧ q ≤ 120 := by rw [hq, HC.out]; exact hmb
      have wq : IntKind.i64.wrap (z * (d : Int)) = q := by rw [← hq]; simp only [IntKind.wrap_i64]; omega
      have HQ := Lib.hid hq
      subst ha
      clear hq hmb
      go_wp2
      exact ⟨⟨k + 1, by omega, by go_num, by rw [HS.out, ← HC.out, ← HQ.out]⟩, by simp [intOf]; omega⟩
    · obtain rfl : k = zs.length := by omega
      go_wp2
      go_ret
      exact ⟨rfl, X0.out⟩

set_option maxHeartbeats 1000000 in
theorem ckRight_any (m : Int) (v : Value) (zs : List Int) (s : ByteArray) (w : World) (h : IntsA w v zs) (hn : isNum m zs s = true) : Calls Try.prog 51 #[.agg #[.int .i64 m, v], .string s] w fun e w' => e = .returned (.bool (decide (sumN zs s % m = 0))) ∧ Ext w w' := by
  have HN := Lib.hid hn
  have HB := Lib.hid (isSch_bd (isNum_parts hn).1)
  have hm1 := HB.out.m1
  have hm2 := HB.out.m2
  have hl2 := HB.out.l2
  have hsz := (isNum_parts hn).2.1
  have X0 := Lib.hid (show Ext w (w.alloc (.cells #[.int .i64 m, v] 27)) from (Ext.refl w).alloc _)
  have HW := Lib.hid (h.ext X0.out)
  have hlast := (isNum_parts hn).2.2.2
  rw [lastSg_at hsz] at hlast
  have HSUM := Lib.hid (sumN_eq hsz)
  have hbd := sumN_bd hn
  have hpd := sP_bd HB.out (vls_le HN.out) zs.length (by omega)
  have hsv := svB_le hlast
  have ik : ∀ w, (Instr.index 9 (.string s) (.int .i64 (zs.length : Int))).run Try.prog w = .ok (.int .u8 ((s[zs.length]'(by omega)).toNat : Int)) w := fun w => ixS s zs.length (by omega) w
  have HCX := Lib.hid (fun w => ckCheck_any (s[zs.length]'(by omega)) w)
  rw [cx_yes hlast] at HCX
  obtain ⟨b, hb⟩ : ∃ b, b = s[zs.length]'(by omega) := ⟨_, rfl⟩
  obtain ⟨n, hnn⟩ : ∃ n, n = zs.length := ⟨_, rfl⟩
  have HCS := Lib.hid (fun w' (x : Ext (w.alloc (.cells #[.int .i64 m, v] 27)) w') => ckSum_any m v zs s w' (HW.out.ext x) hn)
  obtain ⟨S, hS⟩ : ∃ S, S = sP zs (vls s) zs.length := ⟨_, rfl⟩
  obtain ⟨T, hT⟩ : ∃ T, T = sumN zs s := ⟨_, rfl⟩
  rw [← hS] at HCS HSUM hpd
  rw [← hb] at HCX ik HSUM hsv
  rw [← hT] at HSUM hbd ⊢
  have hszn : s.size = n + 1 := by rw [hnn]; exact hsz
  rw [← hnn] at hl2 ik hpd
  obtain ⟨d, hd⟩ : ∃ d, d = svB b := ⟨_, rfl⟩
  rw [← hd] at HCX HSUM hsv
  have hST : S + (d : Int) = T := HSUM.out.symm
  have hix : (s.size : Int) - 1 = (n : Int) := by omega
  have wn : IntKind.i64.wrap (n : Int) = (n : Int) := by simp only [IntKind.wrap_i64]; omega
  have q0 : Int.tmod T m = T % m := Int.tmod_eq_emod_of_nonneg hbd.1
  have hmne : ¬ m = 0 := by omega
  clear hb hS hT hnn hd hlast hn h HSUM hszn hsz
  have wT : IntKind.i64.wrap T = T := by simp only [IntKind.wrap_i64]; omega
  have HSN := Lib.hid (fun (w' : World) (x' : Ext (w.alloc (.cells #[.int .i64 m, v] 27)) w') => (show (w'.cell? ⟨w.heap.size, 0, none⟩ = some (.int .i64 m) ∧ w'.cell? ⟨w.heap.size, 1, none⟩ = some v) ∧ Ext (w.alloc (.cells #[.int .i64 m, v] 27)) w' from ⟨sc_cells x', x'⟩))
  go_enter Try.func51, Try.ntmps51
  go_wp2
  go_region_held3 (fun w' => (w'.cell? ⟨w.heap.size, 0, none⟩ = some (.int .i64 m) ∧ w'.cell? ⟨w.heap.size, 1, none⟩ = some v) ∧ Ext (w.alloc (.cells #[.int .i64 m, v] 27)) w') (first | assumption | exact HSN.out _ (Ext.refl _).drew | exact HSN.out _ (Ext.trans (And.right (by assumption)) x6)) (first | (go_at_call 55; refine (HCS.out _ (And.right (by assumption))).mono ?_; rintro e w6 ⟨rfl, x6⟩) | (go_at_call 56; refine (HCX.out _).mono ?_; rintro e w6 ⟨rfl, rfl⟩; have x6 := Ext.refl w6))
  all_goals (rename_i hHeld)
  all_goals (have hE := X0.out.trans hHeld.2)
  all_goals clear hHeld
  all_goals go_wp2
  all_goals go_ret
  all_goals exact ⟨ret_bool rfl, hE⟩

set_option maxRecDepth 100000 in
set_option maxHeartbeats 1000000 in
theorem ckNumber_any (m : Int) (v : Value) (zs : List Int) (s : ByteArray) (w : World) (h : IntsA w v zs) (hm : -9223372036854775808 ≤ m ∧ m ≤ 9223372036854775807) (hs : s.size ≤ maxLen) : Calls Try.prog 50 #[.agg #[.int .i64 m, v], .string s] w fun e w' => e = .returned (.bool (isNum m zs s)) ∧ Ext w w' := by
  have h63 : s.size ≤ 9223372036854775807 := hs
  have X0 := Lib.hid (show Ext w (w.alloc (.cells #[.int .i64 m, v] 27)) from (Ext.refl w).alloc _)
  have HG := Lib.hid (ckGood_any m v zs _ (h.ext X0.out) hm)
  have hl := h.1
  unfold maxLen at hl
  obtain ⟨a, cap, hv⟩ := h.at
  rw [hv] at X0 HG ⊢
  clear hv h
  cases h1 : isSch m zs
  · have HV := Lib.hid (isNum_s (s := s) h1)
    rw [h1] at HG
    clear h1
    go_enter Try.func50, Try.ntmps50
    go_wp2_with (go_at_call 44; refine HG.out.mono ?_; rintro e w1 ⟨rfl, x1⟩)
    go_ret
    exact ⟨ret_bool HV.out.symm, X0.out.trans x1⟩
  have HB := Lib.hid (isSch_bd h1)
  have hl2 := HB.out.l2
  rw [h1] at HG
  by_cases h2 : s.size = zs.length + 1
  · have h2i : ((s.size : Int) == (zs.length : Int) + 1) = true := beq_iff_eq.2 (by omega)
    have HSZ := Lib.hid h2
    have hsl := fun w => slC s 0 zs.length (by omega) (by omega) w
    have hsl0 : ∀ w, (Instr.slice 9 (.string s) none (some (.int .i64 (zs.length : Int))) none).run Try.prog w = .ok (.string (s.extract 0 zs.length)) w := fun w => by
      have a2 : (zs.length : Int) ≤ (s.size : Int) := by omega
      have a4 : (0 : Int) ≤ (zs.length : Int) := by omega
      have a5 : zs.length ≤ s.size := by omega
      simp [go_sem, a5]
    have hxs : (s.extract 0 zs.length).size ≤ maxLen := by rw [exto_size (by omega)]; unfold maxLen; omega
    cases h3 : allDg (s.extract 0 zs.length)
    · have HV := Lib.hid (isNum_d (m := m) h3)
      clear h1 h2 hsl
      go_enter Try.func50, Try.ntmps50
      go_wp2_with (first | (go_at_call 44; refine HG.out.mono ?_; rintro e w1 ⟨rfl, x1⟩) | (go_at_call 78; refine (ckDig_any _ _ hxs).mono ?_; rintro e w2 ⟨rfl, rfl⟩; rw [h3]))
      go_ret
      exact ⟨ret_bool HV.out.symm, X0.out.trans x1⟩
    · have ik : ∀ w, (Instr.index 9 (.string s) (.int .i64 (zs.length : Int))).run Try.prog w = .ok (.int .u8 ((s[zs.length]'(by omega)).toNat : Int)) w := fun w => ixS s zs.length (by omega) w
      have HCX := Lib.hid (fun w => ckCheck_any (s[zs.length]'(by omega)) w)
      have hgl := lastSg_at h2
      have HNC := Lib.hid (fun h => isNum_c (m := m) (zs := zs) (s := s) h)
      have HNY := Lib.hid (fun h => isNum_y h1 h2 h3 h)
      rw [hgl] at HNC HNY
      obtain ⟨b, hb⟩ : ∃ b, b = s[zs.length]'(by omega) := ⟨_, rfl⟩
      rw [← hb] at ik HCX HNC HNY
      clear hb hgl h1 h2 hsl
      cases h4 : isSg b
      · have HV := Lib.hid (HNC.out h4)
        rw [cx_no h4] at HCX
        clear h4
        go_enter Try.func50, Try.ntmps50
        go_wp2_with (first | (go_at_call 44; refine HG.out.mono ?_; rintro e w1 ⟨rfl, x1⟩) | (go_at_call 78; refine (ckDig_any _ _ hxs).mono ?_; rintro e w2 ⟨rfl, rfl⟩; rw [h3]) | (go_at_call 56; refine (HCX.out _).mono ?_; rintro e w3 ⟨rfl, rfl⟩))
        go_ret
        exact ⟨ret_bool HV.out.symm, X0.out.trans x1⟩
      · have HV := Lib.hid (HNY.out h4)
        rw [cx_yes h4] at HCX
        obtain ⟨d, hd⟩ : ∃ d, d = svB b := ⟨_, rfl⟩
        rw [← hd] at HCX
        have td : decide (0 ≤ (d : Int)) = true := decide_eq_true (by omega)
        clear h4 hd
        go_enter Try.func50, Try.ntmps50
        go_wp2_with (first | (go_at_call 44; refine HG.out.mono ?_; rintro e w1 ⟨rfl, x1⟩) | (go_at_call 78; refine (ckDig_any _ _ hxs).mono ?_; rintro e w2 ⟨rfl, rfl⟩; rw [h3]) | (go_at_call 56; refine (HCX.out _).mono ?_; rintro e w3 ⟨rfl, rfl⟩))
        go_ret
        exact ⟨ret_bool HV.out.symm, X0.out.trans x1⟩
  · have h2i : ((s.size : Int) == (zs.length : Int) + 1) = false := beq_eq_false_iff_ne.2 (by omega)
    have HV := Lib.hid (isNum_l (m := m) h2)
    clear h1 h2
    go_enter Try.func50, Try.ntmps50
    go_wp2_with (go_at_call 44; refine HG.out.mono ?_; rintro e w1 ⟨rfl, x1⟩)
    go_ret
    exact ⟨ret_bool HV.out.symm, X0.out.trans x1⟩

end Go.Proofs.Ytdhcknknmloopaa
