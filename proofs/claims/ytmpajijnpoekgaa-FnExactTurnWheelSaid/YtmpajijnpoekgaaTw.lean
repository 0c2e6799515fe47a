/- One wheel that is turned: both sides. No conditions. -/
import Derived.Test.YtmpajijnpoekgaaWheel
namespace Go.Proofs.Ytmpajijnpoekgaa
open Go.RowKit

def twG (s : ByteArray) (k b : Int) : Bool := pinB s && (inW k 0 ((s.size : Int) - 1) && inW b (-1000) 1000)
theorem twG_s {s : ByteArray} {k b : Int} (h : pinB s = false) : twG s k b = false := by unfold twG; rw [h]; rfl
theorem twG_k {s : ByteArray} {k b : Int} (h : inW k 0 ((s.size : Int) - 1) = false) : twG s k b = false := by unfold twG; rw [h]; simp
theorem twG_b {s : ByteArray} {k b : Int} (h : inW b (-1000) 1000 = false) : twG s k b = false := by unfold twG; rw [h]; simp
theorem twG_y {s : ByteArray} {k b : Int} (h : pinB s = true) (h2 : inW k 0 ((s.size : Int) - 1) = true) (h3 : inW b (-1000) 1000 = true) : twG s k b = true := by unfold twG; rw [h, h2, h3]; rfl
def twD (s : ByteArray) (k : Nat) (b : Int) : Nat := ((dgt s k : Int) + b + 1000).toNat % 10
def twV (s : ByteArray) (k b : Int) : ByteArray := if twG s k b then dT ((dgs s).set k.toNat (twD s k.toNat b)) else ⟨#[]⟩
theorem twV_no {s : ByteArray} {k b : Int} (h : twG s k b = false) : twV s k b = ⟨#[]⟩ := by unfold twV; rw [h]; rfl
theorem twV_yes {s : ByteArray} {k : Nat} {b : Int} (h : twG s k b = true) : twV s k b = dT ((dgs s).set k (twD s k b)) := by unfold twV; rw [h]; rfl
theorem ret_sBt {a a' : ByteArray} {b b' : Bool} (h : a = a') (h2 : b = b') : Ending.returned (.tuple #[.string a, .bool b]) = .returned (.tuple #[.string a', .bool b']) := by rw [h, h2]
theorem pcs_set (ps : List Nat) (k x : Nat) : (pcs ps).set k (.int .i64 (x : Int)) = pcs (ps.set k x) := by unfold pcs; rw [List.map_set]
theorem dgs_bk {s : ByteArray} (h : isWk s = true) : (dgs s).map (fun d => (48 + d).toUInt8) = s.data.toList := by
  unfold dgs
  rw [List.map_map]
  apply List.ext_getElem?
  intro i
  by_cases hi : i < s.size
  · have hl : i < s.data.toList.length := by simpa using hi
    rw [List.getElem?_map, List.getElem?_eq_getElem hl]
    have hb := isWk_bd h i hi
    have e : s.data.toList[i] = s[i] := rfl
    show some ((48 + (s.data.toList[i].toNat - 48)).toUInt8) = some s.data.toList[i]
    rw [e]
    congr 1
    apply UInt8.toNat_inj.1
    simp
    omega
  · rw [List.getElem?_eq_none (by simp; omega), List.getElem?_eq_none (by simp; omega)]
/-- A text with one digit another one. -/
theorem tw_text {s : ByteArray} (h : isWk s = true) {k : Nat} (hk : k < s.size) (x : Nat) : s.extract 0 k ++ dg1T x ++ s.extract (k + 1) s.size = dT ((dgs s).set k x) := by
  apply ByteArray.ext
  apply Array.toList_inj.1
  have e : (dT ((dgs s).set k x)).data.toList = (s.data.toList).set k (48 + x).toUInt8 := by
    show dA ((dgs s).set k x) = _
    unfold dA
    rw [List.map_set, dgs_bk h]
  rw [e, List.set_eq_take_append_cons_drop, if_pos (by simpa using hk)]
  have hz : s.data.toList.length = s.size := by simp
  rw [ByteArray.data_append, ByteArray.data_append, ByteArray.data_extract, ByteArray.data_extract]
  simp [dg1T]
  have : (s.data.toList.drop (k + 1)).take (s.size - (k + 1)) = s.data.toList.drop (k + 1) := List.take_of_length_le (by rw [List.length_drop]; omega)
  first | exact this | simpa using this

set_option maxHeartbeats 1000000 in
theorem twI_any (s : ByteArray) (k b : Int) (w : World) (hs : s.size ≤ maxLen) : Calls Try.prog 41 #[.string s, .int .i64 k, .int .i64 b] w fun e w' => e = .returned (.tuple #[.string (twV s k b), .bool (twG s k b)]) ∧ Ext w w' := by
  have hs2 := hs
  unfold maxLen at hs2
  cases h1 : pinB s
  · have HG := Lib.hid (twG_s (k := k) (b := b) h1)
    have HV := Lib.hid (twV_no HG.out)
    go_enter Try.func41, Try.ntmps41
    go_wp2_with ((go_at_call 28; refine (isPin_any _ _ hs).mono ?_; rintro e w' ⟨rfl, rfl⟩; rw [h1]))
    go_ret2
    exact ⟨ret_sBt HV.out.symm HG.out.symm, Ext.refl _⟩
  by_cases hc : k < 0
  · have HG := Lib.hid (twG_k (s := s) (k := k) (b := b) (inW_lo hc))
    have HV := Lib.hid (twV_no HG.out)
    go_enter Try.func41, Try.ntmps41
    go_wp2_with ((go_at_call 28; refine (isPin_any _ _ hs).mono ?_; rintro e w' ⟨rfl, rfl⟩; rw [h1]))
    go_ret2
    exact ⟨ret_sBt HV.out.symm HG.out.symm, Ext.refl _⟩
  have k0 := hc
  clear hc
  by_cases hc : (s.size : Int) ≤ k
  · have HG := Lib.hid (twG_k (s := s) (k := k) (b := b) (inW_hi (lo := 0) (by omega)))
    have HV := Lib.hid (twV_no HG.out)
    go_enter Try.func41, Try.ntmps41
    go_wp2_with ((go_at_call 28; refine (isPin_any _ _ hs).mono ?_; rintro e w' ⟨rfl, rfl⟩; rw [h1]))
    go_ret2
    exact ⟨ret_sBt HV.out.symm HG.out.symm, Ext.refl _⟩
  have k1 := hc
  clear hc
  by_cases hc : b < -1000
  · have HG := Lib.hid (twG_b (s := s) (k := k) (b := b) (inW_lo hc))
    have HV := Lib.hid (twV_no HG.out)
    go_enter Try.func41, Try.ntmps41
    go_wp2_with ((go_at_call 28; refine (isPin_any _ _ hs).mono ?_; rintro e w' ⟨rfl, rfl⟩; rw [h1]))
    go_ret2
    exact ⟨ret_sBt HV.out.symm HG.out.symm, Ext.refl _⟩
  have b0 := hc
  clear hc
  by_cases hc : 1000 < b
  · have HG := Lib.hid (twG_b (s := s) (k := k) (b := b) (inW_hi (lo := -1000) hc))
    have HV := Lib.hid (twV_no HG.out)
    go_enter Try.func41, Try.ntmps41
    go_wp2_with ((go_at_call 28; refine (isPin_any _ _ hs).mono ?_; rintro e w' ⟨rfl, rfl⟩; rw [h1]))
    go_ret2
    exact ⟨ret_sBt HV.out.symm HG.out.symm, Ext.refl _⟩
  have b1 := hc
  clear hc
  obtain ⟨i, rfl⟩ : ∃ i : Nat, k = (i : Int) := Int.eq_ofNat_of_zero_le (by omega)
  have hG := twG_y (s := s) (k := (i : Int)) (b := b) h1 (inW_yes (by omega) (by omega)) (inW_yes (by omega) (by omega))
  have HG := Lib.hid hG
  have HV := Lib.hid (twV_yes hG)
  have HW := Lib.hid (pinB_wk h1)
  have hz := pinB_size h1
  have hi : i < s.size := by omega
  have HLN := Lib.hid (dgs_len s)
  have hd10 := (dgt_of HW.out hi).1
  clear hG
  go_enter Try.func41, Try.ntmps41
  go_wp2_with ((go_at_call 28; refine (isPin_any _ _ hs).mono ?_; rintro e w' ⟨rfl, rfl⟩; rw [h1]))
  refine (digitsOf_any s w HW.out).mono ?_
  rintro e w1 ⟨v, rfl, hv, x1⟩
  have HO := Lib.hid hv
  obtain ⟨a, cap, rfl⟩ := hv.shape
  clear hv
  rw [HLN.out]
  obtain ⟨g, rfl, hB, hg, hcell, hfr⟩ := HO.out.at i (by rw [HLN.out]; exact hi)
  rw [dgs_at] at hcell
  obtain ⟨N, hN⟩ : ∃ N : Nat, (dgt s i : Int) + b + 1000 = (N : Int) := Int.eq_ofNat_of_zero_le (by omega)
  have HE := Lib.hid (show twD s i b = N % 10 by unfold twD; rw [hN]; rfl)
  obtain ⟨d, hd⟩ : ∃ d, d = dgt s i := ⟨_, rfl⟩
  rw [← hd] at hd10 hN hcell
  obtain ⟨n, hn⟩ : ∃ n, n = N % 10 := ⟨_, rfl⟩
  rw [← hn] at HE
  have hn10 : n < 10 := by omega
  have hNn : (N : Int) % 10 = (n : Int) := by omega
  have hN2 : N ≤ 3000 := by omega
  have W1 : IntKind.i64.wrap ((d : Int) + b) = (d : Int) + b := by simp only [IntKind.wrap_i64]; omega
  have W2 : IntKind.i64.wrap ((d : Int) + b + 1000) = (N : Int) := by simp only [IntKind.wrap_i64]; omega
  have hii : (i : Int) < (s.size : Int) := by omega
  have HS := Lib.hid (show RowP w.heap.size (w1.setCell ⟨g, i, none⟩ (.int .i64 (n : Int))) (.slice (some ⟨g, 0, none⟩) (dgs s).length cap) ((dgs s).set i n) from by
    have := (World.ownsRow.stored HO.out i (.int .i64 (n : Int))).1
    rw [pcs_set] at this
    unfold RowP
    rw [List.length_set]
    exact this)
  have HP := Lib.hid (HS.out.ps (by rw [List.length_set, HLN.out]; unfold maxLen; omega))
  have X2 : Ext w (w1.setCell ⟨g, i, none⟩ (.int .i64 (n : Int))) := x1.setCell hB _
  rw [HLN.out] at HP
  have HA := Lib.hid (fun q (hq : q ∈ (dgs s).set i n) => show q < 10 by
    rcases List.mem_or_eq_of_mem_set hq with h | h
    · obtain ⟨j, hj, rfl⟩ := List.getElem_of_mem h
      rw [dgs_at]
      exact (dgt_of HW.out (by rw [dgs_len] at hj; exact hj)).1
    · omega)
  clear hd hn hN
  go_wp2_with fail
  refine (digitsText_any _ _ _ HP.out HA.out (by rw [List.length_set, HLN.out]; omega)).mono ?_
  rintro e w2 ⟨rfl, x2⟩
  go_wp2
  go_ret2
  exact ⟨ret_sBt (by rw [HV.out, HE.out]) HG.out.symm, X2.trans x2⟩

set_option maxHeartbeats 1000000 in
theorem twS_any (s : ByteArray) (k b : Int) (w : World) (hs : s.size ≤ maxLen) : Calls Try.prog 40 #[.string s, .int .i64 k, .int .i64 b] w fun e w' => e = .returned (.tuple #[.string (twV s k b), .bool (twG s k b)]) ∧ Ext w w' := by
  have hs2 := hs
  unfold maxLen at hs2
  cases h1 : pinB s
  · have HG := Lib.hid (twG_s (k := k) (b := b) h1)
    have HV := Lib.hid (twV_no HG.out)
    go_enter Try.func40, Try.ntmps40
    go_wp2_with ((go_at_call 61; refine (piPin_any _ _ hs).mono ?_; rintro e w' ⟨rfl, rfl⟩; rw [h1]))
    go_ret2
    exact ⟨ret_sBt HV.out.symm HG.out.symm, Ext.refl _⟩
  have hz := pinB_size h1
  have Wz : IntKind.i64.wrap ((s.size : Int) - 1) = (s.size : Int) - 1 := by simp only [IntKind.wrap_i64]; omega
  have HI1 := Lib.hid (fun w => inW_any k 0 ((s.size : Int) - 1) w)
  have HI2 := Lib.hid (fun w => inW_any b (-1000) 1000 w)
  cases h2 : inW k 0 ((s.size : Int) - 1)
  · have HG := Lib.hid (twG_k (b := b) h2)
    have HV := Lib.hid (twV_no HG.out)
    rw [h2] at HI1
    go_enter Try.func40, Try.ntmps40
    go_wp2_with (first | (go_at_call 61; refine (piPin_any _ _ hs).mono ?_; rintro e w' ⟨rfl, rfl⟩; rw [h1]) | (go_at_call 55; refine (HI1.out _).mono ?_; rintro e w' ⟨rfl, rfl⟩))
    go_ret2
    exact ⟨ret_sBt HV.out.symm HG.out.symm, Ext.refl _⟩
  have K2 := Lib.hid h2
  cases h3 : inW b (-1000) 1000
  · have HG := Lib.hid (twG_b (s := s) (k := k) h3)
    have HV := Lib.hid (twV_no HG.out)
    have K3 := Lib.hid h3
    go_enter Try.func40, Try.ntmps40
    go_wp2_with (first | (go_at_call 61; refine (piPin_any _ _ hs).mono ?_; rintro e w' ⟨rfl, rfl⟩; rw [h1]) | (go_at_call 55; refine (inW_any _ _ _ _).mono ?_; rintro e w' ⟨rfl, rfl⟩; first | rw [K2.out] | rw [K3.out]))
    go_ret2
    exact ⟨ret_sBt HV.out.symm HG.out.symm, Ext.refl _⟩
  have K3 := Lib.hid h3
  have hk0 : 0 ≤ k := by unfold inW at h2; simp at h2; exact h2.1
  have hk1 : k ≤ (s.size : Int) - 1 := by unfold inW at h2; simp at h2; exact h2.2
  have hb0 : -1000 ≤ b := by unfold inW at h3; simp at h3; exact h3.1
  have hb1 : b ≤ 1000 := by unfold inW at h3; simp at h3; exact h3.2
  have hG := twG_y h1 h2 h3
  obtain ⟨i, rfl⟩ : ∃ i : Nat, k = (i : Int) := Int.eq_ofNat_of_zero_le hk0
  have HG := Lib.hid hG
  have HV := Lib.hid (twV_yes hG)
  have HW := Lib.hid (pinB_wk h1)
  have hi : i < s.size := by omega
  obtain ⟨hd10, hd48⟩ := dgt_of HW.out hi
  have HT := Lib.hid (tw_text HW.out hi (twD s i b))
  have ix : ∀ w, (Instr.index 9 (.string s) (.int .i64 (i : Int))).run Try.prog w = .ok (.int .u8 ((dgt s i : Int) + 48)) w := fun w => by rw [← hd48]; exact ixS s i hi w
  obtain ⟨N, hN⟩ : ∃ N : Nat, (dgt s i : Int) + b + 1000 = (N : Int) := Int.eq_ofNat_of_zero_le (by omega)
  have hE : twD s i b = N % 10 := by unfold twD; rw [hN]; rfl
  rw [hE] at HV HT
  obtain ⟨d, hd⟩ : ∃ d, d = dgt s i := ⟨_, rfl⟩
  rw [← hd] at hd10 hN ix
  obtain ⟨n, hn⟩ : ∃ n, n = N % 10 := ⟨_, rfl⟩
  rw [← hn] at HV HT
  have hn10 : n < 10 := by omega
  have hNn : (N : Int) % 10 = (n : Int) := by omega
  have hN2 : N ≤ 3000 := by omega
  have W0 : IntKind.u8.wrap ((d : Int) + 48 - 48) = (d : Int) := by rw [IntWalk.u8_in _ (by omega)]; omega
  have W1 : IntKind.i64.wrap ((d : Int) + b) = (d : Int) + b := by simp only [IntKind.wrap_i64]; omega
  have W2 : IntKind.i64.wrap ((d : Int) + b + 1000) = (N : Int) := by simp only [IntKind.wrap_i64]; omega
  have hii : (i : Int) < (s.size : Int) := by omega
  have HN := Lib.hid (fun w => l1NumD_any n w hn10)
  have z1 : (s.extract 0 i).size = i := by rw [ByteArray.size_extract]; omega
  have z2 : (s.extract (i + 1) s.size).size = s.size - (i + 1) := by rw [ByteArray.size_extract]; omega
  have z3 : (dg1T n).size = 1 := rfl
  obtain ⟨i1, hi1⟩ : ∃ i1, i1 = i + 1 := ⟨_, rfl⟩
  have Ci : (i : Int) + 1 = (i1 : Int) := by omega
  have Wi : IntKind.i64.wrap ((i : Int) + 1) = (i1 : Int) := by simp only [IntKind.wrap_i64]; omega
  have i1s : i1 ≤ s.size := by omega
  rw [← hi1] at z2 HT
  have H1 := Lib.hid h1
  have hs1 : ∀ w, (Instr.slice 9 (.string s) none (some (.int .i64 (i : Int))) none).run Try.prog w = .ok (.string (s.extract 0 i)) w := fun w => by
    have a1 : (0 : Int) ≤ (i : Int) := by omega
    have a2 : (i : Int) ≤ (s.size : Int) := by omega
    have a3 : i ≤ s.size := by omega
    simp [go_sem, a3]
  have hs3 : ∀ w, (Instr.slice 9 (.string s) (some (.int .i64 (i1 : Int))) none none).run Try.prog w = .ok (.string (s.extract i1 s.size)) w := fun w => slFromW s i1 i1s w
  obtain ⟨L, hL⟩ : ∃ L, L = s.extract 0 i := ⟨_, rfl⟩
  obtain ⟨R, hR⟩ : ∃ R, R = s.extract i1 s.size := ⟨_, rfl⟩
  obtain ⟨M, hM⟩ : ∃ M, M = dg1T n := ⟨_, rfl⟩
  rw [← hL] at z1 HT hs1
  rw [← hR] at z2 HT hs3
  rw [← hM] at z3 HT HN
  clear hd hn hN hG h1 h2 h3 hE hL hR hM hi1 hd48
  go_enter Try.func40, Try.ntmps40
  have Wi1 : IntKind.i64.wrap (i1 : Int) = (i1 : Int) := by simp only [IntKind.wrap_i64]; omega
  have i1i : (i1 : Int) ≤ (s.size : Int) := by omega
  have i10 : (0 : Int) ≤ (i1 : Int) := by omega
  have q1 : ¬ 9223372036854775807 < L.size + M.size := by omega
  have q2 : ¬ 9223372036854775807 < L.size + M.size + R.size := by omega
  have q3 : (L ++ M).size = L.size + M.size := ByteArray.size_append
  go_wp2_with (first | (go_at_call 61; refine (piPin_any _ _ hs).mono ?_; rintro e w' ⟨rfl, rfl⟩; rw [H1.out]) | (go_at_call 55; refine (inW_any _ _ _ _).mono ?_; rintro e w' ⟨rfl, rfl⟩; first | rw [K2.out] | rw [K3.out]))
  go_region_with (go_at_call 58; refine (HN.out _).mono ?_; rintro e w3 ⟨rfl, x3⟩)
  all_goals go_wp2
  all_goals go_ret2
  all_goals exact ⟨ret_sBt (by rw [HV.out, ← HT.out]) HG.out.symm, by first | exact x3 | exact ext_drewN x3 _ | exact Ext.trans (ext_drewN (Ext.refl _) _) x3 | exact ext_drewN (Ext.trans (ext_drewN (Ext.refl _) _) x3) _⟩
end Go.Proofs.Ytmpajijnpoekgaa
