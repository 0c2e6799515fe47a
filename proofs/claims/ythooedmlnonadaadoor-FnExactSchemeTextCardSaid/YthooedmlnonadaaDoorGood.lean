/- Schemes: the model's and the program's test of them. No conditions. -/
import Derived.Test.YthooedmlnonadaaDoorSch
import Derived.Test.YthooedmlnonadaaDoorWk
import Derived.Deep.RegionWith
namespace Go.Proofs.YthooedmlnonadaaDoor
open Go.RowKit

def okIn (lo hi z : Int) : Bool := inW z lo hi
theorem take_all {p : Int → Bool} (zs : List Int) (k : Nat) (h : k < zs.length) : (zs.take (k + 1)).all p = ((zs.take k).all p && p zs[k]) := by
  rw [List.take_succ_eq_append_getElem h, List.all_append]; simp
theorem all_no {p : Int → Bool} {zs : List Int} (k : Nat) (h : k < zs.length) (h2 : p zs[k] = false) : zs.all p = false := by
  rw [List.all_eq_false]; exact ⟨zs[k], List.getElem_mem h, by simp [h2]⟩

set_option maxHeartbeats 1000000 in
theorem l1All_any (v : Value) (zs : List Int) (lo hi : Int) (w : World) (h : IntsA w v zs) : Calls Tryd.prog 44 #[v, .int .i64 lo, .int .i64 hi] w fun e w' => e = .returned (.bool (zs.all (okIn lo hi))) ∧ w = w' := by
  have H := Lib.hid h
  have hl := h.1
  unfold maxLen at hl
  obtain ⟨a, cap, hv⟩ := h.at
  rw [hv] at H ⊢
  clear hv h
  go_enter Tryd.func44, Tryd.ntmps44
  go_wp2
  go_loop [11] (fun i => ∃ k : Nat, k ≤ zs.length ∧ i = .int .i64 k ∧ (zs.take k).all (okIn lo hi) = true) (fun i => zs.length - (intOf i).toNat)
  case atStart => exact ⟨0, Nat.zero_le _, rfl, rfl⟩
  case round =>
    obtain ⟨k, hk, rfl, hall⟩ := hrel
    have HA := Lib.hid hall
    clear hall
    by_cases hlt : k < zs.length
    · obtain ⟨b, off, ha, _, e1⟩ := H.out.get2 k hlt
      have HT := Lib.hid (take_all (p := okIn lo hi) zs k hlt)
      have HF := Lib.hid (fun (h : okIn lo hi zs[k] = false) => all_no (p := okIn lo hi) k hlt h)
      obtain ⟨z, hz⟩ : ∃ z, z = zs[k] := ⟨_, rfl⟩
      rw [← hz] at e1 HT HF
      clear hz
      subst ha
      cases hb : okIn lo hi z
      · have HV := Lib.hid (HF.out hb)
        have hb2 : inW z lo hi = false := hb
        clear hb
        go_wp2_with (go_at_call 43; refine (inW_any _ _ _ _).mono ?_; rintro e w' ⟨rfl, rfl⟩; rw [hb2])
        go_ret
        exact ⟨ret_bool HV.out.symm, rfl⟩
      · have HN := Lib.hid (show (zs.take (k + 1)).all (okIn lo hi) = true by rw [HT.out, HA.out, hb]; rfl)
        have hb2 : inW z lo hi = true := hb
        clear hb
        go_wp2_with (go_at_call 43; refine (inW_any _ _ _ _).mono ?_; rintro e w' ⟨rfl, rfl⟩; rw [hb2])
        go_round
        case rel => exact ⟨k + 1, by omega, by go_num, HN.out⟩
        case measure => simp [intOf]; omega
    · have HV := Lib.hid (show zs.all (okIn lo hi) = true by have := HA.out; rw [List.take_of_length_le (by omega)] at this; exact this)
      go_wp2
      go_ret
      exact ⟨ret_bool HV.out.symm, rfl⟩

/-! ### Schemes -/
def isSch (m : Int) (zs : List Int) : Bool := inW m 2 13 && (inW zs.length 1 12 && zs.all (okIn 0 (m - 1)))
theorem isSch_m {m : Int} {zs : List Int} (h : inW m 2 13 = false) : isSch m zs = false := by unfold isSch; rw [h]; rfl
theorem isSch_l {m : Int} {zs : List Int} (h : inW zs.length 1 12 = false) : isSch m zs = false := by unfold isSch; rw [h, Bool.false_and, Bool.and_false]
theorem isSch_a {m : Int} {zs : List Int} (h : inW m 2 13 = true) (h2 : inW zs.length 1 12 = true) : isSch m zs = zs.all (okIn 0 (m - 1)) := by unfold isSch; rw [h, h2]; rfl
theorem inW_bd {n lo hi : Int} (h : inW n lo hi = true) : lo ≤ n ∧ n ≤ hi := by
  unfold inW at h
  rw [Bool.and_eq_true, decide_eq_true_eq, decide_eq_true_eq] at h
  exact h
structure SchB (m : Int) (zs : List Int) : Prop where
  m1 : 2 ≤ m
  m2 : m ≤ 13
  l1 : 1 ≤ zs.length
  l2 : zs.length ≤ 12
  at_ : ∀ j (h : j < zs.length), 0 ≤ zs[j] ∧ zs[j] < m
theorem isSch_bd {m : Int} {zs : List Int} (h : isSch m zs = true) : SchB m zs := by
  unfold isSch at h
  rw [Bool.and_eq_true, Bool.and_eq_true, List.all_eq_true] at h
  have a := inW_bd h.1
  have b := inW_bd h.2.1
  refine ⟨a.1, a.2, by omega, by omega, fun j hj => ?_⟩
  have c := inW_bd (h.2.2 zs[j] (List.getElem_mem hj))
  omega

set_option maxHeartbeats 1000000 in
theorem ckGood_any (m : Int) (v : Value) (zs : List Int) (w : World) (h : IntsA w v zs) (hm : -9223372036854775808 ≤ m ∧ m ≤ 9223372036854775807) : Calls Tryd.prog 26 #[.agg #[.int .i64 m, v]] w fun e w' => e = .returned (.bool (isSch m zs)) ∧ Ext w w' := by
  have H := Lib.hid h
  have hl := h.1
  unfold maxLen at hl
  have X0 := Lib.hid (show Ext w (w.alloc (.cells #[.int .i64 m, v] 34)) from (Ext.refl w).alloc _)
  obtain ⟨a, cap, hv⟩ := h.at
  rw [hv] at H X0 ⊢
  clear hv h
  cases h1 : inW m 2 13
  · have HV := Lib.hid (isSch_m (zs := zs) h1)
    go_enter Tryd.func26, Tryd.ntmps26
    go_wp2_with (go_at_call 43; refine (inW_any _ _ _ _).mono ?_; rintro e w' ⟨rfl, rfl⟩; rw [h1])
    go_ret
    exact ⟨ret_bool HV.out.symm, X0.out⟩
  cases h2 : inW zs.length 1 12
  · have HV := Lib.hid (isSch_l (m := m) h2)
    go_enter Tryd.func26, Tryd.ntmps26
    go_wp2_with (go_at_call 43; refine (inW_any _ _ _ _).mono ?_; rintro e w' ⟨rfl, rfl⟩; first | rw [h1] | rw [h2])
    go_ret
    exact ⟨ret_bool HV.out.symm, X0.out⟩
  · have HV := Lib.hid (isSch_a h1 h2)
    have hb := inW_bd h1
    go_enter Tryd.func26, Tryd.ntmps26
    go_wp2_with (first | (go_at_call 43; refine (inW_any _ _ _ _).mono ?_; rintro e w' ⟨rfl, rfl⟩; first | rw [h1] | rw [h2]) | (go_at_call 44; refine (l1All_any _ zs _ _ _ (H.out.ext X0.out)).mono ?_; rintro e w' ⟨rfl, rfl⟩))
    go_ret
    exact ⟨ret_bool HV.out.symm, X0.out⟩

/-! ### The program's -/
theorem wbad_any (m z : Int) (v : Value) (C : Nat) (w : World) (h : w.heap[C]? = some (.cells #[.int .i64 m, v] 34)) : Calls Tryd.prog 48 #[.int .i64 z, .pointer (some ⟨C, 0, none⟩)] w fun e w' => e = .returned (.bool (!okIn 0 (m - 1) z)) ∧ w = w' := by
  obtain ⟨hc, hf⟩ := cell_of h (j := 0) rfl
  by_cases h0 : z < 0
  · have HV := Lib.hid (show okIn 0 (m - 1) z = false from inW_lo h0)
    go_enter Tryd.func48, Tryd.ntmps48
    go_wp2
    go_ret
    exact ⟨by rw [HV.out]; rfl, rfl⟩
  by_cases h1 : m ≤ z
  · have HV := Lib.hid (show okIn 0 (m - 1) z = false from inW_hi (by omega))
    have h1g : z ≥ m := h1
    have hd : decide (z < m) = false := decide_eq_false (by omega)
    have hd2 : decide (m ≤ z) = true := decide_eq_true h1
    go_enter Tryd.func48, Tryd.ntmps48
    go_wp2
    go_ret
    exact ⟨by rw [HV.out]; rfl, rfl⟩
  · have HV := Lib.hid (show okIn 0 (m - 1) z = true from inW_yes (by omega) (by omega))
    have hd : decide (z < m) = true := decide_eq_true (by omega)
    have hd2 : decide (m ≤ z) = false := decide_eq_false h1
    go_enter Tryd.func48, Tryd.ntmps48
    go_wp2
    go_ret
    exact ⟨by rw [HV.out]; rfl, rfl⟩

set_option maxHeartbeats 1000000 in
theorem idxf_any (m : Int) (v : Value) (zs : List Int) (C : Nat) (w : World) (h : w.heap[C]? = some (.cells #[.int .i64 m, v] 34)) (hs : IntsA w v zs) : Calls Tryd.prog 63 #[v, .func (.func 48) #[] #[.pointer (some ⟨C, 0, none⟩)]] w fun e w' => (∃ r : Int, e = .returned (.int .i64 r) ∧ decide (0 ≤ r) = !zs.all (okIn 0 (m - 1))) ∧ w = w' := by
  have H := Lib.hid hs
  have HB := Lib.hid (fun z => wbad_any m z v C w h)
  have hl := hs.1
  unfold maxLen at hl
  obtain ⟨a, cap, hv⟩ := hs.at
  rw [hv] at H ⊢
  clear hv hs h
  go_enter Tryd.func63, Tryd.ntmps63
  go_wp2
  go_loop [8] (fun i => ∃ k : Nat, k ≤ zs.length ∧ i = .int .i64 k ∧ (zs.take k).all (okIn 0 (m - 1)) = true) (fun i => zs.length - (intOf i).toNat)
  case atStart => exact ⟨0, Nat.zero_le _, rfl, rfl⟩
  case round =>
    obtain ⟨k, hk, rfl, hall⟩ := hrel
    have HA := Lib.hid hall
    clear hall
    by_cases hlt : k < zs.length
    · obtain ⟨b, off, ha, _, e1⟩ := H.out.get2 k hlt
      have HT := Lib.hid (take_all (p := okIn 0 (m - 1)) zs k hlt)
      have HF := Lib.hid (fun (h : okIn 0 (m - 1) zs[k] = false) => all_no (p := okIn 0 (m - 1)) k hlt h)
      obtain ⟨z, hz⟩ : ∃ z, z = zs[k] := ⟨_, rfl⟩
      rw [← hz] at e1 HT HF
      clear hz
      subst ha
      cases hb : okIn 0 (m - 1) z
      · have HV := Lib.hid (HF.out hb)
        have HZ := Lib.hid (show Calls Tryd.prog 48 #[.int .i64 z, .pointer (some ⟨C, 0, none⟩)] w fun e w' => e = .returned (.bool true) ∧ w = w' from by have := HB.out z; rw [hb] at this; exact this)
        clear hb
        go_wp2_with (go_at_call 48; refine HZ.out.mono ?_; rintro e w' ⟨rfl, rfl⟩)
        go_ret
        exact ⟨⟨_, rfl, by rw [HV.out, decide_eq_true (by omega)]; rfl⟩, rfl⟩
      · have HN := Lib.hid (show (zs.take (k + 1)).all (okIn 0 (m - 1)) = true by rw [HT.out, HA.out, hb]; rfl)
        have HZ := Lib.hid (show Calls Tryd.prog 48 #[.int .i64 z, .pointer (some ⟨C, 0, none⟩)] w fun e w' => e = .returned (.bool false) ∧ w = w' from by have := HB.out z; rw [hb] at this; exact this)
        clear hb
        go_wp2_with (go_at_call 48; refine HZ.out.mono ?_; rintro e w' ⟨rfl, rfl⟩)
        go_round
        case rel => exact ⟨k + 1, by omega, by go_num, HN.out⟩
        case measure => simp [intOf]; omega
    · have HV := Lib.hid (show zs.all (okIn 0 (m - 1)) = true by have := HA.out; rw [List.take_of_length_le (by omega)] at this; exact this)
      go_wp2
      go_ret
      exact ⟨⟨_, rfl, by rw [HV.out]; rfl⟩, rfl⟩

theorem contf_any (m : Int) (v : Value) (zs : List Int) (C : Nat) (w : World) (h : w.heap[C]? = some (.cells #[.int .i64 m, v] 34)) (hs : IntsA w v zs) : Calls Tryd.prog 47 #[v, .func (.func 48) #[] #[.pointer (some ⟨C, 0, none⟩)]] w fun e w' => e = .returned (.bool (!zs.all (okIn 0 (m - 1)))) ∧ w = w' := by
  have H := Lib.hid (idxf_any m v zs C w h hs)
  clear h hs
  obtain ⟨b, hb⟩ : ∃ b, b = !zs.all (okIn 0 (m - 1)) := ⟨_, rfl⟩
  rw [← hb] at H ⊢
  clear hb
  go_enter Tryd.func47, Tryd.ntmps47
  go_wp2_with fail
  refine H.out.mono ?_
  rintro e w' ⟨⟨r, rfl, hr⟩, rfl⟩
  have HR := Lib.hid hr
  clear hr
  go_wp2_with fail
  go_ret
  exact ⟨ret_bool HR.out, rfl⟩
theorem isLong_any (n hi : Int) (w : World) : Calls Tryd.prog 46 #[.int .i64 n, .int .i64 hi] w fun e w' => e = .returned (.bool (inW n 1 hi)) ∧ w = w' := by
  by_cases h1 : 1 ≤ n
  · by_cases h2 : n ≤ hi
    · have HV := Lib.hid (inW_yes h1 h2)
      go_enter Tryd.func46, Tryd.ntmps46
      go_wp2
      go_ret
      exact ⟨ret_bool (by rw [HV.out] <;> simp [h2]), rfl⟩
    · have HV := Lib.hid (inW_hi (n := n) (lo := 1) (hi := hi) (by omega))
      go_enter Tryd.func46, Tryd.ntmps46
      go_wp2
      go_ret
      exact ⟨ret_bool (by rw [HV.out] <;> simp <;> omega), rfl⟩
  · have HV := Lib.hid (inW_lo (n := n) (lo := 1) (hi := hi) (by omega))
    go_enter Tryd.func46, Tryd.ntmps46
    go_wp2
    go_ret
    exact ⟨ret_bool (by rw [HV.out]), rfl⟩

set_option maxHeartbeats 1000000 in
theorem isSch_any (m : Int) (v : Value) (zs : List Int) (w : World) (h : IntsA w v zs) (hm : -9223372036854775808 ≤ m ∧ m ≤ 9223372036854775807) : Calls Tryd.prog 29 #[.agg #[.int .i64 m, v]] w fun e w' => e = .returned (.bool (isSch m zs)) ∧ Ext w w' := by
  have H := Lib.hid h
  have hl := h.1
  unfold maxLen at hl
  have X0 := Lib.hid (show Ext w (w.alloc (.cells #[.int .i64 m, v] 34)) from (Ext.refl w).alloc _)
  have HC := Lib.hid (contf_any m v zs w.heap.size _ (heap_alloc_new w (.cells #[.int .i64 m, v] 34)) (h.ext X0.out))
  obtain ⟨a, cap, hv⟩ := h.at
  rw [hv] at H X0 HC ⊢
  clear hv h
  by_cases ha : m < 2
  · have HV := Lib.hid (isSch_m (zs := zs) (inW_lo ha))
    go_enter Tryd.func29, Tryd.ntmps29
    go_wp2
    go_ret
    exact ⟨ret_bool HV.out.symm, X0.out⟩
  by_cases hb : 13 < m
  · have HV := Lib.hid (isSch_m (zs := zs) (inW_hi (lo := 2) hb))
    go_enter Tryd.func29, Tryd.ntmps29
    go_wp2
    go_ret
    exact ⟨ret_bool HV.out.symm, X0.out⟩
  cases h2 : inW zs.length 1 12
  · have HV := Lib.hid (isSch_l (m := m) h2)
    go_enter Tryd.func29, Tryd.ntmps29
    go_wp2_with (go_at_call 46; refine (isLong_any _ _ _).mono ?_; rintro e w' ⟨rfl, rfl⟩; rw [h2])
    go_ret
    exact ⟨ret_bool HV.out.symm, X0.out⟩
  · have HV := Lib.hid (isSch_a (m := m) (inW_yes (by omega) (by omega)) h2)
    go_enter Tryd.func29, Tryd.ntmps29
    go_wp2_with (first | (go_at_call 46; refine (isLong_any _ _ _).mono ?_; rintro e w' ⟨rfl, rfl⟩; rw [h2]) | (go_at_call 47; refine HC.out.mono ?_; rintro e w' ⟨rfl, rfl⟩))
    go_ret
    exact ⟨ret_bool HV.out.symm, X0.out⟩

end Go.Proofs.YthooedmlnonadaaDoor
