/- Plans: the model's and the program's test of them. No conditions. -/
import Derived.Test.YthooedmlnonadaaDoorPlG
import Derived.Test.YthooedmlnonadaaDoorFind
import Derived.Deep.RegionWith
namespace Go.Proofs.YthooedmlnonadaaDoor
open Go.RowKit

theorem isLong_any (n hi : Int) (w : World) : Calls Tryd.prog 46 #[.int .i64 n, .int .i64 hi] w fun e w' => e = .returned (.bool (inW n 1 hi)) ∧ w = w' := by
  by_cases h1 : 1 ≤ n
  · by_cases h2 : n ≤ hi
    · have HV := Lib.hid (inW_yes h1 h2)
      go_enter Tryd.func46, Tryd.ntmps46
      go_wp2
      go_ret
      exact ⟨ret_bool (by rw [HV.out] <;> simp [h2]), rfl⟩
    · have HV := Lib.hid (inW_hi (n := n) (lo := 1) (hi := hi) (by omega))
      go_enter Tryd.func46, Tryd.ntmps46
      go_wp2
      go_ret
      exact ⟨ret_bool (by rw [HV.out] <;> simp <;> omega), rfl⟩
  · have HV := Lib.hid (inW_lo (n := n) (lo := 1) (hi := hi) (by omega))
    go_enter Tryd.func46, Tryd.ntmps46
    go_wp2
    go_ret
    exact ⟨ret_bool (by rw [HV.out]), rfl⟩

set_option maxHeartbeats 1000000 in
theorem areIn_any (v : Value) (ss : List ByteArray) (w : World) (h : Strs w v ss) : Calls Tryd.prog 60 #[v, .func (.func 61) #[] #[]] w fun e w' => e = .returned (.bool (cdB ss)) ∧ Ext w w' := by
  have H := Lib.hid h
  have hl := h.1
  unfold maxLen at hl
  have X0 := Lib.hid (show Ext w (w.alloc (.cells #[.func (.func 61) #[] #[]] 27)) from (Ext.refl w).alloc _)
  have HC := Lib.hid (contf_cd v ss w.heap.size _ (heap_alloc_new w (.cells #[.func (.func 61) #[] #[]] 27)) (h.ext X0.out))
  have HN := Lib.hid (notCode_any ss)
  obtain ⟨q, hq⟩ : ∃ q, q = ss.any notCode := ⟨_, rfl⟩
  rw [← hq] at HN
  simp only [← hq] at HC
  clear hq
  obtain ⟨a, cap, hv, _⟩ := h.at
  rw [hv] at H HC ⊢
  clear hv h
  cases h2 : inW ss.length 1 20
  · have HV := Lib.hid (cdB_l h2)
    go_enter Tryd.func60, Tryd.ntmps60
    go_wp2_with (go_at_call 46; refine (isLong_any _ _ _).mono ?_; rintro e w' ⟨rfl, rfl⟩; rw [h2])
    go_ret
    exact ⟨ret_bool HV.out.symm, X0.out⟩
  · have HV := Lib.hid (cdB_a h2)
    go_enter Tryd.func60, Tryd.ntmps60
    go_wp2_with (first | (go_at_call 46; refine (isLong_any _ _ _).mono ?_; rintro e w' ⟨rfl, rfl⟩; rw [h2]) | (go_at_call 74; refine HC.out.mono ?_; rintro e w' ⟨rfl, rfl⟩))
    go_ret
    exact ⟨ret_bool (by rw [HV.out, ← HN.out]), X0.out⟩
theorem areCodes_any (v : Value) (ss : List ByteArray) (w : World) (h : Strs w v ss) : Calls Tryd.prog 41 #[v] w fun e w' => e = .returned (.bool (cdB ss)) ∧ Ext w w' := by
  have H := Lib.hid h
  clear h
  go_enter Tryd.func41, Tryd.ntmps41
  go_wp2_with fail
  refine (areIn_any _ _ _ H.out).mono ?_
  rintro e w' ⟨rfl, x1⟩
  go_wp2_with fail
  go_ret
  exact ⟨rfl, x1⟩

theorem cdB_no {ss : List ByteArray} (k : Nat) (h : k < ss.length) (h2 : isDg 1 6 ss[k] = false) : cdB ss = false := by
  unfold cdB
  rw [List.all_eq_false.2 ⟨ss[k], List.getElem_mem h, by simp [h2]⟩, Bool.and_false]

set_option maxHeartbeats 1000000 in
theorem plCodes_any (v : Value) (ss : List ByteArray) (w : World) (h : Strs w v ss) : Calls Tryd.prog 38 #[v] w fun e w' => e = .returned (.bool (cdB ss)) ∧ w = w' := by
  have hl := h.1
  unfold maxLen at hl
  have HM := Lib.hid h.2.1
  have HS := Lib.hid h
  obtain ⟨a, cap, hv, hnil⟩ := h.at
  rw [hv] at HS ⊢
  clear hv hnil h v
  cases h2 : inW ss.length 1 20
  · have HV := Lib.hid (cdB_l h2)
    go_enter Tryd.func38, Tryd.ntmps38
    go_wp2_with (go_at_call 43; refine (inW_any _ _ _ _).mono ?_; rintro e w' ⟨rfl, rfl⟩; rw [h2])
    go_ret
    exact ⟨ret_bool HV.out.symm, rfl⟩
  have HI := Lib.hid (inW_bnd h2)
  go_enter Tryd.func38, Tryd.ntmps38
  go_wp2_with (go_at_call 43; refine (inW_any _ _ _ _).mono ?_; rintro e w' ⟨rfl, rfl⟩; rw [h2])
  clear h2
  go_loop [11] (fun i => ∃ k : Nat, k ≤ ss.length ∧ i = .int .i64 k ∧ (∀ j (hj : j < ss.length), j < k → isDg 1 6 ss[j] = true)) (fun i => ss.length - (intOf i).toNat)
  case atStart => exact ⟨0, Nat.zero_le _, rfl, fun j _ h => absurd h (Nat.not_lt_zero _)⟩
  case round =>
    obtain ⟨k, hk, rfl, hall⟩ := hrel
    have HA := Lib.hid hall
    clear hall
    by_cases hlt : k < ss.length
    · obtain ⟨b, off, ha, e1⟩ := HS.out.get2 k hlt
      have hz := HM.out ss[k] (List.getElem_mem hlt)
      rw [ha]
      cases hW : isDg 1 6 ss[k]
      · have HV := Lib.hid (cdB_no k hlt hW)
        go_wp2_with (go_at_call 56; refine (plCode_any _ _ hz).mono ?_; rintro e w' ⟨rfl, rfl⟩)
        go_ret
        exact ⟨ret_bool HV.out.symm, rfl⟩
      · have HK := Lib.hid hW
        go_wp2_with (go_at_call 56; refine (plCode_any _ _ hz).mono ?_; rintro e w' ⟨rfl, rfl⟩)
        go_round
        case rel =>
          refine ⟨k + 1, by omega, by go_num, fun j hj hjk => ?_⟩
          by_cases e : j = k
          · subst e; exact HK.out
          · exact HA.out j hj (by omega)
        case measure => simp [intOf]; omega
    · have HV := Lib.hid (show cdB ss = true from cdB_of (by have := HI.out; omega) (by have := HI.out; omega) (fun s hs => by obtain ⟨j, hj, rfl⟩ := List.mem_iff_getElem.1 hs; exact HA.out j hj (by omega)))
      go_wp2
      go_ret
      exact ⟨ret_bool HV.out.symm, rfl⟩

set_option maxHeartbeats 2000000 in
theorem plGood_any (v : Value) (ss : List ByteArray) (w : World) (h : Strs w v ss) : Calls Tryd.prog 21 #[v] w fun e w' => e = .returned (.bool (plB ss)) ∧ Ext w w' := by
  have hl := h.1
  unfold maxLen at hl
  have HS := Lib.hid h
  obtain ⟨a, cap, hv, hnil⟩ := h.at
  rw [hv] at HS ⊢
  clear hv hnil h v
  cases h2 : cdB ss
  · have HV := Lib.hid (plB_no h2)
    go_enter Tryd.func21, Tryd.ntmps21
    go_wp2_with (go_at_call 38; refine (plCodes_any _ _ _ HS.out).mono ?_; rintro e w' ⟨rfl, rfl⟩; rw [h2])
    go_ret
    exact ⟨ret_bool HV.out.symm, Ext.refl _⟩
  have HI := Lib.hid (cdB_parts h2)
  have HP := Lib.hid (plB_cd h2)
  have h1 : 1 ≤ ss.length := HI.out.1
  go_enter Tryd.func21, Tryd.ntmps21
  go_wp2_with (go_at_call 38; refine (plCodes_any _ _ _ HS.out).mono ?_; rintro e w' ⟨rfl, rfl⟩; rw [h2])
  clear h2
  go_loopw [3] (fun i wr => ∃ k : Nat, k + 1 ≤ ss.length ∧ i = .int .i64 ((k + 1 : Nat) : Int) ∧ (∀ j, j < k → okP ss j = true) ∧ Ext w wr) (fun i _ => ss.length - (intOf i).toNat)
  case atStart => exact ⟨0, h1, rfl, fun j h => absurd h (by omega), Ext.refl _⟩
  case round =>
    obtain ⟨k, hk, rfl, hall, hx⟩ := hrel
    have HA := Lib.hid hall
    clear hall
    by_cases hlt : k + 1 < ss.length
    · obtain ⟨b, off, ha, e1⟩ := (HS.out.ext hx).get2 (k + 1) hlt
      obtain ⟨b', off', ha', e2⟩ := (HS.out.ext hx).get2 k (by omega)
      obtain ⟨rfl, rfl⟩ : b' = b ∧ off' = off := by rw [ha] at ha'; injection ha' with e; injection e with e3 e4; exact ⟨e3.symm, e4.symm⟩
      clear ha'
      rw [ha]
      have W1 : IntKind.i64.wrap (((k + 1 : Nat) : Int) - 1) = ((k : Nat) : Int) := by simp only [IntKind.wrap_i64]; omega
      have b1 : ((k + 1 : Nat) : Int) < (ss.length : Int) := by omega
      have b2 : ((k : Nat) : Int) < (ss.length : Int) := by omega
      have b3 : k < ss.length := by omega
      have HO := Lib.hid (okP_eq ss k hlt)
      obtain ⟨s, hs⟩ : ∃ s, s = ss[k]'(by omega) := ⟨_, rfl⟩
      obtain ⟨t, ht⟩ : ∃ t, t = ss[k + 1] := ⟨_, rfl⟩
      rw [← hs] at e2 HO
      rw [← ht] at e1 HO
      clear hs ht
      cases hL : lessB s t
      · have t1 : Op.bytesLess s.toList t.toList = false := hL
        have HV := Lib.hid (adB_no k hlt (by rw [HO.out, hL]; rfl))
        clear hL
        go_wp2
        go_quiet (exact Calls.quiet_of_same ((plBeg_any _ _ _).mono fun e w' h => ⟨h.1, h.2.symm⟩))
        go_wp2
        go_ret
        exact ⟨ret_bool (by rw [HP.out, HV.out]), ext_drewN hx _⟩
      · have t1 : Op.bytesLess s.toList t.toList = true := hL
        cases hB : bgB s t
        · have HK := Lib.hid (show okP ss k = true by rw [HO.out, hL, hB]; rfl)
          have HB := Lib.hid hB
          clear hL hB
          go_wp2
          go_quiet (exact Calls.quiet_of_same ((plBeg_any _ _ _).mono fun e w' h => ⟨h.1.trans (by rw [HB.out]), h.2.symm⟩))
          go_wp2
          go_roundw
          case rel =>
            refine ⟨k + 1, by omega, by go_num, fun j hj => ?_, ext_drewN hx _⟩
            by_cases e : j = k
            · subst e; exact HK.out
            · exact HA.out j (by omega)
          case measure => simp [intOf]; omega
        · have HV := Lib.hid (adB_no k hlt (by rw [HO.out, hB]; simp))
          have HB := Lib.hid hB
          clear hL hB
          go_wp2
          go_quiet (exact Calls.quiet_of_same ((plBeg_any _ _ _).mono fun e w' h => ⟨h.1.trans (by rw [HB.out]), h.2.symm⟩))
          go_wp2
          go_ret
          exact ⟨ret_bool (by rw [HP.out, HV.out]), ext_drewN hx _⟩
    · have HV := Lib.hid (adB_yes (ss := ss) (fun j hj => HA.out j (by omega)))
      go_wp2
      go_ret
      exact ⟨ret_bool (by rw [HP.out, HV.out]), hx⟩

set_option maxHeartbeats 2000000 in
theorem isPl_any (v : Value) (ss : List ByteArray) (w : World) (h : Strs w v ss) (hcap : CapOk v) : Calls Tryd.prog 23 #[v] w fun e w' => e = .returned (.bool (plB ss)) ∧ Ext w w' := by
  have hl := h.1
  unfold maxLen at hl
  have HS := Lib.hid h
  obtain ⟨a, cap, hv, hnil⟩ := h.at
  have hcp : ss.length ≤ cap := hcap _ _ _ hv
  rw [hv] at HS ⊢
  clear hv hnil h hcap v
  cases h2 : cdB ss
  · have HV := Lib.hid (plB_no h2)
    go_enter Tryd.func23, Tryd.ntmps23
    go_wp2_with (go_at_call 41; refine (areCodes_any _ _ _ HS.out).mono ?_; rintro e w' ⟨rfl, x1⟩; rw [h2])
    go_ret
    exact ⟨ret_bool HV.out.symm, x1⟩
  have HI := Lib.hid (cdB_parts h2)
  have HP := Lib.hid (plB_cd h2)
  have h1 : 1 ≤ ss.length := HI.out.1
  obtain ⟨b, off, ha, e0⟩ := HS.out.get2 0 h1
  subst ha
  go_enter Tryd.func23, Tryd.ntmps23
  go_wp2_with (go_at_call 41; refine (areCodes_any _ _ _ HS.out).mono ?_; rintro e w' ⟨rfl, x1⟩; rw [h2])
  clear h2
  · have hl1 : ss.length = 1 := by omega
    have b0 : ¬ ((0 : Nat) : Int) < ((ss.length - 1 : Nat) : Int) := by omega
    go_loopw [11] (fun i wr => i = .int .i64 ((0 : Nat) : Int) ∧ Ext w wr) (fun _ _ => 0)
    case atStart => exact ⟨rfl, x1⟩
    case round =>
      obtain ⟨rfl, hx⟩ := hrel
      have HV := Lib.hid (adB_yes (ss := ss) (fun j hj => absurd hj (by omega)))
      go_wp2
      go_ret
      exact ⟨ret_bool (by rw [HP.out, HV.out]), hx⟩
  · go_loopw [11] (fun i wr => ∃ k : Nat, k + 1 ≤ ss.length ∧ i = .int .i64 k ∧ (∀ j, j < k → okP ss j = true) ∧ Ext w wr) (fun i _ => ss.length - (intOf i).toNat)
    case atStart => exact ⟨0, h1, rfl, fun j h => absurd h (by omega), x1⟩
    case round =>
      obtain ⟨k, hk, rfl, hall, hx⟩ := hrel
      have HA := Lib.hid hall
      clear hall
      by_cases hlt : k + 1 < ss.length
      · obtain ⟨b1, off1, ha, e1⟩ := (HS.out.ext hx).get2 (k + 1) hlt
        obtain ⟨rfl, rfl⟩ : b = b1 ∧ off = off1 := by injection ha with e; injection e with e3 e4; exact ⟨e3, e4⟩
        clear ha
        obtain ⟨b2, off2, ha, e2⟩ := (HS.out.ext hx).get2 k (by omega)
        obtain ⟨rfl, rfl⟩ : b = b2 ∧ off = off2 := by injection ha with e; injection e with e3 e4; exact ⟨e3, e4⟩
        clear ha
        have b2 : ((k : Nat) : Int) < (ss.length : Int) := by omega
        have b3 : k < ss.length := by omega
        have b4 : ((k : Nat) : Int) < ((ss.length - 1 : Nat) : Int) := by omega
        have e1' := e1
        rw [show off + (k + 1) = off + 1 + k by omega] at e1'
        have HO := Lib.hid (okP_eq ss k hlt)
        obtain ⟨s, hs⟩ : ∃ s, s = ss[k]'(by omega) := ⟨_, rfl⟩
        obtain ⟨t, ht⟩ : ∃ t, t = ss[k + 1] := ⟨_, rfl⟩
        rw [← hs] at e2 HO
        rw [← ht] at e1 e1' HO
        clear hs ht
        cases hL : lessB s t
        · have t1 : Op.bytesLess s.toList t.toList = false := hL
          have HV := Lib.hid (adB_no k hlt (by rw [HO.out, hL]; rfl))
          clear hL
          go_wp2
          go_ret
          exact ⟨ret_bool (by rw [HP.out, HV.out]), hx⟩
        · have t1 : Op.bytesLess s.toList t.toList = true := hL
          cases hB : bgB s t
          · have HK := Lib.hid (show okP ss k = true by rw [HO.out, hL, hB]; rfl)
            have HB := Lib.hid hB
            clear hL hB
            go_wp2_with (go_at_call 42; refine (begins_any _ _ _).mono ?_; rintro e w' ⟨rfl, rfl⟩; rw [HB.out])
            go_roundw
            case rel =>
              refine ⟨k + 1, by omega, by go_num, fun j hj => ?_, hx⟩
              by_cases e : j = k
              · subst e; exact HK.out
              · exact HA.out j (by omega)
            case measure => simp [intOf]; omega
          · have HV := Lib.hid (adB_no k hlt (by rw [HO.out, hB]; simp))
            have HB := Lib.hid hB
            clear hL hB
            go_wp2_with (go_at_call 42; refine (begins_any _ _ _).mono ?_; rintro e w' ⟨rfl, rfl⟩; rw [HB.out])
            go_ret
            exact ⟨ret_bool (by rw [HP.out, HV.out]), hx⟩
      · have HV := Lib.hid (adB_yes (ss := ss) (fun j hj => HA.out j (by omega)))
        have b5 : ¬ ((k : Nat) : Int) < ((ss.length - 1 : Nat) : Int) := by omega
        go_wp2
        go_ret
        exact ⟨ret_bool (by rw [HP.out, HV.out]), hx⟩

end Go.Proofs.YthooedmlnonadaaDoor
