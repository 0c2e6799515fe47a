/- FirstFreeCode: the search for a free code, plainly and by the model. No conditions. -/
import Derived.Test.YtinojlbnmnlmhabSpl
import Derived.Test.YtinojlbnmnlmhabJnc
namespace Go.Proofs.Ytinojlbnmnlmhab
open Go.RowKit

/-- The first free text that goes on with a start by so many digits. -/
def fr (ss : List ByteArray) (b : ByteArray) : Nat → Option ByteArray
  | 0 => if bgO ss b || bgA b ss then none else some b
  | m + 1 => if bgO ss b then none else (List.range 10).findSome? fun d => fr ss (b ++ dg1T d) m
theorem fr_o {ss : List ByteArray} {b : ByteArray} {m : Nat} (h : bgO ss b = true) : fr ss b m = none := by
  cases m with
  | zero => rw [fr, h]; rfl
  | succ m => rw [fr, h]; rfl
theorem fr_a {ss : List ByteArray} {b : ByteArray} (h : bgA b ss = true) : fr ss b 0 = none := by rw [fr, h, Bool.or_true]; rfl
theorem fr_y {ss : List ByteArray} {b : ByteArray} (h : bgO ss b = false) (h2 : bgA b ss = false) : fr ss b 0 = some b := by rw [fr, h, h2]; rfl
/-- What the first so many digits give. -/
def frT (ss : List ByteArray) (b : ByteArray) (m k : Nat) : Option ByteArray := (List.range k).findSome? fun d => fr ss (b ++ dg1T d) m
theorem frT_zero (ss : List ByteArray) (b : ByteArray) (m : Nat) : frT ss b m 0 = none := rfl
theorem frT_step (ss : List ByteArray) (b : ByteArray) (m k : Nat) (h : frT ss b m k = none) : frT ss b m (k + 1) = fr ss (b ++ dg1T k) m := by
  unfold frT at h ⊢
  rw [List.range_succ, List.findSome?_append, h]
  simp
theorem frT_some {ss : List ByteArray} {b t : ByteArray} {m k : Nat} (h : frT ss b m k = none) (hk : k < 10) (h2 : fr ss (b ++ dg1T k) m = some t) : frT ss b m 10 = some t := by
  have e : List.range 10 = List.range (k + 1) ++ (List.range 10).drop (k + 1) := by
    rw [← List.take_append_drop (k + 1) (List.range 10), List.take_range, Nat.min_eq_left (by omega)]
    simp
  have h3 : frT ss b m (k + 1) = some t := by rw [frT_step ss b m k h, h2]
  unfold frT at h3 ⊢
  rw [e, List.findSome?_append, h3]
  rfl
theorem fr_s {ss : List ByteArray} {b : ByteArray} {m : Nat} (h : bgO ss b = false) : fr ss b (m + 1) = frT ss b m 10 := by rw [fr, h]; rfl
theorem fr_size : ∀ (m : Nat) {ss : List ByteArray} {b t : ByteArray}, fr ss b m = some t → t.size = b.size + m
  | 0, ss, b, t, h => by
    rw [fr] at h
    split at h
    · cases h
    · injection h with h; rw [h]; rfl
  | m + 1, ss, b, t, h => by
    rw [fr] at h
    split at h
    · cases h
    · obtain ⟨d, _, hd⟩ := List.exists_of_findSome?_eq_some h
      have := fr_size m hd
      rw [this, ByteArray.size_append, dg1_size]
      omega
def txO (o : Option ByteArray) : ByteArray := o.getD ⟨#[]⟩
def okFF (ss : List ByteArray) (n : Int) : Bool := plB ss && (inW n 1 6 && (fr ss ⟨#[]⟩ n.toNat).isSome)
def vFF (ss : List ByteArray) (n : Int) : ByteArray := if okFF ss n then txO (fr ss ⟨#[]⟩ n.toNat) else ⟨#[]⟩
theorem okFF_p {ss : List ByteArray} {n : Int} (h : plB ss = false) : okFF ss n = false := by unfold okFF; rw [h]; rfl
theorem okFF_n {ss : List ByteArray} {n : Int} (h : inW n 1 6 = false) : okFF ss n = false := by unfold okFF; rw [h]; simp
theorem okFF_y {ss : List ByteArray} {n : Int} (h : plB ss = true) (h2 : inW n 1 6 = true) : okFF ss n = (fr ss ⟨#[]⟩ n.toNat).isSome := by unfold okFF; rw [h, h2]; rfl
theorem vFF_no {ss : List ByteArray} {n : Int} (h : okFF ss n = false) : vFF ss n = ⟨#[]⟩ := by unfold vFF; rw [h]; rfl
theorem vFF_y {ss : List ByteArray} {n : Int} (h : plB ss = true) (h2 : inW n 1 6 = true) : vFF ss n = txO (fr ss ⟨#[]⟩ n.toNat) := by
  cases h3 : okFF ss n
  · rw [vFF_no h3]
    rw [okFF_y h h2] at h3
    cases hf : fr ss ⟨#[]⟩ n.toNat with
    | none => rfl
    | some t => rw [hf] at h3; cases h3
  · unfold vFF; rw [h3]; rfl

/-! ### The model's -/
theorem ret_ob {o : Option ByteArray} {a : ByteArray} {b : Bool} (h : a = txO o) (h2 : b = o.isSome) : Ending.returned (.tuple #[.string a, .bool b]) = .returned (.tuple #[.string (txO o), .bool o.isSome]) := by rw [h, h2]

set_option maxRecDepth 100000 in
set_option maxHeartbeats 2000000 in
theorem plFirst_any (ss : List ByteArray) (hp : PlB ss) : ∀ (m : Nat) (v : Value) (b : ByteArray) (w : World), Strs w v ss → b.size + m ≤ 6 → Calls Try.prog 56 #[v, .string b, .int .i64 m] w fun e w' => e = .returned (.tuple #[.string (txO (fr ss b m)), .bool (fr ss b m).isSome]) ∧ Ext w w' := by
  intro m
  induction m with
  | zero =>
    intro v b w h hbm
    have HS := Lib.hid h
    have HP := Lib.hid hp
    obtain ⟨a, cap, hv, _⟩ := h.at
    rw [hv] at HS ⊢
    clear hv h hp v
    obtain ⟨A, hA⟩ : ∃ A, A = ars ss b := ⟨_, rfl⟩
    have HAA := Lib.hid hA
    have hl2 := HP.out.l2
    cases h3 : bgO ss b
    rotate_left
    · have HV := Lib.hid (fr_o (m := 0) h3)
      have t1 : (A.toList == []) = false := emp_n (by rw [hA]; exact ars_ne HP.out h3)
      clear h3 hA
      go_enter Try.func56, Try.ntmps56
      go_wp2_with (go_at_call 95; refine (plArea_any _ _ _ _ HS.out).mono ?_; rintro e w' ⟨rfl, rfl⟩; rw [← HAA.out])
      go_ret2
      exact ⟨ret_ob (by rw [HV.out]; rfl) (by rw [HV.out]; rfl), Ext.refl _⟩
    have HO := Lib.hid h3
    have t1 : (A.toList == []) = true := emp_b (by rw [hA, ars_no h3]; rfl)
    clear h3 hA
    go_enter Try.func56, Try.ntmps56
    go_wp2_with (go_at_call 95; refine (plArea_any _ _ _ _ HS.out).mono ?_; rintro e w' ⟨rfl, rfl⟩; rw [← HAA.out])
    clear t1
    go_loop [21] (fun i => ∃ k : Nat, k ≤ ss.length ∧ i = .int .i64 k ∧ (∀ j (hj : j < ss.length), j < k → bgB b ss[j] = false)) (fun i => ss.length - (intOf i).toNat)
    case atStart => exact ⟨0, Nat.zero_le _, rfl, fun j _ h => absurd h (Nat.not_lt_zero _)⟩
    case round =>
      obtain ⟨k, hk, rfl, hall⟩ := hrel
      have HA := Lib.hid hall
      clear hall
      by_cases hlt : k < ss.length
      · obtain ⟨bb, off, ha, e1⟩ := HS.out.get2 k hlt
        subst ha
        cases hB : bgB b ss[k]
        · have HK := Lib.hid hB
          clear hB
          go_wp2_with (go_at_call 89; refine (plBeg_any _ _ _).mono ?_; rintro e w' ⟨rfl, rfl⟩; rw [HK.out])
          go_round
          case rel =>
            refine ⟨k + 1, by omega, by go_num, fun j hj hjk => ?_⟩
            by_cases e : j = k
            · subst e; exact HK.out
            · exact HA.out j hj (by omega)
          case measure => simp [intOf]; omega
        · have HK := Lib.hid hB
          have HV := Lib.hid (fr_a (ss := ss) (b := b) (anyYes (p := bgB b) k hlt hB))
          clear hB
          go_wp2_with (go_at_call 89; refine (plBeg_any _ _ _).mono ?_; rintro e w' ⟨rfl, rfl⟩; rw [HK.out])
          go_ret2
          exact ⟨ret_ob (by rw [HV.out]; rfl) (by rw [HV.out]; rfl), Ext.refl _⟩
      · have HV := Lib.hid (fr_y HO.out (show bgA b ss = false from any_none (p := bgB b) (fun j hj => HA.out j hj (by omega))))
        go_wp2
        go_ret2
        exact ⟨ret_ob (by rw [HV.out]; rfl) (by rw [HV.out]; rfl), Ext.refl _⟩
  | succ m ih =>
    intro v b w h hbm
    have IH := Lib.hid ih
    have HS := Lib.hid h
    have HP := Lib.hid hp
    obtain ⟨a, cap, hv, _⟩ := h.at
    rw [hv] at HS ⊢
    clear hv h hp v ih
    obtain ⟨A, hA⟩ : ∃ A, A = ars ss b := ⟨_, rfl⟩
    have HAA := Lib.hid hA
    have hl2 := HP.out.l2
    obtain ⟨M, hM⟩ : ∃ M : Nat, M = m + 1 := ⟨_, rfl⟩
    have HMM := Lib.hid hM
    have hM0 : ¬ (M : Int) = 0 := by omega
    have hMb : ((M : Int) == 0) = false := beq_eq_false_iff_ne.2 hM0
    have WM : IntKind.i64.wrap ((M : Int) - 1) = (m : Int) := by simp only [IntKind.wrap_i64]; omega
    cases h3 : bgO ss b
    rotate_left
    · have HV := Lib.hid (fr_o (m := m + 1) h3)
      have t1 : (A.toList == []) = false := emp_n (by rw [hA]; exact ars_ne HP.out h3)
      clear h3 hA hM0 hMb WM
      rw [← hM] at HV ⊢
      clear hM
      go_enter Try.func56, Try.ntmps56
      go_wp2_with (go_at_call 95; refine (plArea_any _ _ _ _ HS.out).mono ?_; rintro e w' ⟨rfl, rfl⟩; rw [← HAA.out])
      go_ret2
      exact ⟨ret_ob (by rw [HV.out]; rfl) (by rw [HV.out]; rfl), Ext.refl _⟩
    have HO := Lib.hid h3
    have t1 : (A.toList == []) = true := emp_b (by rw [hA, ars_no h3]; rfl)
    have HFS := Lib.hid (fr_s (m := m) h3)
    clear h3 hA
    rw [← hM] at HFS ⊢
    have hbm2 : b.size + 1 + m ≤ 6 := by omega
    clear hM
    go_enter Try.func56, Try.ntmps56
    go_wp2_with (go_at_call 95; refine (plArea_any _ _ _ _ HS.out).mono ?_; rintro e w' ⟨rfl, rfl⟩; rw [← HAA.out])
    clear t1
    go_loopw [10] (fun i wr => ∃ k : Nat, k ≤ 10 ∧ i = .int .i64 k ∧ frT ss b m k = none ∧ Ext w wr) (fun i _ => 10 - (intOf i).toNat)
    case atStart => exact ⟨0, Nat.zero_le _, rfl, frT_zero _ _ _, Ext.refl _⟩
    case round =>
      obtain ⟨k, hk, rfl, hnone, hx⟩ := hrel
      have HN := Lib.hid hnone
      clear hnone
      by_cases hlt : k < 10
      · have hki : (k : Int) < 10 := by omega
        have HNUM := Lib.hid (fun w => l1NumD_any k w hlt)
        have HST := Lib.hid (frT_step ss b m k HN.out)
        have HSM := Lib.hid (fun t h => frT_some (t := t) HN.out hlt h)
        obtain ⟨D, hD⟩ : ∃ D, D = dg1T k := ⟨_, rfl⟩
        have hDs : D.size = 1 := by rw [hD]; rfl
        rw [← hD] at HST HSM
        simp only [← hD] at HNUM
        have hsz : ¬ (9223372036854775807 : Int) < (b.size : Int) + (D.size : Int) := by omega
        have hsz2 : ¬ 9223372036854775807 < b.size + D.size := by omega
        have HSZ := Lib.hid (show (b ++ D).size + m ≤ 6 by rw [ByteArray.size_append]; omega)
        clear hD hDs
        obtain ⟨o, ho⟩ : ∃ o, o = fr ss (b ++ D) m := ⟨_, rfl⟩
        have HOO := Lib.hid ho
        have IHK := Lib.hid (fun v w hs => IH.out v (b ++ D) w hs HSZ.out)
        rw [← ho] at HST HSM
        simp only [← ho] at IHK
        clear ho
        cases o with
        | none =>
          have IHN := Lib.hid (show ∀ (v : Value) (w : World), Strs w v ss → Calls Try.prog 56 #[v, .string (b ++ D), .int .i64 m] w fun e w' => e = .returned (.tuple #[.string ⟨#[]⟩, .bool false]) ∧ Ext w w' from fun v w hs => IHK.out v w hs)
          clear IHK
          go_wp2_with (first | (go_at_call 41; refine (HNUM.out _).mono ?_; rintro e w5 ⟨rfl, x5⟩) | (go_at_call 56; refine (IHN.out _ _ (HS.out.ext (hx.trans x5))).mono ?_; rintro e w6 ⟨rfl, x6⟩))
          go_roundw
          case rel => exact ⟨k + 1, by omega, by go_num, HST.out, (hx.trans x5).trans x6⟩
          case measure => simp [intOf]; omega
        | some t =>
          have HV := Lib.hid (HSM.out t rfl)
          have IHN := Lib.hid (show ∀ (v : Value) (w : World), Strs w v ss → Calls Try.prog 56 #[v, .string (b ++ D), .int .i64 m] w fun e w' => e = .returned (.tuple #[.string t, .bool true]) ∧ Ext w w' from fun v w hs => IHK.out v w hs)
          clear IHK
          go_wp2_with (first | (go_at_call 41; refine (HNUM.out _).mono ?_; rintro e w5 ⟨rfl, x5⟩) | (go_at_call 56; refine (IHN.out _ _ (HS.out.ext (hx.trans x5))).mono ?_; rintro e w6 ⟨rfl, x6⟩))
          go_ret2
          exact ⟨ret_ob (by rw [HFS.out, HV.out]; rfl) (by rw [HFS.out, HV.out]; rfl), (hx.trans x5).trans x6⟩
      · obtain rfl : k = 10 := by omega
        go_wp2
        go_ret2
        exact ⟨ret_ob (by rw [HFS.out, HN.out]; rfl) (by rw [HFS.out, HN.out]; rfl), hx⟩

set_option maxHeartbeats 1000000 in
theorem ffS_any (v : Value) (ss : List ByteArray) (n : Int) (w : World) (h : Strs w v ss) : Calls Try.prog 23 #[v, .int .i64 n] w fun e w' => e = .returned (.tuple #[.string (vFF ss n), .bool (okFF ss n)]) ∧ Ext w w' := by
  have HS := Lib.hid h
  clear h
  cases h1 : plB ss
  · have HV := Lib.hid (okFF_p (n := n) h1)
    go_enter Try.func23, Try.ntmps23
    go_wp2_with (go_at_call 47; refine (plGood_any _ _ _ HS.out).mono ?_; rintro e w1 ⟨rfl, x1⟩; rw [h1])
    go_ret2
    exact ⟨ret_sb (vFF_no HV.out).symm HV.out.symm, x1⟩
  cases h2 : inW n 1 6
  · have HV := Lib.hid (okFF_n (ss := ss) h2)
    go_enter Try.func23, Try.ntmps23
    go_wp2_with (first | (go_at_call 47; refine (plGood_any _ _ _ HS.out).mono ?_; rintro e w1 ⟨rfl, x1⟩; rw [h1]) | (go_at_call 48; refine (plLong_any _ _).mono ?_; rintro e w' ⟨rfl, rfl⟩; rw [h2]))
    go_ret2
    exact ⟨ret_sb (vFF_no HV.out).symm HV.out.symm, x1⟩
  have hb := inW_bnd h2
  obtain ⟨L, rfl⟩ : ∃ L : Nat, n = L := ⟨n.toNat, by omega⟩
  have HO := Lib.hid (okFF_y h1 h2)
  have HV := Lib.hid (vFF_y h1 h2)
  rw [Int.toNat_natCast] at HO HV
  have HP := Lib.hid (plB_iff.1 h1)
  have HG := Lib.hid (show plB ss = true ∧ inW (L : Int) 1 6 = true from ⟨h1, h2⟩)
  have HPF := Lib.hid (fun v w h => plFirst_any ss (plB_iff.1 h1) L v ⟨#[]⟩ w h (by show 0 + L ≤ 6; omega))
  obtain ⟨o, ho⟩ : ∃ o, o = fr ss ⟨#[]⟩ L := ⟨_, rfl⟩
  rw [← ho] at HO HV
  simp only [← ho] at HPF
  clear h1 h2 hb ho
  go_enter Try.func23, Try.ntmps23
  go_wp2_with (first | (go_at_call 47; refine (plGood_any _ _ _ HS.out).mono ?_; rintro e w1 ⟨rfl, x1⟩; rw [HG.out.1]) | (go_at_call 48; refine (plLong_any _ _).mono ?_; rintro e w' ⟨rfl, rfl⟩; rw [HG.out.2]) | (go_at_call 56; refine (HPF.out _ _ (HS.out.ext x1)).mono ?_; rintro e w2 ⟨rfl, x2⟩))
  go_ret2
  exact ⟨ret_sb HV.out.symm HO.out.symm, x1.trans x2⟩

end Go.Proofs.Ytinojlbnmnlmhab
