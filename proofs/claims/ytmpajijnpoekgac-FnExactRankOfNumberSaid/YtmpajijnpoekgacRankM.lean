/- The rank of a number: the model's side. No conditions. -/
import Derived.Test.YtmpajijnpoekgacRank
namespace Go.Proofs.Ytmpajijnpoekgac
open Go.RowKit

theorem wg_all {p : Nat} {s : ByteArray} {m : Nat} (h : wg p s m = true) (k : Nat) (hk : k + 1 < m) : goB p (dgt s k) (dgt s (k + 1)) = true := by
  cases hg : goB p (dgt s k) (dgt s (k + 1))
  · have := wg_no (wg_bad hg) m (by omega)
    rw [h] at this
    cases this
  · rfl
theorem nx_place {p a e : Nat} (he : e < 10) (h : goB p a e = true) : ∃ ds : List Nat, ds = nx p a ∧ ∃ x, ∃ hx : x < ds.length, ds[x] = e ∧ (∀ j (hj : j < x), ds[j]'(by omega) ≠ e) ∧ ds.filter (fun o => decide (o < e)) = ds.take x := by
  refine ⟨nx p a, rfl, ?_⟩
  obtain ⟨x, hx, he2⟩ := List.mem_iff_getElem.1 (goB_mem he h)
  refine ⟨x, hx, he2, fun j hj => ?_, ?_⟩
  · have := List.pairwise_iff_getElem.1 (nx_sorted p a) j x (by omega) hx hj
    omega
  · rw [← he2]
    exact sorted_take (nx_sorted p a) x hx

set_option maxRecDepth 100000 in
set_option maxHeartbeats 1000000 in
theorem roS_any (s t : ByteArray) (w : World) (hs : s.size ≤ maxLen) (ht : t.size ≤ maxLen) : Calls Try.prog 35 #[.string s, .string t] w fun e w' => e = .returned (.tuple #[.int .i64 (roV s t), .bool (roOk s t)]) ∧ Ext w w' := by
  cases h : isP s
  · have HO := Lib.hid (roOk_p (t := t) h)
    have HV := Lib.hid (ro_no HO.out)
    go_enter Try.func35, Try.ntmps35
    go_wp2_with (go_at_call 62; refine (wkPiece_any _ _).mono ?_; rintro e w1 ⟨rfl, rfl⟩; rw [h])
    go_ret2
    exact ⟨ret_IB HV.out.symm HO.out.symm, Ext.refl _⟩
  obtain ⟨p, hp, rfl⟩ := isP_yes h
  cases h2 : isWlk p t
  · have HO := Lib.hid (roOk_w hp h2)
    have HV := Lib.hid (ro_no HO.out)
    go_enter Try.func35, Try.ntmps35
    go_wp2_with (first | (go_at_call 62; refine (wkPiece_any _ _).mono ?_; rintro e w1 ⟨rfl, rfl⟩; rw [h]) | (go_at_call 63; refine (wkWalk_any p t _ hp ht).mono ?_; rintro e w1 ⟨rfl, x1⟩; rw [h2]))
    go_ret2
    exact ⟨ret_IB HV.out.symm HO.out.symm, x1⟩
  have HOY := Lib.hid (roOk_y hp h2)
  have HVN := Lib.hid (ro_no (s := pcT p) (t := t))
  have HVY := Lib.hid (fun h => ro_yes (t := t) h hp)
  obtain ⟨hwk, hwg⟩ := isWlk_parts h2
  obtain ⟨hz1, hz2⟩ := isWk_size hwk
  obtain ⟨n, hn⟩ : ∃ n, t.size = n + 1 := ⟨t.size - 1, by omega⟩
  have HD10 := Lib.hid (fun (k : Nat) (hk : k < n + 1) => (dgt_of hwk (show k < t.size by omega)).1)
  have HIX := Lib.hid (fun (k : Nat) (hk : k < n + 1) (w : World) => show (Instr.index 9 (.string t) (.int .i64 (k : Int))).run Try.prog w = .ok (.int .u8 ((dgt t k : Int) + 48)) w by rw [← (dgt_of hwk (show k < t.size by omega)).2]; exact ixS t k (by omega) w)
  have HGO := Lib.hid (fun (k : Nat) (hk : k < n) => wg_all hwg k (by omega))
  have HH := Lib.hid h
  have H2 := Lib.hid h2
  rw [show t.size - 1 = n by omega] at HOY HVY
  rw [hn] at HVY
  have hti : (t.size : Int) = (n : Int) + 1 := by omega
  clear h h2 hwg hwk
  have Wn : IntKind.i64.wrap ((n : Int) + 1 - 1) = (n : Int) := by simp only [IntKind.wrap_i64]; omega
  have Wn2 : wrap64 ((n : Int) + 1 - 1) = (n : Int) := by unfold wrap64; omega
  have Cn : (n : Int) + 1 - 1 = (n : Int) := by omega
  have HTB := Lib.hid (fun w => wkTable_any p 0 n w hp (.inl rfl) (by omega))
  rw [show ((0 : Nat) : Int) = 0 from rfl] at HTB
  go_enter Try.func35, Try.ntmps35
  go_wp2_with (first | (go_at_call 62; refine (wkPiece_any _ _).mono ?_; rintro e w1 ⟨rfl, rfl⟩; rw [HH.out]) | (go_at_call 63; refine (wkWalk_any p t _ hp ht).mono ?_; rintro e w1 ⟨rfl, x1⟩; rw [H2.out]))
  refine (HTB.out _).mono ?_
  rintro e w2 ⟨v, U, rfl, hg, x2⟩
  obtain ⟨ga, cap, rfl⟩ := hg.shape
  obtain ⟨g, rfl, _, _, hcell⟩ := hg.at n (by omega)
  have X2 : Ext w w2 := x1.trans x2
  have HGC := Lib.hid hcell
  have HGI := Lib.hid (fun (m : Nat) (hm : m < n + 1) (b : Nat) (hb : b < 10) (w' : World) (hx' : Ext w2 w') => ((hg.inner m hm).ext hx').at b hb)
  clear hg hcell x1 x2
  have hd0 := HD10.out 0 (by omega)
  have c1 := HGC.out w2 (Ext.refl _) n (by omega)
  have c2 := HGI.out n (by omega) (dgt t 0) hd0 w2 (Ext.refl _)
  have ix0 := HIX.out 0 (by omega)
  rw [show ((0 : Nat) : Int) = 0 from rfl] at ix0
  obtain ⟨d0, hd⟩ : ∃ d, d = dgt t 0 := ⟨_, rfl⟩
  rw [← hd] at hd0 ix0 c2 HOY
  obtain ⟨c, hc⟩ : ∃ c, c = wyF p (eF 0) n d0 := ⟨_, rfl⟩
  rw [← hc] at c2 HOY
  clear hd hc
  have Wd : IntKind.u8.wrap ((d0 : Int) + 48 - 48) = (d0 : Int) := by rw [IntWalk.u8_in _ (by omega)]; omega
  have Wd2 : IntKind.u8.wrap (d0 : Int) = (d0 : Int) := IntWalk.u8_in _ (by omega)
  have hd0i : (d0 : Int) < 10 := by omega
  have hnn : (n : Int) < (n : Int) + 1 := by omega
  have hn0 : (0 : Int) < (n : Int) + 1 := by omega
  have hu0 : (0 : Int) ≤ (d0 : Int) := by omega
  by_cases hcm : c ≤ mxN
  · have HTL := Lib.hid (tell_yes hcm)
    have hci : ¬ (1000000000000000 : Int) < (c : Int) := by unfold mxN at hcm; omega
    clear hcm
    go_wp2
    go_quiet (fail)
    go_wp2
    clear hnn hn0 hci hd0i hd0 hu0 Wd Wd2 c1 c2 ix0 Cn
    obtain ⟨R, hR⟩ : ∃ R : Nat → Nat, R = rk p t (n + 1) := ⟨_, rfl⟩
    have HR := Lib.hid hR
    clear hR
    go_loopw [7, 8] (fun r q wr => ∃ k : Nat, k ≤ n ∧ q = .int .i64 ((k : Int) + 1) ∧ r = .int .i64 (R k : Nat) ∧ Ext w2 wr) (fun _ q _ => n + 1 - (intOf q).toNat)
    case atStart => exact ⟨0, Nat.zero_le _, rfl, by rw [HR.out]; rfl, by first | exact Ext.refl _ | exact ext_drewN (Ext.refl _) _⟩
    case round =>
      obtain ⟨k, hk, rfl, rfl, hx⟩ := hrel
      by_cases hlt : k < n
      · have hki : (k : Int) + 1 < (n : Int) + 1 := by omega
        obtain ⟨wo, rfl⟩ : ∃ wo, wo = wr := ⟨_, rfl⟩
        obtain ⟨m, hm⟩ : ∃ m, m = n - (k + 1) := ⟨_, rfl⟩
        obtain ⟨a, ha⟩ : ∃ a, a = dgt t k := ⟨_, rfl⟩
        obtain ⟨e, he⟩ : ∃ e, e = dgt t (k + 1) := ⟨_, rfl⟩
        have hdk := HD10.out k (by omega)
        have hde := HD10.out (k + 1) (by omega)
        have ixk := HIX.out k (by omega)
        have ixe := HIX.out (k + 1) (by omega)
        rw [show ((k + 1 : Nat) : Int) = (k : Int) + 1 from rfl] at ixe
        have hgo := HGO.out k hlt
        have HRS := Lib.hid (show R (k + 1) = R k + sumL (wyF p (eF 0) m) ((nx p (dgt t k)).filter fun o => decide (o < dgt t (k + 1))) by rw [HR.out, hm, show n - (k + 1) = n + 1 - 1 - (k + 1) by omega]; rfl)
        rw [← ha] at hdk ixk hgo HRS
        rw [← he] at hde ixe hgo HRS
        clear ha he
        have hmk : m + (k + 1) = n := by omega
        clear hm
        have HRB := Lib.hid (show R k ≤ k * 10000000000000010 by rw [HR.out]; exact rk_bd p t (n + 1) k)
        have HNX := Lib.hid (fun w => wkNext_any p a ((a : Int) + 48) w hp hdk rfl)
        have HXN := Lib.hid (fun q (hq : q ∈ nx p a) => nx_lt hq)
        have hnl := nx_len p a
        obtain ⟨ds, hds, x, hxl, hxe, hxn, hxf⟩ := nx_place hde hgo
        rw [← hds] at HXN hnl HNX HRS
        rw [hxf] at HRS
        have HXE := Lib.hid hxe
        have HXF := Lib.hid hxn
        clear hxe hxn hxf hds hgo
        have hsz := dT_size ds
        have HDT := Lib.hid (fun (j : Nat) (hj : j < ds.length) (w : World) => ixDT ds j hj (HXN.out _ (List.getElem_mem hj)) w)
        obtain ⟨D, hD⟩ : ∃ D, D = dT ds := ⟨_, rfl⟩
        rw [← hD] at hsz HDT HNX
        clear hD
        have Wk : wrap64 ((k : Int) + 1 - 1) = (k : Int) := by unfold wrap64; omega
        have Wk2 : IntKind.i64.wrap ((k : Int) + 1 - 1) = (k : Int) := by simp only [IntKind.wrap_i64]; omega
        have Ck : (k : Int) + 1 - 1 = (k : Int) := by omega
        have hkn1 : (k : Int) < (n : Int) + 1 := by omega
        have hDi : (D.size : Int) = (ds.length : Int) := by rw [hsz]
        clear hsz
        go_wp2_with (go_at_call 47; refine (HNX.out _).mono ?_; rintro e w1 ⟨rfl, rfl⟩)
        clear Wk Wk2 Ck ixk hkn1
        go_loopw [7, 10] (fun r q wz => ∃ j : Nat, j ≤ x ∧ q = .int .i64 j ∧ r = .int .i64 ((R k + sumL (wyF p (eF 0) m) (ds.take j) : Nat) : Int) ∧ Ext wo wz) (fun _ q _ => ds.length - (intOf q).toNat)
        case atStart => exact ⟨0, Nat.zero_le _, rfl, rfl, by first | exact Ext.refl _ | exact ext_drewN (Ext.refl _) _⟩
        case round =>
          obtain ⟨j, hj, rfl, rfl, hx2⟩ := hrel
          have hjl : j < ds.length := by omega
          have hji : (j : Int) < (ds.length : Int) := by omega
          have ixj := HDT.out j hjl
          have hq10 := HXN.out ds[j] (List.getElem_mem hjl)
          by_cases hlt3 : j < x
          · have hne := HXF.out j hlt3
            have HSU := Lib.hid (sumL_take (wyF p (eF 0) m) ds j hjl)
            have cU := HGC.out wr (hx.trans hx2) m (by omega)
            have cW := HGI.out m (by omega) ds[j] hq10 wr (hx.trans hx2)
            have hSB := sum_bd p m (ds.take j) (by rw [List.length_take]; omega)
            have hWB := wyF_le p (eF 0) (eF_le 0) m ds[j]
            have hWB1 : wyF p (eF 0) m ds[j] ≤ 1000000000000001 := hWB
            obtain ⟨d, hd⟩ : ∃ d, d = ds[j] := ⟨_, rfl⟩
            rw [← hd] at ixj hq10 HSU hWB1 cW hne
            obtain ⟨S0, hS0⟩ : ∃ S0, S0 = sumL (wyF p (eF 0) m) (ds.take j) := ⟨_, rfl⟩
            rw [← hS0] at HSU hSB ⊢
            obtain ⟨V, hV⟩ : ∃ V, V = wyF p (eF 0) m d := ⟨_, rfl⟩
            rw [← hV] at HSU hWB1 cW
            have hadd := rk_add HRB.out hSB hWB1 (by omega : k ≤ 40)
            obtain ⟨S, hS⟩ : ∃ S, S = R k + S0 := ⟨_, rfl⟩
            have HSS := Lib.hid (show R k + sumL (wyF p (eF 0) m) (ds.take (j + 1)) = S + V by rw [HSU.out, hS]; omega)
            rw [← hS] at hadd ⊢
            have hdi : (d : Int) < 10 := by omega
            have hne1 : ((48 + (d : Int)) == ((e : Int) + 48)) = false := by rw [beq_eq_false_iff_ne]; omega
            have hne2 : ((48 + (d : Int)) != ((e : Int) + 48)) = true := by rw [bne_iff_ne]; omega
            have hne3 : ¬ (48 + (d : Int)) = ((e : Int) + 48) := by omega
            have hmi : (m : Int) < (n : Int) + 1 := by omega
            have Wm : IntKind.i64.wrap ((n : Int) - ((k : Int) + 1)) = (m : Int) := by simp only [IntKind.wrap_i64]; omega
            have Wm2 : wrap64 ((n : Int) - ((k : Int) + 1)) = (m : Int) := by unfold wrap64; omega
            have Cm : (n : Int) - ((k : Int) + 1) = (m : Int) := by omega
            have Cn : (n : Int) + 1 - 1 = (n : Int) := by omega
            have Wd : IntKind.u8.wrap (48 + (d : Int) - 48) = (d : Int) := by rw [IntWalk.u8_in _ (by omega)]; omega
            have Wd2 : IntKind.u8.wrap (d : Int) = (d : Int) := IntWalk.u8_in _ (by omega)
            have Cd : 48 + (d : Int) - 48 = (d : Int) := by omega
            clear hd hS hV hS0 hSB hWB hWB1 HSU
            go_wp2
            go_quiet (fail)
            go_wp2
            go_quiet (fail)
            go_wp2
            go_roundw
            case rel => exact ⟨j + 1, by omega, by go_num, by rw [HSS.out]; go_num, by first | exact hx2 | exact ext_drewN hx2 _⟩
            case measure => simp [intOf] <;> omega
          · obtain rfl : j = x := by omega
            have hxe := HXE.out
            obtain ⟨d, hd⟩ : ∃ d, d = ds[j] := ⟨_, rfl⟩
            rw [← hd] at ixj hxe
            have hne1 : ((48 + (d : Int)) == ((e : Int) + 48)) = true := by rw [beq_iff_eq]; omega
            have hne2 : ((48 + (d : Int)) != ((e : Int) + 48)) = false := by rw [bne_eq_false_iff_eq]; omega
            have hne3 : (48 + (d : Int)) = ((e : Int) + 48) := by omega
            have Wk3 : IntKind.i64.wrap ((k : Int) + 1 + 1) = (k : Int) + 1 + 1 := by simp only [IntKind.wrap_i64]; omega
            clear hd hxe hne3
            go_wp2
            go_quiet (fail)
            go_wp2
            go_roundw
            case rel => exact ⟨k + 1, by omega, by go_num, by rw [HRS.out], hx.trans (by first | exact hx2 | exact ext_drewN hx2 _)⟩
            case measure => simp [intOf] <;> omega
      · obtain rfl : k = n := by omega
        go_wp2
        go_ret2
        exact ⟨ret_IB (by rw [HVY.out (by rw [HOY.out, HTL.out.2]), HR.out]) (by rw [HOY.out, HTL.out.2]), X2.trans (by first | exact hx | exact ext_drewN hx _)⟩
  · have HTL := Lib.hid (tell_no hcm)
    have hci : (1000000000000000 : Int) < (c : Int) := by unfold mxN at hcm; omega
    have HO := Lib.hid (show roOk (pcT p) t = false by rw [HOY.out, HTL.out.2])
    clear hcm
    go_wp2
    go_quiet (fail)
    go_wp2
    go_ret2
    exact ⟨ret_IB (HVN.out HO.out).symm HO.out.symm, by first | exact X2 | exact X2.trans (ext_drewN (Ext.refl _) _)⟩
end Go.Proofs.Ytmpajijnpoekgac
