/- The number of a rank: the model's side. No conditions. -/
import Derived.Test.YtmpajijnpoekgacNum
namespace Go.Proofs.Ytmpajijnpoekgac
open Go.RowKit

theorem dT_one {t : ByteArray} (h : isWk t = true) (h1 : t.size = 1) : t = dT [dg1 t] := by
  obtain ⟨_, d2⟩ := dg1_of h h1
  have e : (48 + dg1 t).toUInt8 = t[0]'(by omega) := by
    rw [show 48 + dg1 t = (t[0]'(by omega)).toNat by omega]
    simp
  apply ByteArray.ext
  apply Array.ext
  · show t.data.size = 1
    exact h1
  · intro i hi1 hi2
    have hi0 : i = 0 := by have : t.data.size = 1 := h1; omega
    subst hi0
    exact e.symm

set_option maxRecDepth 100000 in
set_option maxHeartbeats 1000000 in
theorem nuS_any (s t : ByteArray) (n r : Int) (w : World) (hs : s.size ≤ maxLen) (ht : t.size ≤ maxLen) : Calls Try.prog 37 #[.string s, .string t, .int .i64 n, .int .i64 r] w fun e w' => e = .returned (.tuple #[.string (nuV s t n r), .bool (nuOk s t n r)]) ∧ Ext w w' := by
  cases h : cnOk s t n
  · have HO := Lib.hid (nuOk_c (r := r) h)
    have HV := Lib.hid (nu_no HO.out)
    go_enter Try.func37, Try.ntmps37
    go_wp2_with (go_at_call 29; refine (cnS_any _ _ _ _ hs ht).mono ?_; rintro e w1 ⟨rfl, x1⟩; rw [h])
    go_ret2
    exact ⟨ret_sBn HV.out.symm HO.out.symm, x1⟩
  by_cases hr0 : r < 0
  · have HO := Lib.hid (nuOk_l (s := s) (t := t) (n := n) hr0)
    have HV := Lib.hid (nu_no HO.out)
    go_enter Try.func37, Try.ntmps37
    go_wp2_with (go_at_call 29; refine (cnS_any _ _ _ _ hs ht).mono ?_; rintro e w1 ⟨rfl, x1⟩; rw [h])
    go_ret2
    exact ⟨ret_sBn HV.out.symm HO.out.symm, x1⟩
  by_cases hr1 : r < cnV s t n
  rotate_left
  · have HO := Lib.hid (nuOk_h hr1)
    have HV := Lib.hid (nu_no HO.out)
    have hge : r ≥ cnV s t n := by omega
    go_enter Try.func37, Try.ntmps37
    go_wp2_with (go_at_call 29; refine (cnS_any _ _ _ _ hs ht).mono ?_; rintro e w1 ⟨rfl, x1⟩; rw [h])
    go_ret2
    exact ⟨ret_sBn HV.out.symm HO.out.symm, x1⟩
  have HO := Lib.hid (nuOk_y h (by omega : 0 ≤ r) hr1)
  obtain ⟨p, m, b0, rfl, hp, hnm, hm, rfl, hwk, hz1, hd, hb0, hV⟩ := nu_parts h (by omega) hr1
  have HV := Lib.hid hV
  have HB0 := Lib.hid hb0
  have HH := Lib.hid h
  have HT1 := Lib.hid (dT_one hwk hz1)
  have ix0 : ∀ w, (Instr.index 9 (.string t) (.int .i64 0)).run Try.prog w = .ok (.int .u8 (48 + (dg1 t : Int))) w := fun w => by
    have h1 := ixS t 0 (by omega) w
    rw [(dg1_of hwk hz1).2, Int.add_comm] at h1
    exact h1
  clear hV hwk hb0 h
  obtain ⟨cv, hcv⟩ : ∃ cv, cv = cnV (pcT p) t n := ⟨_, rfl⟩
  have HCN := Lib.hid (show ∀ w, Calls Try.prog 29 #[.string (pcT p), .string t, .int .i64 n] w fun e w' => e = .returned (.tuple #[.int .i64 cv, .bool true]) ∧ Ext w w' from fun w => by rw [hcv, ← HH.out]; exact cnS_any _ _ _ _ hs ht)
  rw [← hcv] at hr1
  clear hcv
  have hnge : ¬ (b0 : Int) ≥ cv := by omega
  have W1 : IntKind.i64.wrap (n - 1) = (m : Int) := by simp only [IntKind.wrap_i64]; omega
  have W3 : IntKind.i64.wrap (m : Int) = (m : Int) := by simp only [IntKind.wrap_i64]; omega
  have C1 : n - 1 = (m : Int) := by omega
  have C2 : n - 2 = (m : Int) - 1 := by omega
  clear hnm
  have HTB := Lib.hid (fun w => wkTable_any p 0 m w hp (.inl rfl) (by omega))
  rw [show ((0 : Nat) : Int) = 0 from rfl] at HTB
  obtain ⟨d0, hd0⟩ : ∃ d0, d0 = dg1 t := ⟨_, rfl⟩
  rw [← hd0] at hd HV HB0 HT1 ix0
  clear hd0
  obtain ⟨F, hF⟩ : ∃ F, F = d0 :: nor p m d0 b0 := ⟨_, rfl⟩
  rw [← hF] at HV
  have HF := Lib.hid hF
  clear hF
  have ht0 : (0 : Int) < (t.size : Int) := by omega
  have hzi : (t.size : Int) = 1 := by omega
  go_enter Try.func37, Try.ntmps37
  go_wp2_with (go_at_call 29; refine (HCN.out _).mono ?_; rintro e w1 ⟨rfl, x1⟩)
  refine (HTB.out _).mono ?_
  rintro e w2 ⟨v, U, rfl, hg, x2⟩
  obtain ⟨ga, cap, rfl⟩ := hg.shape
  obtain ⟨g, rfl, _, _, hcell⟩ := hg.at m (by omega)
  have X2 : Ext w w2 := x1.trans x2
  have HGC := Lib.hid hcell
  have HGI := Lib.hid (fun (k : Nat) (hk : k < m + 1) (b : Nat) (hb : b < 10) (w' : World) (hx' : Ext w2 w') => ((hg.inner k hk).ext hx').at b hb)
  clear hg hcell x1 x2
  go_wp2
  clear W1 W3 C1 C2 ix0 ht0 hzi
  go_loopw [3, 13, 14, 15] (fun bq ov av lq wr => ∃ (tt a b : Nat) (pre : List Nat), tt ≤ m ∧ lq = .int .i64 ((tt : Int) - 1) ∧ bq = .int .i64 b ∧ ov = .string (dT (pre ++ [a])) ∧ av = .int .u8 (48 + (a : Int)) ∧ pre.length + tt = m ∧ a < 10 ∧ b < wyF p (eF 0) tt a ∧ (pre ++ [a]) ++ nor p tt a b = F ∧ Ext w2 wr) (fun _ _ _ q _ => (intOf q + 1).toNat)
  case atStart => exact ⟨m, d0, b0, [], Nat.le_refl _, by first | rfl | (rw [show wrap64 ((m : Int) - 1) = (m : Int) - 1 by unfold wrap64; omega]), rfl, by rw [HT1.out]; rfl, rfl, by simp, hd, HB0.out, by rw [HF.out]; rfl, by first | exact Ext.refl _ | exact ext_drewN (Ext.refl _) _⟩
  case round =>
    obtain ⟨tt, a, b, pre, htm, rfl, rfl, rfl, rfl, hlen, ha10, hb, hfull, hx⟩ := hrel
    have HFU := Lib.hid hfull
    clear hfull
    by_cases h0 : tt = 0
    · subst h0
      have HFE := Lib.hid (show dT (pre ++ [a]) = nuV (pcT p) t n (b0 : Int) by rw [HV.out, ← HFU.out]; show dT (pre ++ [a]) = dT (pre ++ [a] ++ []); rw [List.append_nil])
      go_wp2
      go_ret2
      exact ⟨ret_sBn HFE.out HO.out.symm, X2.trans (by first | exact hx | exact ext_drewN hx _)⟩
    · obtain ⟨u, rfl⟩ : ∃ u, tt = u + 1 := ⟨tt - 1, by omega⟩
      obtain ⟨ds, hds, x, hxl, hS1, hS2, hnor, hle⟩ := nor_step hb
      have hu : u < m + 1 := by omega
      have HXN := Lib.hid (fun q (hq : q ∈ nx p a) => nx_lt hq)
      have hnl := nx_len p a
      have HNX := Lib.hid (fun w => wkNext_any p a (48 + (a : Int)) w hp ha10 (by omega))
      rw [← hds] at HXN hnl HNX
      have HB1 := Lib.hid hb
      have HNOR := Lib.hid hnor
      have HLE := Lib.hid hle
      have HS1 := Lib.hid hS1
      have HS2 := Lib.hid hS2
      have hsz := dT_size ds
      have HDT := Lib.hid (fun (j : Nat) (hj : j < ds.length) (w : World) => ixDT ds j hj (HXN.out _ (List.getElem_mem hj)) w)
      obtain ⟨D, hD⟩ : ∃ D, D = dT ds := ⟨_, rfl⟩
      rw [← hD] at hsz HDT HNX
      have hDi : (D.size : Int) = (ds.length : Int) := by rw [hsz]
      have hoz : (dT (pre ++ [a])).size ≤ 41 := by rw [dT_size]; simp; omega
      obtain ⟨O, hO⟩ : ∃ O, O = dT (pre ++ [a]) := ⟨_, rfl⟩
      rw [← hO] at hoz ⊢
      have HOO := Lib.hid hO
      clear hnor hle hS1 hS2 hds hb hsz hD hO
      obtain ⟨z, hz⟩ : ∃ z : Int, z = ((u + 1 : Nat) : Int) - 1 := ⟨_, rfl⟩
      have hzu : z = (u : Int) := by omega
      rw [← hz]
      clear hz
      subst hzu
      have hge : (u : Int) ≥ 0 := by omega
      obtain ⟨wo, rfl⟩ : ∃ wo, wo = wr := ⟨_, rfl⟩
      go_wp2_with (go_at_call 47; refine (HNX.out _).mono ?_; rintro e w1 ⟨rfl, rfl⟩)
      clear hge
      go_loopw [3, 14, 17] (fun bq av q wz => ∃ j : Nat, j ≤ x ∧ av = .int .u8 (48 + (a : Int)) ∧ q = .int .i64 j ∧ bq = .int .i64 ((b - sumL (wyF p (eF 0) u) (ds.take j) : Nat) : Int) ∧ Ext wo wz) (fun _ _ q _ => ds.length - (intOf q).toNat)
      case atStart => exact ⟨0, Nat.zero_le _, rfl, rfl, rfl, by first | exact Ext.refl _ | exact ext_drewN (Ext.refl _) _⟩
      case round =>
        obtain ⟨j, hj, rfl, rfl, rfl, hx2⟩ := hrel
        have hjl : j < ds.length := by omega
        have hji : (j : Int) < (ds.length : Int) := by omega
        have ixj := HDT.out j hjl
        have hq10 := HXN.out ds[j] (List.getElem_mem hjl)
        have cU := HGC.out wr (hx.trans hx2) u (by omega)
        have cW := HGI.out u hu ds[j] hq10 wr (hx.trans hx2)
        by_cases hlt3 : j < x
        · have hle := HLE.out j hlt3
          have hsu := sumL_take (wyF p (eF 0) u) ds j hjl
          obtain ⟨d, hd⟩ : ∃ d, d = ds[j] := ⟨_, rfl⟩
          rw [← hd] at ixj hq10 hsu cW hle
          obtain ⟨V, hV⟩ : ∃ V, V = wyF p (eF 0) u d := ⟨_, rfl⟩
          rw [← hV] at hsu cW hle
          obtain ⟨bb, hbb⟩ : ∃ bb, bb = b - sumL (wyF p (eF 0) u) (ds.take j) := ⟨_, rfl⟩
          have HSS := Lib.hid (show ((b - sumL (wyF p (eF 0) u) (ds.take (j + 1)) : Nat) : Int) = (bb : Int) - (V : Int) by rw [hsu, hbb]; omega)
          have hnl : ¬ (bb : Int) < (V : Int) := by omega
          have hbbM : bb ≤ 1000000000000001 := by have := wyF_le p (eF 0) (eF_le 0) (u + 1) a; unfold most1 at this; have := HB1.out; omega
          have hadd : IntKind.i64.wrap ((bb : Int) - (V : Int)) = (bb : Int) - (V : Int) := by simp only [IntKind.wrap_i64]; omega
          rw [← hbb]
          have hdi : (d : Int) < 10 := by omega
          have hmi : (u : Int) < (m : Int) + 1 := by omega
          have hu0 : (0 : Int) ≤ (u : Int) := by omega
          have Wd : IntKind.u8.wrap (48 + (d : Int) - 48) = (d : Int) := by rw [IntWalk.u8_in _ (by omega)]; omega
          have Wd2 : IntKind.u8.wrap (d : Int) = (d : Int) := IntWalk.u8_in _ (by omega)
          have Cd : 48 + (d : Int) - 48 = (d : Int) := by omega
          clear hd hV hbb hsu hle hbbM
          go_wp2
          go_quiet (fail)
          go_wp2
          go_roundw
          case rel => exact ⟨j + 1, by omega, rfl, by go_num, by rw [HSS.out], by first | exact hx2 | exact ext_drewN hx2 _⟩
          case measure => simp [intOf] <;> omega
        · obtain rfl : j = x := by omega
          have hs2 := HS2.out
          obtain ⟨d, hd⟩ : ∃ d, d = ds[j] := ⟨_, rfl⟩
          have HNR := Lib.hid (show (pre ++ [a] ++ [d]) ++ nor p u d (b - sumL (wyF p (eF 0) u) (ds.take j)) = F by rw [hd, ← HFU.out, HNOR.out]; simp)
          rw [← hd] at ixj hq10 cW hs2
          obtain ⟨bb, hbb⟩ : ∃ bb, bb = b - sumL (wyF p (eF 0) u) (ds.take j) := ⟨_, rfl⟩
          rw [← hbb] at hs2 HNR ⊢
          have HS9 := Lib.hid hs2
          obtain ⟨V, hV⟩ : ∃ V, V = wyF p (eF 0) u d := ⟨_, rfl⟩
          rw [← hV] at hs2 cW
          have hbl : (bb : Int) < (V : Int) := by omega
          have hdi : (d : Int) < 10 := by omega
          have hmi : (u : Int) < (m : Int) + 1 := by omega
          have hu0 : (0 : Int) ≤ (u : Int) := by omega
          have Wd : IntKind.u8.wrap (48 + (d : Int) - 48) = (d : Int) := by rw [IntWalk.u8_in _ (by omega)]; omega
          have Wd2 : IntKind.u8.wrap (d : Int) = (d : Int) := IntWalk.u8_in _ (by omega)
          have Cd : 48 + (d : Int) - 48 = (d : Int) := by omega
          have HSN := Lib.hid (show dT (pre ++ [a] ++ [d]) = O ++ ⟨#[(48 + d).toUInt8]⟩ by rw [dT_snoc, HOO.out])
          have HE : Utf8.encode (48 + (d : Int)) = ⟨#[(48 + d).toUInt8]⟩ := by
            have := encD (48 + d) (by omega)
            rw [← this]
            congr 1
          obtain ⟨c, hc⟩ : ∃ c, c = (48 + d).toUInt8 := ⟨_, rfl⟩
          rw [← hc] at HSN HE
          clear hc
          have Wc : IntKind.i32.wrap (48 + (d : Int)) = 48 + (d : Int) := by simp only [IntKind.wrap_i32]; omega
          clear hd hV hbb hs2
          go_wp2
          go_quiet (fail)
          go_wp2
          go_roundw
          case rel => exact ⟨u, d, bb, pre ++ [a], by omega, by go_num, rfl, by rw [HSN.out], rfl, by simp; omega, hq10, HS9.out, HNR.out, by first | exact hx.trans hx2 | exact ext_drewN (hx.trans hx2) _⟩
          case measure => simp [intOf] <;> omega
end Go.Proofs.Ytmpajijnpoekgac
