/- The rank of a number: both sides. No conditions. -/
import Derived.Test.YtmpajijnpoekgacCntN
import Derived.Deep.RegionHeld3
namespace Go.Proofs.Ytmpajijnpoekgac
open Go.RowKit

theorem nx_sorted (p i : Nat) : (nx p i).Pairwise (· < ·) := by
  unfold nx nxK
  exact List.Pairwise.filter _ List.pairwise_lt_range
theorem sorted_take {l : List Nat} (h : l.Pairwise (· < ·)) (k : Nat) (hk : k < l.length) : l.filter (fun o => decide (o < l[k])) = l.take k := by
  have e : l = l.take k ++ l[k] :: l.drop (k + 1) := by
    rw [List.getElem_cons_drop, List.take_append_drop]
  obtain ⟨d, hd⟩ : ∃ d, d = l[k] := ⟨_, rfl⟩
  rw [← hd] at e ⊢
  have h1 : ∀ a ∈ l.take k, a < d := by
    rw [e] at h
    have := List.pairwise_append.1 h
    intro a ha
    exact this.2.2 a ha d (by simp)
  have h2 : ∀ a ∈ l.drop (k + 1), d < a := by
    rw [e] at h
    have := (List.pairwise_append.1 h).2.1
    exact (List.pairwise_cons.1 this).1
  conv => lhs; rw [e]
  rw [List.filter_append, List.filter_eq_self.2 (fun a ha => decide_eq_true (h1 a ha)), List.filter_cons_of_neg (by simp), List.filter_eq_nil_iff.2 (fun a ha => by have := h2 a ha; simp; omega), List.append_nil]
theorem goB_mem {p i j : Nat} (hj : j < 10) (h : goB p i j = true) : j ∈ nx p i := by
  unfold nx nxK
  exact List.mem_filter.2 ⟨List.mem_range.2 hj, h⟩
/-- How many come before, by the first so many steps. -/
def rk (p : Nat) (t : ByteArray) (n : Nat) : Nat → Nat
  | 0 => 0
  | k + 1 => rk p t n k + sumL (wyF p (eF 0) (n - 1 - (k + 1))) ((nx p (dgt t k)).filter fun o => decide (o < dgt t (k + 1)))
theorem sum_bd (p m : Nat) (l : List Nat) (h : l.length ≤ 10) : sumL (wyF p (eF 0) m) l ≤ 10000000000000010 := by
  have h1 := sumL_le (wyF p (eF 0) m) most1 (wyF_le p (eF 0) (eF_le 0) m) l
  have h3 : l.length * most1 ≤ 10 * most1 := Nat.mul_le_mul_right _ h
  have h4 : 10 * most1 = 10000000000000010 := rfl
  omega
theorem rk_bd (p : Nat) (t : ByteArray) (n : Nat) : ∀ k, rk p t n k ≤ k * 10000000000000010
  | 0 => Nat.zero_le _
  | k + 1 => by
    have h1 := rk_bd p t n k
    have h2 := sum_bd p (n - 1 - (k + 1)) ((nx p (dgt t k)).filter fun o => decide (o < dgt t (k + 1))) (Nat.le_trans (List.length_filter_le _ _) (nx_len p _))
    show rk p t n k + _ ≤ _
    rw [Nat.succ_mul]
    omega
theorem sumF_yes (f : Nat → Nat) (g : Nat → Bool) (l : List Nat) (k : Nat) (h : k < l.length) (hg : g l[k] = true) : sumL f ((l.take (k + 1)).filter g) = sumL f ((l.take k).filter g) + f l[k] := by
  unfold sumL
  rw [List.take_succ_eq_append_getElem h, List.filter_append, List.map_append, List.sum_append, List.filter_cons_of_pos hg]
  simp
theorem sumF_no (f : Nat → Nat) (g : Nat → Bool) (l : List Nat) (k : Nat) (h : k < l.length) (hg : g l[k] = false) : sumL f ((l.take (k + 1)).filter g) = sumL f ((l.take k).filter g) := by
  rw [List.take_succ_eq_append_getElem h, List.filter_append, List.filter_cons_of_neg (by rw [hg]; simp), List.filter_nil, List.append_nil]
theorem rk_add {A B V k : Nat} (h1 : A ≤ k * 10000000000000010) (h2 : B ≤ 10000000000000010) (h3 : V ≤ 1000000000000001) (hk : k ≤ 40) : IntKind.i64.wrap (((A + B : Nat) : Int) + (V : Int)) = ((A + B : Nat) : Int) + (V : Int) := by
  have h4 : k * 10000000000000010 ≤ 40 * 10000000000000010 := Nat.mul_le_mul_right _ hk
  simp only [IntKind.wrap_i64]
  omega
def roG (s t : ByteArray) : Bool := isP s && isWlk (pcI s) t
def roC (s t : ByteArray) : Nat := wyF (pcI s) (eF 0) (t.size - 1) (dgt t 0)
def roOk (s t : ByteArray) : Bool := roG s t && tellOk (roC s t)
def roV (s t : ByteArray) : Int := if roOk s t then (rk (pcI s) t t.size (t.size - 1) : Nat) else 0
theorem ro_no {s t : ByteArray} (h : roOk s t = false) : roV s t = 0 := by unfold roV; rw [h]; rfl
theorem ro_yes {p : Nat} {t : ByteArray} (h : roOk (pcT p) t = true) (hp : p < 4) : roV (pcT p) t = (rk p t t.size (t.size - 1) : Nat) := by unfold roV; rw [h, pcI_T hp]; rfl
theorem roOk_p {s t : ByteArray} (h : isP s = false) : roOk s t = false := by unfold roOk roG; rw [h]; rfl
theorem roOk_w {p : Nat} {t : ByteArray} (hp : p < 4) (h : isWlk p t = false) : roOk (pcT p) t = false := by unfold roOk roG; rw [pcI_T hp, h]; simp
theorem roOk_y {p : Nat} {t : ByteArray} (hp : p < 4) (h : isWlk p t = true) : roOk (pcT p) t = tellOk (wyF p (eF 0) (t.size - 1) (dgt t 0)) := by unfold roOk roG roC; rw [pcI_T hp, h, isP_pc p hp]; rfl

theorem newMv (w0 w1 : World) (vs : List Value) (hv : vs.length = 10) (hone : ∀ v ∈ vs, v.oneCell' = true) (VA : Array Value) (hVA : VA = vs.toArray) (hx : Ext w0 w1) : ∃ W, (storeCells ⟨w1.heap.size, 0, none⟩ VA.toList).run Try.prog (w1.alloc (.cells #[.slice none 0 0, .slice none 0 0, .slice none 0 0, .slice none 0 0, .slice none 0 0, .slice none 0 0, .slice none 0 0, .slice none 0 0, .slice none 0 0, .slice none 0 0] 49)) = .ok () W ∧ W.heap[w1.heap.size]? = some (.cells VA 49) ∧ Ext w0 W ∧ Ext w1 W := by
  have h0 : (w1.alloc (.cells #[.slice none 0 0, .slice none 0 0, .slice none 0 0, .slice none 0 0, .slice none 0 0, .slice none 0 0, .slice none 0 0, .slice none 0 0, .slice none 0 0, .slice none 0 0] 49)).heap[w1.heap.size]? = some (.cells (List.replicate 10 nil1).toArray 49) := by rw [nil10]; exact heap_alloc_new w1 _
  obtain ⟨W, h1, h2, h3, _⟩ := mv_store _ w1.heap.size _ vs (by simp) h0 hv hone (w := w1) ((Ext.refl w1).alloc _) (Nat.le_refl _)
  exact ⟨W, by rw [hVA, List.toList_toArray]; exact h1, by rw [hVA]; exact h2, hx.trans h3, h3⟩
theorem MvR.one {B : Nat} {w : World} {vs : List Value} {p : Nat} (h : MvR B w vs p) : ∀ v ∈ vs, v.oneCell' = true := by
  intro v hv
  obtain ⟨j, hj, rfl⟩ := List.mem_iff_getElem.1 hv
  have hj10 : j < 10 := by rw [← h.1]; exact hj
  have h9 := (h.2 j hj10).oneCell
  rw [List.getD_eq_getElem?_getD, List.getElem?_eq_getElem hj] at h9
  exact h9

set_option maxRecDepth 100000 in
set_option maxHeartbeats 1000000 in
theorem roI_any (s t : ByteArray) (w : World) (hs : s.size ≤ maxLen) (ht : t.size ≤ maxLen) : Calls Try.prog 36 #[.string s, .string t] w fun e w' => e = .returned (.tuple #[.int .i64 (roV s t), .bool (roOk s t)]) ∧ Ext w w' := by
  cases h : isP s
  · have HO := Lib.hid (roOk_p (t := t) h)
    have HV := Lib.hid (ro_no HO.out)
    go_enter Try.func36, Try.ntmps36
    go_wp2_with (go_at_call 65; refine (isPiece_any _ _ hs).mono ?_; rintro e w1 ⟨rfl, rfl⟩; rw [h])
    go_ret2
    exact ⟨ret_IB HV.out.symm HO.out.symm, Ext.refl _⟩
  obtain ⟨p, hp, rfl⟩ := isP_yes h
  cases h2 : isWlk p t
  · have HO := Lib.hid (roOk_w hp h2)
    have HV := Lib.hid (ro_no HO.out)
    go_enter Try.func36, Try.ntmps36
    go_wp2_with (first | (go_at_call 65; refine (isPiece_any _ _ hs).mono ?_; rintro e w1 ⟨rfl, rfl⟩; rw [h]) | (go_at_call 66; refine (isWalkOf_any p t _ hp ht).mono ?_; rintro e w1 ⟨rfl, x1⟩; rw [h2]))
    go_ret2
    exact ⟨ret_IB HV.out.symm HO.out.symm, x1⟩
  have HOY := Lib.hid (roOk_y hp h2)
  have HVN := Lib.hid (ro_no (s := pcT p) (t := t))
  have HVY := Lib.hid (fun h => ro_yes (t := t) h hp)
  obtain ⟨hwk, hwg⟩ := isWlk_parts h2
  obtain ⟨hz1, hz2⟩ := isWk_size hwk
  obtain ⟨n, hn⟩ : ∃ n, t.size = n + 1 := ⟨t.size - 1, by omega⟩
  have HWK := Lib.hid hwk
  have HLN := Lib.hid (dgs_len t)
  have HH := Lib.hid h
  have H2 := Lib.hid h2
  clear h h2 hwg
  go_enter Try.func36, Try.ntmps36
  go_wp2_with (first | (go_at_call 65; refine (isPiece_any _ _ hs).mono ?_; rintro e w1 ⟨rfl, rfl⟩; rw [HH.out]) | (go_at_call 66; refine (isWalkOf_any p t _ hp ht).mono ?_; rintro e w1 ⟨rfl, x1⟩; rw [H2.out]))
  refine (movesOf_any p _ hp).mono ?_
  rintro e w2 ⟨vs, rfl, hvs, x2⟩
  obtain ⟨VA, hVA⟩ : ∃ VA, VA = vs.toArray := ⟨_, rfl⟩
  rw [← hVA]
  obtain ⟨W3, st3, G3, X3, Y3⟩ := newMv w w2 vs hvs.1 hvs.one VA hVA (x1.trans x2)
  have hVAs : VA.size = 10 := by rw [hVA, List.size_toArray, hvs.1]
  have HMV := Lib.hid (hvs.ext Y3)
  have HNV := Lib.hid (show (Try.prog.info? 49).map (·.size) = some VA.size by rw [hVAs]; kernel_rfl)
  have HVA := Lib.hid hVA
  clear hvs hVA
  go_wp2_with fail
  refine (digitsOf_any t _ HWK.out).mono ?_
  rintro e w4 ⟨vd, rfl, hvd, x4⟩
  obtain ⟨C, hC⟩ : ∃ C, C = w2.heap.size := ⟨_, rfl⟩
  rw [← hC] at G3 ⊢
  have G4 := Lib.hid ((x4.block C (heapLt G3)).trans G3)
  obtain ⟨ad, cd, rfl⟩ := hvd.shape
  rw [HLN.out]
  have HVD := Lib.hid hvd
  clear hvd st3 hC hVAs G3
  have hu44 := Try.underlying49
  have hi44 : (Try.prog.info? 49).map (·.size) = some vs.length := by rw [HMV.out.1]; kernel_rfl
  have HM4 := Lib.hid (HMV.out.ext x4)
  have HRG := Lib.hid (fun (w' : World) (hx' : Ext w4 w') => show w'.rangeAt C 0 vs ∧ Ext w4 w' from ⟨fun j v hv => by
    have hg := (hx'.block C (heapLt G4.out)).trans G4.out
    rw [cell_of_row w' C _ _ _ _ hg, Nat.zero_add, HVA.out, List.getElem?_toArray]
    exact hv, hx'⟩)
  have Wn : IntKind.i64.wrap ((t.size : Int) - 1) = (n : Int) := by simp only [IntKind.wrap_i64]; omega
  have Wn2 : (t.size : Int) - 1 = (n : Int) := by omega
  have Wn3 : IntKind.i64.wrap ((n : Int) + 1 - 1) = (n : Int) := by simp only [IntKind.wrap_i64]; omega
  have Wn4 : IntKind.i64.wrap (((n + 1 : Nat) : Int) - 1) = (n : Int) := by simp only [IntKind.wrap_i64]; omega
  have Wn5 : IntKind.i64.wrap (n : Int) = (n : Int) := by simp only [IntKind.wrap_i64]; omega
  have Cn : (n : Int) + 1 - 1 = (n : Int) := by omega
  have HAE := Lib.hid (fun w => anyEnd_any w)
  have HWY := Lib.hid (fun (w : World) (hx : Ext w4 w) => waysOn_any p (eF 0) vs _ n w (HM4.out.ext hx) (eF_le 0) (by omega))
  obtain ⟨EA, hEA⟩ : ∃ EA, EA = (rowI (eF 0)).toArray := ⟨_, rfl⟩
  rw [← hEA] at HAE HWY
  clear hEA
  go_wp2
  go_region_held3 (fun w' => w'.rangeAt C 0 vs ∧ Ext w4 w') (first | exact HRG.out _ (Ext.refl _).drew | exact HRG.out _ (Ext.trans (And.right (by assumption)) x5) | exact HRG.out _ (Ext.trans (And.right (by assumption)) x6)) (first | (go_at_call 67; refine (HAE.out _).mono ?_; rintro e w5 ⟨rfl, x5⟩) | (go_at_call 60; refine (HWY.out _ (And.right (by assumption))).mono ?_; rintro e w6 ⟨v, rfl, hv, x6⟩))
  rename_i hHeld
  have hE : Ext w4 w6 := And.right hHeld
  clear hHeld x5 x6 hu44 hi44 Wn Wn2 Wn3 Wn4 Wn5 Cn
  obtain ⟨g, cap, rfl, _, _⟩ := hv.shape (by omega)
  have X6 : Ext w w6 := (X3.trans x4).trans hE
  obtain ⟨gd, had, _, _, _, _⟩ := HVD.out.at 0 (by rw [HLN.out]; omega)
  subst had
  have HDK := Lib.hid (fun (k : Nat) (hk : k < n + 1) (w' : World) (hx' : Ext w6 w') => show w'.cell? ⟨gd, k, none⟩ = some (.int .i64 (dgt t k : Nat)) from by
    obtain ⟨gd2, e2, _, _, hc2, _⟩ := (HVD.out.ext (hE.trans hx')).at k (by rw [HLN.out]; omega)
    injection e2 with e2
    injection e2 with e2
    rw [e2, hc2, dgs_at])
  have HWC := Lib.hid (fun (m o : Nat) (hm : m < n + 1) (ho : o < 10) (w' : World) (hx' : Ext w6 w') => (hv.ext hx').at m o hm ho)
  have HMC := Lib.hid (fun (a : Nat) (ha : a < 10) (w' : World) (hx' : Ext w6 w') => show w'.cell? ⟨C, a, none⟩ = some (vs.getD a nil1) from by
    have hg := ((hE.trans hx').block C (heapLt G4.out)).trans G4.out
    rw [cell_of_row w' C _ _ _ _ hg, HVA.out, List.getElem?_toArray, List.getD_eq_getElem?_getD, List.getElem?_eq_getElem (by rw [HMV.out.1]; exact ha)]
    rfl)
  have HMP := Lib.hid (fun (a : Nat) (ha : a < 10) (w' : World) (hx' : Ext w6 w') => show Ps w' (vs.getD a nil1) (nx p a) from (((HM4.out.ext (hE.trans hx')).2 a ha).ps (by have := nx_len p a; unfold maxLen; omega)))
  have HD10 := Lib.hid (fun (k : Nat) (hk : k < n + 1) => (dgt_of HWK.out (show k < t.size by omega)).1)
  clear hv
  have hd0 := HD10.out 0 (by omega)
  rw [show t.size - 1 = n by omega] at HOY HVY
  have hns : t.size = n + 1 := hn
  rw [hns] at HVY
  have cd0 := HDK.out 0 (by omega) w6 (Ext.refl _)
  have cw0 := HWC.out n (dgt t 0) (by omega) hd0 w6 (Ext.refl _)
  have cdx := fun w' hx' => HDK.out 0 (by omega) w' hx'
  obtain ⟨d0, hd⟩ : ∃ d, d = dgt t 0 := ⟨_, rfl⟩
  rw [← hd] at hd0 cd0 cw0 HOY
  have hd0i : (d0 : Int) < 10 := by omega
  have hnn : (n : Int) < (n : Int) + 1 := by omega
  have hn0 : (0 : Int) < (n : Int) + 1 := by omega
  obtain ⟨c, hc⟩ : ∃ c, c = wyF p (eF 0) n d0 := ⟨_, rfl⟩
  rw [← hc] at cw0 HOY
  have Wn : wrap64 ((n : Int) + 1 - 1) = (n : Int) := by unfold wrap64; omega
  have Cn : (n : Int) + 1 - 1 = (n : Int) := by omega
  clear hd hc hns
  by_cases hcm : c ≤ mxN
  · have HTL := Lib.hid (tell_yes hcm)
    have hci : ¬ (1000000000000000 : Int) < (c : Int) := by unfold mxN at hcm; omega
    clear hcm
    go_wp2
    go_quiet (fail)
    go_wp2
    clear hnn hn0 Cn cd0 cw0 hci hd0i hd0
    obtain ⟨R, hR⟩ : ∃ R : Nat → Nat, R = rk p t (n + 1) := ⟨_, rfl⟩
    go_loopw [9, 10] (fun r q wr => ∃ k : Nat, k ≤ n ∧ q = .int .i64 ((k : Int) + 1) ∧ r = .int .i64 (R k : Nat) ∧ Ext w6 wr) (fun _ q _ => n + 1 - (intOf q).toNat)
    case atStart => exact ⟨0, Nat.zero_le _, rfl, by rw [hR]; rfl, ext_drewN (Ext.refl _) _⟩
    case round =>
      obtain ⟨k, hk, rfl, rfl, hx⟩ := hrel
      by_cases hlt : k < n
      · have hki : (k : Int) + 1 < (n : Int) + 1 := by omega
        obtain ⟨wo, rfl⟩ : ∃ wo, wo = wr := ⟨_, rfl⟩
        obtain ⟨m, hm⟩ : ∃ m, m = n - (k + 1) := ⟨_, rfl⟩
        have hdk := HD10.out k (by omega)
        have hde := HD10.out (k + 1) (by omega)
        have HXN := Lib.hid (fun q (hq : q ∈ nx p (dgt t k)) => nx_lt hq)
        have hnl := nx_len p (dgt t k)
        have HRS := Lib.hid (show R (k + 1) = R k + sumL (wyF p (eF 0) m) ((nx p (dgt t k)).filter fun o => decide (o < dgt t (k + 1))) by rw [hR, hm, show n - (k + 1) = n + 1 - 1 - (k + 1) by omega]; rfl)
        have hmk : m + (k + 1) = n := by omega
        clear hm
        have HRB := Lib.hid (show R k ≤ k * 10000000000000010 by rw [hR]; exact rk_bd p t (n + 1) k)
        have cdk := HDK.out k (by omega) wo hx
        have HCE := Lib.hid (fun w' (hx' : Ext w6 w') => HDK.out (k + 1) (by omega) w' hx')
        have cmk := HMC.out (dgt t k) hdk wo hx
        have HN := Lib.hid (HMP.out (dgt t k) hdk wo hx)
        obtain ⟨a, ha⟩ : ∃ a, a = dgt t k := ⟨_, rfl⟩
        rw [← ha] at hdk HXN hnl HRS cdk cmk HN
        clear ha
        obtain ⟨e, he⟩ : ∃ e, e = dgt t (k + 1) := ⟨_, rfl⟩
        rw [← he] at hde HRS HCE
        clear he
        obtain ⟨u, hu⟩ : ∃ u, u = vs.getD a nil1 := ⟨_, rfl⟩
        rw [← hu] at cmk HN
        clear hu
        obtain ⟨ds, hds⟩ : ∃ ds, ds = nx p a := ⟨_, rfl⟩
        rw [← hds] at HN HXN HRS hnl
        clear hds
        obtain ⟨ua, uc, hus⟩ := HN.out.at
        rw [hus] at cmk HN
        clear hus
        have Wk : wrap64 ((k : Int) + 1 - 1) = (k : Int) := by unfold wrap64; omega
        have Wk2 : IntKind.i64.wrap ((k : Int) + 1 - 1) = (k : Int) := by simp only [IntKind.wrap_i64]; omega
        have Ck : (k : Int) + 1 - 1 = (k : Int) := by omega
        have hkn1 : (k : Int) < (n : Int) + 1 := by omega
        have hai : (a : Int) < 10 := by omega
        go_wp2
        go_loopw [9, 57] (fun r q wz => ∃ j : Nat, j ≤ ds.length ∧ q = .int .i64 j ∧ r = .int .i64 ((R k + sumL (wyF p (eF 0) m) ((ds.take j).filter fun o => decide (o < e)) : Nat) : Int) ∧ Ext wo wz) (fun _ q _ => ds.length - (intOf q).toNat)
        case atStart => exact ⟨0, Nat.zero_le _, rfl, rfl, by first | exact Ext.refl _ | exact ext_drewN (Ext.refl _) _⟩
        case round =>
          obtain ⟨j, hj, rfl, rfl, hx2⟩ := hrel
          by_cases hlt3 : j < ds.length
          · have hji : (j : Int) < (ds.length : Int) := by omega
            obtain ⟨b, off, hab, hb, hcell⟩ := (HN.out.ext hx2).get j hlt3
            have hq10 := HXN.out ds[j] (List.getElem_mem hlt3)
            have ce := HCE.out wr (hx.trans hx2)
            have cW := HWC.out m ds[j] (by omega) hq10 wr (hx.trans hx2)
            have hSB := sum_bd p m ((ds.take j).filter fun o => decide (o < e)) (Nat.le_trans (List.length_filter_le _ _) (by rw [List.length_take]; omega))
            have hWB := wyF_le p (eF 0) (eF_le 0) m ds[j]
            have hWB1 : wyF p (eF 0) m ds[j] ≤ 1000000000000001 := hWB
            by_cases hde2 : ds[j] < e
            · have HSU := Lib.hid (sumF_yes (wyF p (eF 0) m) (fun o => decide (o < e)) ds j hlt3 (decide_eq_true hde2))
              obtain ⟨d, hd⟩ : ∃ d, d = ds[j] := ⟨_, rfl⟩
              rw [← hd] at hcell hq10 HSU hWB1 cW hde2
              obtain ⟨S0, hS0⟩ : ∃ S0, S0 = sumL (wyF p (eF 0) m) ((ds.take j).filter fun o => decide (o < e)) := ⟨_, rfl⟩
              rw [← hS0] at HSU hSB ⊢
              obtain ⟨V, hV⟩ : ∃ V, V = wyF p (eF 0) m d := ⟨_, rfl⟩
              rw [← hV] at HSU hWB1 cW
              have hadd := rk_add HRB.out hSB hWB1 (by omega : k ≤ 40)
              obtain ⟨S, hS⟩ : ∃ S, S = R k + S0 := ⟨_, rfl⟩
              have HSS := Lib.hid (show R k + sumL (wyF p (eF 0) m) ((ds.take (j + 1)).filter fun o => decide (o < e)) = S + V by rw [HSU.out, hS]; omega)
              rw [← hS] at hadd ⊢
              have hdi : (d : Int) < 10 := by omega
              have hdei : (d : Int) < (e : Int) := by omega
              have hmi : (m : Int) < (n : Int) + 1 := by omega
              have hkk : (k : Int) + 1 < (n : Int) + 1 := hki
              have Wm : IntKind.i64.wrap ((n : Int) - ((k : Int) + 1)) = (m : Int) := by simp only [IntKind.wrap_i64]; omega
              have Wn2 : IntKind.i64.wrap ((n : Int) + 1 - 1) = (n : Int) := by simp only [IntKind.wrap_i64]; omega
              have Wm2 : wrap64 ((n : Int) - ((k : Int) + 1)) = (m : Int) := by unfold wrap64; omega
              have Cm : (n : Int) - ((k : Int) + 1) = (m : Int) := by omega
              have Cn : (n : Int) + 1 - 1 = (n : Int) := by omega
              subst hab
              clear hd hS hV hS0 hSB hWB hWB1 HSU hb
              go_wp2
              go_wp2
              go_roundw
              case rel => exact ⟨j + 1, by omega, by go_num, by rw [HSS.out]; go_num, by first | exact hx2 | exact ext_drewN hx2 _⟩
              case measure => simp [intOf] <;> omega
            · have HSU := Lib.hid (sumF_no (wyF p (eF 0) m) (fun o => decide (o < e)) ds j hlt3 (decide_eq_false hde2))
              obtain ⟨d, hd⟩ : ∃ d, d = ds[j] := ⟨_, rfl⟩
              rw [← hd] at hcell hq10 hde2
              have hdei : ¬ (d : Int) < (e : Int) := by omega
              have hkk : (k : Int) + 1 < (n : Int) + 1 := hki
              subst hab
              clear hd hb cW hSB hWB hWB1
              go_wp2
              go_roundw
              case rel => exact ⟨j + 1, by omega, by go_num, by rw [HSU.out], by first | exact hx2 | exact ext_drewN hx2 _⟩
              case measure => simp [intOf] <;> omega
          · obtain rfl : j = ds.length := by omega
            have HSA := Lib.hid (show ds.take ds.length = ds from List.take_of_length_le (Nat.le_refl _))
            have Wk3 : IntKind.i64.wrap ((k : Int) + 1 + 1) = (k : Int) + 1 + 1 := by simp only [IntKind.wrap_i64]; omega
            clear Wk Wk2 Ck
            go_wp2
            go_roundw
            case rel => exact ⟨k + 1, by omega, by go_num, by rw [HRS.out, HSA.out], hx.trans (by first | exact hx2 | exact ext_drewN hx2 _)⟩
            case measure => simp [intOf] <;> omega
      · obtain rfl : k = n := by omega
        go_wp2
        go_ret2
        exact ⟨ret_IB (by rw [HVY.out (by rw [HOY.out, HTL.out.2]), hR]) (by rw [HOY.out, HTL.out.2]), X6.trans (by first | exact hx | exact ext_drewN hx _)⟩
  · have HTL := Lib.hid (tell_no hcm)
    have hci : (1000000000000000 : Int) < (c : Int) := by unfold mxN at hcm; omega
    have HO := Lib.hid (show roOk (pcT p) t = false by rw [HOY.out, HTL.out.2])
    clear hcm
    go_wp2
    go_quiet (fail)
    go_wp2
    go_ret2
    exact ⟨ret_IB (HVN.out HO.out).symm HO.out.symm, X6.trans (ext_drewN (Ext.refl _) _)⟩
end Go.Proofs.Ytmpajijnpoekgac
