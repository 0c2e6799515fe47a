/- For every list of texts and text the program's FirstFewest answers as its model does, in memory of its own, and leaves the list alone, the pad's table being as the program lays it. -/
import Derived.Test.YtioinihlahnbfaaDoorCards
import Derived.Test.YtioinihlahnbfaaDoorTie
import Derived.Test.YtioinihlahnbfaaDoorTab
import Derived.Test.YtioinihlahnbfaaDoorFirstByF
import Derived.Test.YtioinihlahnbfaaDoorMarks
import Derived.Test.YtioinihlahnbfaaDoorOpenS
namespace Go.Proofs.YtioinihlahnbfaaDoor.firstFewest
open Go.ChangeShapes Go.WideShapes Go.ChangeAt Go.RowKit
open Go.ChangeMaps (open_string shut_string)

theorem spK_ok {s : ByteArray} (h : spK s = true) : okQ s := by
  unfold spK at h
  simp only [Bool.and_eq_true, decide_eq_true_eq] at h
  refine ⟨h.2, fun i hi h0 => ?_⟩
  have h1 := isK_get h.1 i hi
  have e : s.data.toList.getD i 0 = s[i] := by
    rw [List.getD_eq_getElem?_getD, List.getElem?_eq_getElem (by simpa using hi)]
    rfl
  rw [e] at h0
  rw [h0] at h1
  exact absurd h1 (by decide)
def okB (ss : List ByteArray) (s : ByteArray) : Bool := dicB ss && spK s
def okV (ss : List ByteArray) (s : ByteArray) : Bool := okB ss s && decide (¬ tq ss s 0 = 0)
def fV (ss : List ByteArray) (s : ByteArray) : List ByteArray := if okV ss s then firstF ss s else []
theorem okB_d {ss : List ByteArray} {s : ByteArray} (h : dicB ss = false) : okB ss s = false := by unfold okB; simp [h]
theorem okB_k {ss : List ByteArray} {s : ByteArray} (h : spK s = false) : okB ss s = false := by unfold okB; simp [h]
theorem okB_yes {ss : List ByteArray} {s : ByteArray} (h : dicB ss = true) (h2 : spK s = true) : okB ss s = true := by unfold okB; simp [h, h2]
theorem okB_and {ss : List ByteArray} {s : ByteArray} (h : okB ss s = true) : dicB ss = true ∧ spK s = true := by unfold okB at h; simpa using h
theorem okV_no {ss : List ByteArray} {s : ByteArray} (h : okB ss s = false) : okV ss s = false := by unfold okV; rw [h]; rfl
theorem okV_eq {ss : List ByteArray} {s : ByteArray} (h : okB ss s = true) : okV ss s = decide (¬ tq ss s 0 = 0) := by unfold okV; rw [h, Bool.true_and]
theorem fV_no {ss : List ByteArray} {s : ByteArray} (h : okV ss s = false) : fV ss s = [] := by unfold fV; simp [h]
theorem fV_yes {ss : List ByteArray} {s : ByteArray} (h : okV ss s = true) : fV ss s = firstF ss s := by unfold fV; simp [h]
theorem okV_and {ss : List ByteArray} {s : ByteArray} (h : okV ss s = true) : okB ss s = true := by unfold okV at h; simp only [Bool.and_eq_true] at h; exact h.1
theorem fV_len (ss : List ByteArray) (s : ByteArray) : (fV ss s).length ≤ 1048576 := by
  cases h : okV ss s
  · rw [fV_no h]; simp
  · rw [fV_yes h]
    have := path_len ss (goF ss s) s.size s.size 0
    have h20 := (spK_ok (okB_and (okV_and h)).2).1
    unfold firstF
    omega
theorem fV_mem (ss : List ByteArray) (s : ByteArray) : ∀ t ∈ fV ss s, t.size ≤ maxLen := by
  intro t ht
  cases h : okV ss s
  · rw [fV_no h] at ht; cases ht
  · rw [fV_yes h] at ht
    have := wdW_size (dicB_mem (okB_and (okV_and h)).1 t (path_mem _ _ _ _ _ t ht))
    unfold maxLen
    omega
theorem spK_one {s : ByteArray} (h : spK s = true) : 1 ≤ s.size := by
  unfold spK at h
  simp only [Bool.and_eq_true] at h
  exact (isK_size h.1).1

theorem row_some {B : Nat} {w : World} {v : Value} {ts : List ByteArray} (h : RowS B w v ts) (hn : ¬ ts.length = 0) : ∃ g c, v = .slice (some ⟨g, 0, none⟩) ts.length c := by
  rcases h.2 with ⟨_, h4⟩ | ⟨g, c, cur, h3, _⟩
  · exact absurd h4 hn
  · exact ⟨g, c, h3⟩
theorem tab_new (w : World) : TabI (w.alloc (.cells zero21 55)) w.heap.size (fun _ => 0) := by
  unfold TabI
  rw [← zero21_eq]
  show (w.heap.push (Obj.cells zero21 55))[w.heap.size]? = _
  simp
theorem tq_fq {ss : List ByteArray} {s : ByteArray} (hd : dicB ss = true) (hq : s.size ≤ 20) : (¬ tq ss s 0 = 0 → fq ss s 0 ≤ 20) ∧ (tq ss s 0 = 0 → fq ss s 0 = 21) :=
  ⟨fun h => by have := fq_small hd s hq 0 (Nat.zero_le _) h; omega, fun h => fq_none hd s hq 0 (Nat.zero_le _) h⟩
set_option maxHeartbeats 1000000 in
theorem spec_any (v : Value) (ss : List ByteArray) (s : ByteArray) (w : World) (h : Strs w v ss) (hs : s.size ≤ maxLen) : Calls Tryd.prog 22 #[v, .string s] w (ResS (fV ss s) (okV ss s) w) := by
  have HS := Lib.hid h
  clear h
  cases hok : okB ss s
  · have H := Lib.hid (okV_no hok)
    have hand : (dicB ss && spK s) = false := hok
    go_enter Tryd.func22, Tryd.ntmps22
    go_wp2_with (go_at_call 44; refine (wdAsked_any _ _ _ _ HS.out hs).mono ?_; rintro e w1 ⟨rfl, x1⟩; rw [hand])
    go_ret2
    exact ⟨_, ret_vb (b := false) H.out.symm, by rw [fV_no H.out]; exact RowS.nil _ _, x1⟩
  · have H := Lib.hid (okV_eq hok)
    have HK := Lib.hid (okB_and hok)
    have hand : (dicB ss && spK s) = true := hok
    have HFV := Lib.hid (show (if tq ss s 0 = 0 then [] else firstF ss s) = fV ss s by
      by_cases h0 : tq ss s 0 = 0
      · rw [if_pos h0, fV_no (by rw [okV_eq hok]; exact decide_eq_false (fun h => h h0))]
      · rw [if_neg h0, fV_yes (by rw [okV_eq hok]; exact decide_eq_true h0)])
    go_enter Tryd.func22, Tryd.ntmps22
    go_wp2_with (first | (go_at_call 44; refine (wdAsked_any _ _ _ _ HS.out hs).mono ?_; rintro e w1 ⟨rfl, x1⟩; rw [hand]) | (go_at_call 46; refine (wdFirst2_any _ _ _ _ (HS.out.ext x1) HK.out.1 (spK_ok HK.out.2).1 (spK_one HK.out.2)).mono ?_; rintro e w2 ⟨v2, rfl, r2, x2⟩; rw [HFV.out] at r2; rw [← H.out]))
    go_ret2
    exact ⟨_, rfl, r2.down x1.size, x1.trans x2⟩

set_option maxHeartbeats 1000000 in
theorem impl_any (v : Value) (ss : List ByteArray) (s : ByteArray) (w : World) (h : Strs w v ss) (hs : s.size ≤ maxLen) (hp : PadIs w) : Calls Tryd.prog 23 #[v, .string s] w (ResS (fV ss s) (okV ss s) w) := by
  have HS := Lib.hid h
  clear h
  cases hd : dicB ss
  · have H := Lib.hid (okV_no (okB_d (s := s) hd))
    go_enter Tryd.func23, Tryd.ntmps23
    go_wp2_with (go_at_call 32; refine (dict_any _ _ _ HS.out).mono ?_; rintro e w1 ⟨rfl, x1⟩)
    go_ret2
    exact ⟨_, ret_vb H.out.symm, by rw [fV_no H.out]; exact RowS.nil _ _, x1⟩
  cases hk : spK s
  · have H := Lib.hid (okV_no (okB_k (ss := ss) hk))
    go_enter Tryd.func23, Tryd.ntmps23
    go_wp2_with (first | (go_at_call 32; refine (dict_any _ _ _ HS.out).mono ?_; rintro e w1 ⟨rfl, x1⟩) | (go_at_call 38; refine (areSplit_any _ _ hs).mono ?_; rintro e w' ⟨rfl, rfl⟩))
    go_ret2
    exact ⟨_, ret_vb H.out.symm, by rw [fV_no H.out]; exact RowS.nil _ _, x1⟩
  have HB := Lib.hid (okB_yes hd hk)
  have HD := Lib.hid hd
  have HQ := Lib.hid (spK_ok hk)
  have HK1 := Lib.hid (spK_one hk)
  have h21 : (tabL (gFrom ss s 0)).length = 21 := tabL_len _
  have hmf : ∀ (fn : Fn) (first cap : Array Value) (w : World), (Instr.makeFunc fn first cap).run Tryd.prog w = .ok (.func fn first cap) w := fun _ _ _ _ => rfl
  have HT := Lib.hid (tq_fq HD.out HQ.out.1)
  obtain ⟨F, hF⟩ : ∃ F, F = fq ss s 0 := ⟨_, rfl⟩
  have HFF := Lib.hid hF
  have HG0 := Lib.hid (show gFrom ss s 0 0 = (F : Int) by unfold gFrom; rw [if_pos (by omega), hF])
  clear hF
  by_cases h0 : tq ss s 0 = 0
  · have H := Lib.hid (show okV ss s = false by rw [okV_eq HB.out]; exact decide_eq_false (fun h => h h0))
    have hF21 : (21 : Int) ≤ (F : Int) := by have := HT.out.2 h0; have := HFF.out; omega
    clear h0
    go_enter Tryd.func23, Tryd.ntmps23
    go_wp2_with (first | (go_at_call 32; refine (dict_any _ _ _ HS.out).mono ?_; rintro e w1 ⟨rfl, x1⟩) | (go_at_call 38; refine (areSplit_any _ _ hs).mono ?_; rintro e w' ⟨rfl, rfl⟩) | (go_at_call 48; refine (keep_any _ _ _ (HS.out.ext x1) HD.out (hp.ext x1)).mono ?_; rintro e w2 ⟨rfl, k2, x2⟩) | (go_at_call 47; refine (fewestFrom_any _ _ _ _ _ k2 HQ.out).mono ?_; rintro e w3 ⟨rfl, x3⟩; obtain ⟨W4, hst, hg4, x4⟩ := tab_store (w3.alloc (.cells zero21 55)) w3.heap.size (fun _ => 0) (gFrom ss s 0) (tab_new w3) ((Ext.refl w3).alloc _) (Nat.le_refl _); unfold zero21 at hst; have G4 := Lib.hid hg4; have c4 := (show TabI W4 w3.heap.size (gFrom ss s 0) from hg4).at 0 (by omega); rw [HG0.out] at c4; clear hg4))
    go_ret2
    exact ⟨_, ret_vb H.out.symm, by rw [fV_no H.out]; exact RowS.nil _ _, (((x1.trans x2).trans x3).trans x4)⟩
  · have H := Lib.hid (show okV ss s = true by rw [okV_eq HB.out]; exact decide_eq_true h0)
    have H20 := Lib.hid (HT.out.1 h0)
    have hF21 : ¬ (21 : Int) ≤ (F : Int) := by have := HT.out.1 h0; have := HFF.out; omega
    clear h0
    go_enter Tryd.func23, Tryd.ntmps23
    go_wp2_with (first | (go_at_call 32; refine (dict_any _ _ _ HS.out).mono ?_; rintro e w1 ⟨rfl, x1⟩) | (go_at_call 38; refine (areSplit_any _ _ hs).mono ?_; rintro e w' ⟨rfl, rfl⟩) | (go_at_call 48; refine (keep_any _ _ _ (HS.out.ext x1) HD.out (hp.ext x1)).mono ?_; rintro e w2 ⟨rfl, k2, x2⟩) | (go_at_call 47; refine (fewestFrom_any _ _ _ _ _ k2 HQ.out).mono ?_; rintro e w3 ⟨rfl, x3⟩; obtain ⟨W4, hst, hg4, x4⟩ := tab_store (w3.alloc (.cells zero21 55)) w3.heap.size (fun _ => 0) (gFrom ss s 0) (tab_new w3) ((Ext.refl w3).alloc _) (Nat.le_refl _); unfold zero21 at hst; have G4 := Lib.hid hg4; have c4 := (show TabI W4 w3.heap.size (gFrom ss s 0) from hg4).at 0 (by omega); rw [HG0.out] at c4; clear hg4) | (go_at_call 49; refine (firstByF_any _ ss s w3.heap.size W4 (HS.out.ext (((x1.trans x2).trans x3).trans x4)) HD.out HQ.out.1 HK1.out (hp.ext (((x1.trans x2).trans x3).trans x4)) G4.out H20.out).mono ?_; rintro e w5 ⟨v5, rfl, r5, x5⟩; have R5 := Lib.hid r5; clear r5))
    go_ret2
    exact ⟨_, ret_vb H.out.symm, by rw [fV_yes H.out]; exact R5.out.down (((x1.trans x2).trans x3).trans x4).size, ((((x1.trans x2).trans x3).trans x4).trans x5)⟩

set_option maxHeartbeats 4000000 in
theorem walk (w : World) (v : Value) (ss : List ByteArray) (h : Strs w v ss) (s1 : ByteArray) (hs1 : s1.size ≤ maxLen) (hp : PadIs w) : Calls Tryd.prog 7 #[v, .string s1] w fun e w' => e = .returned (.bool true) ∧ Ext w w' := by
  have H := Lib.hid h
  clear h
  have h63_1 : s1.size ≤ 9223372036854775807 := hs1
  have hzl : (fV ss s1).length ≤ 1048576 := fV_len ss s1
  have hzm := Lib.hid (fV_mem ss s1)
  obtain ⟨zs, hzs⟩ : ∃ zs, zs = fV ss s1 := ⟨_, rfl⟩
  have HZ := Lib.hid hzs
  rw [← hzs] at hzl hzm
  clear hzs
  by_cases hbig1 : 1048576 < s1.size
  · go_enter Tryd.func7, Tryd.ntmps7
    go_wp2
    go_ret
    exact ⟨rfl, Ext.refl _⟩
  go_enter Tryd.func7, Tryd.ntmps7
  go_wp2_with (first | (go_at_call 9; refine (szS_any _ _ _ H.out).mono ?_; rintro e w' ⟨r, hr, rfl, rfl⟩))
  · go_ret
    exact ⟨rfl, Ext.refl _⟩
  · have hf := hr (by assumption)
    obtain ⟨hn, hb⟩ := hf
    clear hr
    refine (toS_any _ _ _ (H.out) hn).mono ?_
    rintro e w1 ⟨u1, rfl, hu1, x1, gx1, cx1, rfl, hgx1, hox1⟩
    have H1 := Lib.hid hu1
    have O1 := Lib.hid hox1
    have hg1 : gx1 < w1.heap.size := by
      rcases hox1.2 with ⟨h3, _⟩ | ⟨g', c, cur, h3, _, hg, _⟩
      · cases h3
      · cases h3
        exact heap_lt hg
    clear hu1 hox1
    have X1 : Ext w w1 := x1
    go_wp2_with fail
    refine (spec_any _ _ _ _ H1.out hs1).mono ?_
    rintro e w2 ⟨g2, rfl, r2, x2⟩
    rw [← HZ.out] at r2
    have R2 := Lib.hid r2
    clear r2
    have X2 : Ext w w2 := X1.trans x2
    go_wp2_with fail
    refine (toS_any _ _ _ (H.out.ext X2) hn).mono ?_
    rintro e w3 ⟨u3, rfl, hu3, x3, gx3, cx3, rfl, hgx3, hox3⟩
    have H3 := Lib.hid hu3
    have O3 := Lib.hid hox3
    have hg3 : gx3 < w3.heap.size := by
      rcases hox3.2 with ⟨h3, _⟩ | ⟨g', c, cur, h3, _, hg, _⟩
      · cases h3
      · cases h3
        exact heap_lt hg
    clear hu3 hox3
    have X3 : Ext w w3 := X2.trans x3
    go_wp2_with fail
    refine (impl_any _ _ _ _ H3.out hs1 (hp.ext X3)).mono ?_
    rintro e w4 ⟨g4, rfl, r4, x4⟩
    rw [← HZ.out] at r4
    have R4 := Lib.hid r4
    clear r4
    have X4 : Ext w w4 := X3.trans x4
    go_wp2_with fail
    refine (eqS_any _ _ _ _ ((R4.out).strs (by unfold maxLen; omega) hzm.out) ((R2.out.ext (x3.trans x4)).strs (by unfold maxLen; omega) hzm.out) hzl).mono ?_
    rintro e w5 ⟨rfl, x5⟩
    have X5 : Ext w w5 := X4.trans x5
    go_wp2_with fail
    refine (toS_any _ _ _ (H.out.ext X5) hn).mono ?_
    rintro e w6 ⟨u6, rfl, hu6, x6, gx6, cx6, rfl, hgx6, hox6⟩
    have H6 := Lib.hid hu6
    have O6 := Lib.hid hox6
    have hg6 : gx6 < w6.heap.size := by
      rcases hox6.2 with ⟨h3, _⟩ | ⟨g', c, cur, h3, _, hg, _⟩
      · cases h3
      · cases h3
        exact heap_lt hg
    clear hu6 hox6
    have X6 : Ext w w6 := X5.trans x6
    go_wp2_with fail
    refine (eqS_any _ _ _ _ (H3.out.ext ((x4.trans x5).trans x6)) (H6.out) hn).mono ?_
    rintro e w7 ⟨rfl, x7⟩
    have X7 : Ext w w7 := X6.trans x7
    go_wp2_with fail
    refine (markS_any _ _ _ gx3 _ _ _ rfl (row_ext O3.out (((x4.trans x5).trans x6).trans x7)) hn).mono ?_
    rintro e w8 ⟨rfl, hg8⟩
    have X8 : Ext w w8 := ext_grown X7 hg8 (fun j hj => by cases hj; exact Nat.le_trans X2.size hgx3)
    have S8 := Lib.hid (RowS.kept (R2.out.ext ((((x3.trans x4).trans x5).trans x6).trans x7)) hg8 (R2.out.apart gx3 (.inr (Nat.le_trans (Nat.le_refl _) hgx3))))
    have G8 := Lib.hid (RowS.kept (R4.out.ext ((x5.trans x6).trans x7)) hg8 (R4.out.apart gx3 (.inl hg3)))
    clear hg8
    go_wp2_with fail
    refine (eqS_any _ _ _ _ ((G8.out).strs (by unfold maxLen; omega) hzm.out) ((S8.out).strs (by unfold maxLen; omega) hzm.out) hzl).mono ?_
    rintro e w9 ⟨rfl, x9⟩
    have X9 : Ext w w9 := X8.trans x9
    go_wp2_with fail
    refine (markR_any _ _ _ _ (G8.out.ext x9) hzl).mono ?_
    rintro e w10 ⟨rfl, m10, hg10⟩
    have M10 := Lib.hid m10
    have X10 : Ext w w10 := ext_grown X9 hg10 (fun j hj => Nat.le_trans X3.size (R4.out.own_le j hj))
    have S10 := Lib.hid (RowS.kept (S8.out.ext x9) hg10 (R2.out.apart2 (w2 := w4) R4.out (x3).size))
    clear m10 hg10
    go_wp2_with fail
    refine (heldR_any _ _ _ _ M10.out hzl).mono ?_
    rintro e w11 ⟨rfl, x11⟩
    have X11 : Ext w w11 := X10.trans x11
    go_wp2_with fail
    refine (toS_any _ _ _ (H.out.ext X11) hn).mono ?_
    rintro e w12 ⟨u12, rfl, hu12, x12, gx12, cx12, rfl, hgx12, hox12⟩
    have H12 := Lib.hid hu12
    have O12 := Lib.hid hox12
    have hg12 : gx12 < w12.heap.size := by
      rcases hox12.2 with ⟨h3, _⟩ | ⟨g', c, cur, h3, _, hg, _⟩
      · cases h3
      · cases h3
        exact heap_lt hg
    clear hu12 hox12
    have X12 : Ext w w12 := X11.trans x12
    go_wp2_with fail
    refine (impl_any _ _ _ _ H12.out hs1 (hp.ext X12)).mono ?_
    rintro e w13 ⟨g13, rfl, r13, x13⟩
    rw [← HZ.out] at r13
    have R13 := Lib.hid r13
    clear r13
    have X13 : Ext w w13 := X12.trans x13
    go_wp2_with fail
    refine (eqS_any _ _ _ _ ((R13.out).strs (by unfold maxLen; omega) hzm.out) ((S10.out.ext ((x11.trans x12).trans x13)).strs (by unfold maxLen; omega) hzm.out) hzl).mono ?_
    rintro e w14 ⟨rfl, x14⟩
    have X14 : Ext w w14 := X13.trans x14
    go_wp2_with fail
    refine (heldR_any _ _ _ _ (M10.out.ext (((x11.trans x12).trans x13).trans x14)) hzl).mono ?_
    rintro e w15 ⟨rfl, x15⟩
    have X15 : Ext w w15 := X14.trans x15
    go_wp2_with fail
    go_ret
    exact ⟨rfl, X15⟩

set_option maxRecDepth 100000 in
theorem contract (H : Type) (enc : TypeId × Value → H) (W : World) (base : Nat) (args : Array Value) (ds gs : List (DataW H)) (before : List MemPlace)
    (hval : ∀ (j : Nat) t v, Tryd.f7.params[j]? = some t → args[j]? = some v → Value.okWide Tryd.prog W .any base t v)
    (hW : DataW.Whole enc Tryd.prog Tryd.f7.params.toList Rows.fnExactFirstFewestSpec.vars false W args.toList ds gs before) (hL : laidMetH Tryd.prog Rows.fnExactFirstFewestRow.laid W) :
    Calls Tryd.prog 7 args W fun e W' => ∃ v, e = .returned v ∧ Rows.fnExactFirstFewestSpec.post enc Tryd.prog Tryd.f7 false true false false W args v W' := by
  have hW' := hW
  obtain ⟨p, q, hA0, hV, rfl, hfz, hnd⟩ := hW
  have hA : DataW.TrodAll enc Tryd.prog W 0 (fun _ => true) true Tryd.f7.params.toList args.toList ds p := hA0
  rw [Tryd.params7] at hA hval
  obtain ⟨v0, vs0, d0, ds0, p0, q0, hargs0, rfl, rfl, h0, r0⟩ := trodAll_cons hA
  obtain ⟨v1, vs1, d1, ds1, p1, q1, hargs1, rfl, rfl, h1, r1⟩ := trodAll_cons r0
  obtain ⟨rfl, rfl, rfl⟩ := trodAll_nil r1
  subst hargs1
  obtain rfl : args = #[v0, v1] := Array.toList_inj.1 hargs0
  obtain ⟨s0, z0⟩ := strs_of (hval 0 22 v0 rfl rfl) h0
  obtain ⟨s1, rfl, rfl, rfl, z1⟩ := open_string Tryd.underlying9 (hval 1 9 v1 rfl rfl) h1
  clear hA0
  refine (walk W v0 s0 z0 s1 z1 (padIs_of_laid hL)).mono fun e W' ⟨he, hx⟩ => ?_
  subst he
  exact ⟨_, rfl, post_true (tb := 4) laidOut (by rw [Tryd.params7]; intro t ht; simp at ht; rcases ht with rfl | rfl <;> exact ⟨by kernel_rfl, of_decide_eq_true (by kernel_rfl)⟩) (by kernel_rfl) hW' hx (by obtain ⟨g, t, cs, fuel, d, p', rfl, _⟩ := trodVars_one hV; rfl) rfl Tryd.underlying4⟩

theorem reads (os : Os) {H : Type} (enc : TypeId × Value → H) : ∃ gs places, DataW.whole enc Tryd.prog ((laidWorld os).forCall (fun _ _ => 0) ⟨#[], #[.slice none 0 0, .string ByteArray.empty], []⟩).memory Tryd.f7.params.toList Rows.fnExactFirstFewestSpec.vars false (#[.slice none 0 0, .string ByteArray.empty] : Array Value).toList 8 = some ([.nil, .lit (.string [])], gs, places) :=
  ⟨[Rows.laid_loop_example_g01350_impl_padKeys], MemPlace.row ⟨0, 0, none⟩ 16, by kernel_rfl⟩

set_option maxRecDepth 100000 in
theorem lifted (os : Os) (started : os.Started) (H : Type) (enc : TypeId × Value → H) (F : Stop.Interp) :
    ReturnsInHanded {} Tryd.checked os 7 .any ((OpenSpec.ofChange Rows.fnExactFirstFewestSpec).preRow enc Tryd.prog Tryd.f7 Rows.fnExactFirstFewestRow.domain false Rows.fnExactFirstFewestRow.laid) (((OpenSpec.ofChange Rows.fnExactFirstFewestSpec).at F).post enc Tryd.prog Tryd.f7 false true false false) := by
  obtain ⟨gs, places, hx⟩ := reads os enc
  refine returnsInHanded_of_row (C := Tryd.checked) (s := OpenSpec.ofChange Rows.fnExactFirstFewestSpec) own started (by kernel_rfl) Tryd.func7
    (witness_row_at (enc := enc) (C := Tryd.checked) false (laidWorld os) #[.slice none 0 0, .string ByteArray.empty] rfl (by kernel_rfl) (by kernel_rfl) (by kernel_rfl)
      (OpenSpec.preRow_of_cond 8 hx (by kernel_rfl) (fun k hk => by cases hk) (by kernel_rfl) (laid_met os _))) ?_
  intro W base args ds gs before hval hW _ _ _ hL _ _
  exact contract H enc W base args ds gs before hval hW hL

theorem said : Rows.FnExactFirstFewestSaid :=
  OpenClaim.holds_of_cond 7 Tryd.f7 rfl rfl rfl rfl rfl rfl rfl ⟨rfl, rfl, rfl, rfl, rfl⟩ rfl rfl rfl rfl rfl (by kernel_rfl) Tryd.func7 (by kernel_rfl)
    (of_decide_eq_true (by kernel_rfl)) (by unfold Func.isWrapper; first | (rw [if_pos (by decide +kernel)]; kernel_rfl) | (rw [if_neg (by decide +kernel)]; exact ⟨rfl, rfl⟩))
    (fun os started H enc _ F => by rw [OpenClaim.pre_eq_preRow]; exact lifted os started H enc F)

theorem plain (f : FuncId) (fn : Func) (hf : Tryd.pinned.checked.prog.funcNamed "loop.example/g01350/laws.FnExactFirstFewest" = some f) (hfn : Tryd.pinned.checked.prog.funcs[f]? = some fn) :
    false = Tryd.pinned.checked.prog.looks [] ∧ ∀ (j : Nat) t, fn.params[j]? = some t → Tryd.pinned.checked.prog.wantsStandIn t = false := by
  obtain rfl : f = 7 := Option.some.inj ((show Tryd.prog.funcNamed "loop.example/g01350/laws.FnExactFirstFewest" = some 7 by kernel_rfl).symm.trans hf) |>.symm
  obtain rfl : fn = Tryd.f7 := (Option.some.inj (Tryd.func7.symm.trans hfn)).symm
  refine ⟨by kernel_rfl, fun j t ht => ?_⟩
  rw [Tryd.params7] at ht
  have hm := Array.mem_of_getElem? ht
  have hall : (#[22, 9].toList.all fun u => !Tryd.prog.wantsStandIn u) = true := by kernel_rfl
  exact (show Tryd.prog.wantsStandIn t = false by simpa using List.all_eq_true.1 hall t (by simpa using hm))

/-- THE CARD -/
theorem card : Rows.FnExactFirstFewestCardSaid :=
  Claim7.holds_tied_plain_at .later [] _ _ _ _ said (fun _ h => by cases h) (by kernel_rfl) (fun _ h => by cases h) fnExactFirstFewest_row_tie rfl ⟨rfl, rfl⟩ (by kernel_rfl) rfl plain (by kernel_rfl)
end Go.Proofs.YtioinihlahnbfaaDoor.firstFewest
