/- The first pattern from a point: the program's side. No conditions. -/
import Derived.Test.YtmpajijnpoekgaaPatF
import Derived.Great.BuildSlice
namespace Go.Proofs.Ytmpajijnpoekgaa
open Go.RowKit

/-- Drawn points while the first pattern is made. -/
def Gst (ps : List Nat) (l : Nat) : Prop := (∀ p ∈ ps, p < 9) ∧ l ∈ ps
theorem Gst.next {ps : List Nat} {l p : Nat} (h : Gst ps l) (hp : p < 9) : Gst (ps ++ [p]) p := ⟨fun q hq => by
  rcases List.mem_append.1 hq with h2 | h2
  · exact h.1 q h2
  · simp at h2; omega, by simp⟩
theorem headD_at : ∀ (L : List Nat) (h : 0 < L.length), L[0] = L.headD 0
  | [], h => absurd h (by simp)
  | _ :: _, _ => rfl
theorem nx_head {ps : List Nat} {l : Nat} (h : 0 < (nxP ps l 9).length) : (nxP ps l 9)[0] = fpP ps l := headD_at _ h
theorem rowP_new (w : World) (x : Nat) : RowP w.heap.size (w.alloc (.cells #[.int .i64 (x : Int)] 3)) (.slice (some ⟨w.heap.size, 0, none⟩) 1 1) [x] :=
  ⟨rfl, .inr ⟨w.heap.size, 1, _, rfl, Nat.le_refl _, heap_alloc_new w _, Nat.le_refl _, by unfold maxLen; omega, rfl, rfl⟩⟩
theorem grP_lt (k : Nat) : ∀ ps l, Gst ps l → ps.length + k ≤ 9 → ∀ q ∈ grP k ps l, q < 9 := by
  induction k with
  | zero => intro ps l h _; exact h.1
  | succ k ih =>
    intro ps l h hk
    have hf := (fpP_of h.1 h.2 (by omega)).1
    exact ih _ _ (h.next hf) (by simp; omega)
theorem grP_len (k : Nat) : ∀ ps l, (grP k ps l).length = ps.length + k := by
  induction k with
  | zero => intro ps l; rfl
  | succ k ih =>
    intro ps l
    show (grP k (ps ++ [fpP ps l]) (fpP ps l)).length = _
    rw [ih]
    simp
    omega

set_option maxHeartbeats 2000000 in
theorem fdI_any (s : ByteArray) (n : Int) (w : World) (hs : s.size ≤ maxLen) : Calls Try.prog 24 #[.string s, .int .i64 n] w fun e w' => e = .returned (.tuple #[.string (fdV s n), .bool (stG s n)]) ∧ Ext w w' := by
  have HP := Lib.hid (fun w => isPoint_any s w hs)
  cases h1 : (decide (s.size = 1) && isPt s)
  · have HG := Lib.hid (show stG s n = false by unfold stG; rw [← Bool.and_assoc, h1]; rfl)
    have HV := Lib.hid (fdV_no HG.out)
    rw [h1] at HP
    go_enter Try.func24, Try.ntmps24
    go_wp2_with fail
    refine (HP.out _).mono ?_
    rintro e w1 ⟨rfl, x1⟩
    go_wp2
    go_ret2
    exact ⟨ret_sBf HV.out.symm HG.out.symm, x1⟩
  rw [h1] at HP
  cases h2 : inW n 1 9
  · have HG := Lib.hid (stG_n (s := s) h2)
    have HV := Lib.hid (fdV_no HG.out)
    go_enter Try.func24, Try.ntmps24
    go_wp2_with fail
    refine (HP.out _).mono ?_
    rintro e w1 ⟨rfl, x1⟩
    go_wp2_with (go_at_call 52; refine (isLongP_any _ _ _).mono ?_; rintro e w' ⟨rfl, rfl⟩; rw [h2])
    go_ret2
    exact ⟨ret_sBf HV.out.symm HG.out.symm, x1⟩
  rw [Bool.and_eq_true] at h1
  have hz := of_decide_eq_true h1.1
  have hG := stG_y hz h1.2 h2
  obtain ⟨n1, n2⟩ := inW_bdf h2
  obtain ⟨m, rfl⟩ : ∃ m : Nat, n = ((m + 1 : Nat) : Int) := ⟨(n - 1).toNat, by omega⟩
  obtain ⟨b, hsb, b1, b2, hp9, hpt, hpl⟩ := st_of hz h1.2
  have HG := Lib.hid hG
  have HV := Lib.hid (fdV_yes hG hpl)
  have HF := Lib.hid (fun w => dfrom_any b w b1 b2)
  rw [← hsb] at HF
  obtain ⟨p, hp⟩ : ∃ p, p = pn b := ⟨_, rfl⟩
  rw [← hp] at HF HV hp9
  obtain ⟨A, hA⟩ : ∃ A, A = (dvA (inD [p]) p).toArray := ⟨_, rfl⟩
  rw [dv_A, ← hA] at HF
  have hA10 : A.size = 10 := by rw [hA]; rfl
  have HA := Lib.hid hA
  obtain ⟨m1, hm1⟩ : ∃ m1 : Nat, m1 = m + 1 := ⟨_, rfl⟩
  have hm19 : m1 ≤ 9 := by omega
  rw [← hm1] at HV HG h2 ⊢
  have H2 := Lib.hid h2
  have HM := Lib.hid hm1
  obtain ⟨Z, hZ⟩ : ∃ Z, Z = (dvA (fun _ => false) 0).toArray := ⟨_, rfl⟩
  have hZZ : (#[.bool false, .bool false, .bool false, .bool false, .bool false, .bool false, .bool false, .bool false, .bool false, .int .i64 0] : Array Value) = Z := by rw [hZ]; rfl
  have HZ10 := Lib.hid (show Z.size = 10 by rw [hZ]; rfl)
  clear hA hp hsb hpl hG hm1 h1 h2 hz n1 n2 hpt hZ
  go_enter Try.func24, Try.ntmps24
  go_wp2_with fail
  refine (HP.out _).mono ?_
  rintro e w1 ⟨rfl, x1⟩
  go_wp2_with (first | (go_at_call 52; refine (isLongP_any _ _ _).mono ?_; rintro e w' ⟨rfl, rfl⟩; rw [H2.out]))
  refine (HF.out _).mono ?_
  rintro e w2 ⟨rfl, x2⟩
  obtain ⟨W3, st3, G3, X3, O3⟩ := dv_store (w2.alloc (.cells Z 48)) w2.heap.size _ HZ10.out (heap_alloc_new w2 _) A _ _ HA.out (Ext.refl _ |>.alloc _ : Ext w2 _) (Nat.le_refl _)
  have HG3 := Lib.hid G3
  have c9 : W3.cell? ⟨w2.heap.size, 9, none⟩ = some (.int .i64 (p : Int)) := by
    rw [cell_of_row W3 w2.heap.size 9 _ _ _ G3, HA.out]
    rfl
  have HX3 := Lib.hid ((x1.trans x2).trans X3)
  clear G3 O3 X3
  go_wp2_with fail
  have HR0 := Lib.hid (rowP_new W3 p)
  have HX0 := Lib.hid (show Ext w (W3.alloc (.cells #[.int .i64 (p : Int)] 3)) from HX3.out.alloc _)
  have HGD := Lib.hid (show (W3.alloc (.cells #[.int .i64 (p : Int)] 3)).heap[w2.heap.size]? = some (.cells A 48) from (heap_alloc_old W3 _ (heapLt HG3.out)).trans HG3.out)
  obtain ⟨D, hD⟩ : ∃ D, D = w2.heap.size := ⟨_, rfl⟩
  have HDW := Lib.hid (show w.heap.size ≤ D by have := (x1.trans x2).size; omega)
  have HDB := Lib.hid (show D < W3.heap.size by rw [hD]; exact heapLt HG3.out)
  rw [← hD] at HGD ⊢
  obtain ⟨B, hB⟩ : ∃ B, B = W3.heap.size := ⟨_, rfl⟩
  rw [← hB] at HR0 HDB
  have HBB := Lib.hid hB
  obtain ⟨i0, hi, hz0, hzs, hzb⟩ := info_parts info_intP
  have HI := Lib.hid (show Try.prog.info? 3 = some i0 ∧ i0.zero = some (.int .i64 0) ∧ i0.size = 1 ∧ i0.bytes = 8 from ⟨hi, hz0, hzs, hzb⟩)
  have HG0 := Lib.hid (show Gst [p] p from ⟨fun q hq => by simp at hq; omega, by simp⟩)
  clear hD hB c9 st3 hi hz0 hzs hzb hA10 x1 x2
  go_loopw [7] (fun v wr => ∃ j : Nat, j ≤ m ∧ ∃ ps l, Gst ps l ∧ ps.length = j + 1 ∧ grP (m - j) ps l = grP m [p] p ∧ (∃ V : Array Value, V = (dvA (inD ps) (l : Nat)).toArray ∧ wr.heap[D]? = some (.cells V 48)) ∧ RowP B wr v ps ∧ Ext w wr ∧ B ≤ wr.heap.size) (fun v _ => match v with | .slice _ n _ => m1 - n | _ => 0)
  case atStart => exact ⟨0, Nat.zero_le _, [p], p, HG0.out, rfl, rfl, ⟨A, HA.out, HGD.out⟩, by rw [← HBB.out]; exact HR0.out, HX0.out, by rw [HBB.out]; simp⟩
  case round =>
    obtain ⟨j, hj, ps, l, hgs, hlen, hgr, ⟨V, hV, hGV⟩, hrow, hx, hBw⟩ := hrel
    have HGS := Lib.hid hgs
    have HLEN := Lib.hid hlen
    have HGR := Lib.hid hgr
    have HV1 := Lib.hid hV
    have HGV := Lib.hid hGV
    have HROW := Lib.hid hrow
    have HX := Lib.hid hx
    have HSZ := Lib.hid (szA hV)
    obtain ⟨a, cap, rfl⟩ := hrow.shape
    clear hgs hgr hV hGV hrow hx
    rw [hlen] at HROW ⊢
    clear hlen
    by_cases hlt : j < m
    · have hj1 : ((j + 1 : Nat) : Int) < (m1 : Int) := by have := HM.out; omega
      have hlen9 : ps.length < 9 := by rw [HLEN.out]; have := HM.out; omega
      obtain ⟨f1, f2, f3, f4⟩ := fpP_of HGS.out.1 HGS.out.2 hlen9
      have hl9 := HGS.out.1 l HGS.out.2
      have HNX := Lib.hid (fun w => nexts_any V ps l w HV1.out hl9)
      have HHD := Lib.hid (nx_head f4)
      have HL0 := Lib.hid f4
      have hL9 := nxP_len ps l 9
      have HSTEP := Lib.hid (show grP (m - (j + 1)) (ps ++ [fpP ps l]) (fpP ps l) = grP (m - j) ps l by rw [show m - j = (m - (j + 1)) + 1 by omega]; rfl)
      have HWI := Lib.hid (fun w => dv_with V ps l (fpP ps l) w HV1.out f1)
      have HGN := Lib.hid (HGS.out.next f1)
      obtain ⟨q, hq⟩ : ∃ q, q = fpP ps l := ⟨_, rfl⟩
      rw [← hq] at HHD HSTEP HWI HGN f1
      obtain ⟨L, hL⟩ : ∃ L, L = nxP ps l 9 := ⟨_, rfl⟩
      have HHD2 := Lib.hid (show ∀ h : 0 < L.length, L[0] = q from by subst hL; exact fun _ => HHD.out)
      rw [← hL] at HNX HL0 hL9
      have hL1 : 1 ≤ L.length := HL0.out
      obtain ⟨j1, hj1e⟩ : ∃ j1, j1 = j + 1 := ⟨_, rfl⟩
      rw [← hj1e] at hj1 HLEN HROW ⊢
      have HJ := Lib.hid hj1e
      have hj19 : j1 ≤ 9 := by omega
      clear hq hL f2 f3 f4 hlen9 hj1e HHD
      go_wp2_with (first | (refine wpList_load_row rfl _ _ rfl D rfl 48 V (0, 0) _ HGV.out Try.underlying48 rfl HSZ.out ?_))
      refine (HNX.out _).mono ?_
      rintro e w4 ⟨v, rfl, hv, x4⟩
      have HO := Lib.hid hv
      obtain ⟨a4, cap4, rfl⟩ := hv.shape
      clear hv
      obtain ⟨g4, ha4, _, _, hc4, _⟩ := HO.out.at 0 HL0.out
      rw [HHD2.out HL0.out] at hc4
      subst ha4
      have HROW4 := Lib.hid (HROW.out.ext x4)
      have HGV4 := Lib.hid ((x4.block D (heapLt HGV.out)).trans HGV.out)
      have hL1i : (0 : Int) < (L.length : Int) := by omega
      have hB4 : B ≤ w4.heap.size := Nat.le_trans hBw x4.size
      go_wp2_with (first | (at_builtin; refine wpList_append_own _ rfl _ _ 53 rfl B 3 i0 (.int .i64 0) 1 8 Try.underlying53 HI.out.1 HI.out.2.1 HI.out.2.2.1 HI.out.2.2.2 rfl (by decide) _ j1 (pcs ps) rfl (World.ownsRow.alloc (by have h0 := HROW4.out; unfold RowP at h0; rw [HLEN.out] at h0; exact h0) _) ⟨w4.heap.size, 0, none⟩ 1 1 [.int .i64 (q : Int)] rfl rfl (cell_one_new _ _ _) (oneIP _) (by unfold maxLen; omega) (by omega) (by simp; omega) ?_; intro v' w5 hown' hgr' _; have R5 := Lib.hid (show RowP B w5 v' (ps ++ [q]) from RowP.grown (by rw [HLEN.out]; exact hown')); have BL := Below.grown (Below.refl B (w4.alloc (.cells #[.int .i64 (q : Int)] 3))) hgr' (by simp; omega) (fun k hk => (World.ownsRow.lt HROW4.out k hk).1); have GV5 := Lib.hid ((BL.block D HDB.out).trans ((heap_alloc_old w4 _ (heapLt HGV4.out)).trans HGV4.out)); have X5 := Lib.hid (ext_grown ((HX.out.trans x4).alloc _) hgr' (fun k hk => Nat.le_trans (Nat.le_trans HDW.out (Nat.le_of_lt HDB.out)) (World.ownsRow.lt HROW4.out k hk).1)); have B5 := Lib.hid (show B ≤ w5.heap.size from Nat.le_trans hB4 (by have := BL.size; simp at this; omega)); clear hown' hgr' BL) | (refine wpList_load_row rfl _ _ rfl D rfl 48 V (0, 0) _ GV5.out Try.underlying48 rfl HSZ.out ?_) | (go_at_call 56; refine (HWI.out _).mono ?_; rintro e w6 ⟨V2, rfl, hV2, x6⟩; obtain ⟨W7, st7, G7, X7, O7⟩ := dv_store w6 D V (by rw [HV1.out]; rfl) ((x6.block D (heapLt GV5.out)).trans GV5.out) V2 _ _ hV2 (X5.out.trans x6) HDW.out; have hV210 : V2.size = 10 := (by rw [hV2]; rfl); have HV2 := Lib.hid hV2; clear hV2))
      go_roundw
      case rel =>
        have hszW : w6.heap.size ≤ W7.heap.size := by
          rcases Nat.lt_or_ge W7.heap.size w6.heap.size with h | h
          · have h1 := O7 W7.heap.size (by have h3 := heapLt G7; omega)
            rw [Array.getElem?_eq_none (Nat.le_refl _), Array.getElem?_eq_getElem h] at h1
            cases h1
          · exact h
        refine ⟨j + 1, by omega, ps ++ [q], q, HGN.out, by rw [List.length_append, HLEN.out, HJ.out]; rfl, by rw [HSTEP.out]; exact HGR.out, ⟨V2, HV2.out, G7⟩, ?_, X7, Nat.le_trans B5.out (Nat.le_trans x6.size hszW)⟩
        exact row_same (row_ext R5.out x6) (fun k hk => O7 k (by have := HDB.out; omega))
      case measure =>
        obtain ⟨a5, cap5, hv5⟩ := R5.out.shape
        subst hv5
        simp [HLEN.out]
        omega
    · have hjm : j = m := by omega
      have hjn : ¬ ((j + 1 : Nat) : Int) < (m1 : Int) := by have := HM.out; omega
      have HFIN := Lib.hid (show ps = grP m [p] p by
        have := HGR.out
        rw [hjm, Nat.sub_self] at this
        exact this)
      have hall := HGS.out.1
      have HK12 := Lib.hid (fun x (hx : x ∈ ps) => show x < 12 from Nat.lt_trans (hall x hx) (by decide))
      have HKT := Lib.hid (kT_pT ps hall)
      have HPS := Lib.hid (HROW.out.ps (by rw [HLEN.out]; have := HM.out; unfold maxLen; omega))
      have hlen2 : ps.length ≤ 1000 := by rw [HLEN.out]; have := HM.out; omega
      clear hjm hall
      go_wp2_with fail
      refine (keysAt_any _ ps _ (by have h0 := HPS.out; first | exact h0 | (rw [HLEN.out] at h0; exact h0)) HK12.out hlen2).mono ?_
      rintro e w5 ⟨rfl, x5⟩
      go_wp2
      go_ret2
      exact ⟨ret_sBf (by rw [HV.out, HKT.out, HFIN.out]) HG.out.symm, HX.out.trans x5⟩
end Go.Proofs.Ytmpajijnpoekgaa
