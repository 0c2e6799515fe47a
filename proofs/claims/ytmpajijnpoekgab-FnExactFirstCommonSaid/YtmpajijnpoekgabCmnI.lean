/- The first longest common text of two texts: the program's side. No conditions. -/
import Derived.Test.YtmpajijnpoekgabCmn
namespace Go.Proofs.Ytmpajijnpoekgab
open Go.RowKit

def fcOk (a b : ByteArray) : Bool := isT 20 a && isT 20 b
def fcV (a b : ByteArray) : ByteArray := if fcOk a b then bT (cm a b 0 0) else ⟨#[]⟩
theorem fc_no {a b : ByteArray} (h : fcOk a b = false) : fcV a b = ⟨#[]⟩ := by unfold fcV; rw [h]; rfl
theorem fc_yes {a b : ByteArray} (h : fcOk a b = true) : fcV a b = bT (cm a b 0 0) := by unfold fcV; rw [h]; rfl
theorem ret_sBc {a a' : ByteArray} {b b' : Bool} (h : a = a') (h2 : b = b') : Ending.returned (.tuple #[.string a, .bool b]) = .returned (.tuple #[.string a', .bool b']) := by rw [h, h2]

theorem zeroS : (rowS fun _ => ⟨#[]⟩).toArray = #[.string ⟨#[]⟩, .string ⟨#[]⟩, .string ⟨#[]⟩, .string ⟨#[]⟩, .string ⟨#[]⟩, .string ⟨#[]⟩, .string ⟨#[]⟩, .string ⟨#[]⟩, .string ⟨#[]⟩, .string ⟨#[]⟩, .string ⟨#[]⟩, .string ⟨#[]⟩, .string ⟨#[]⟩, .string ⟨#[]⟩, .string ⟨#[]⟩, .string ⟨#[]⟩, .string ⟨#[]⟩, .string ⟨#[]⟩, .string ⟨#[]⟩, .string ⟨#[]⟩, .string ⟨#[]⟩] := by kernel_rfl
theorem ext_setRow {w wr : World} {R : Nat} (hx : Ext w wr) (hR : w.heap.size ≤ R) (X : Array Value) : Ext w (wr.setRow R X) := ⟨hx.os, hx.tape, hx.output, by simpa [World.setRow] using hx.size, fun k hk => (setRow_other wr R k _ (by omega)).trans (hx.block k hk)⟩
theorem newS (w0 w1 : World) (A : Array Value) (t : Nat → ByteArray) (hA : A = (rowS t).toArray) (hx : Ext w0 w1) : ∃ W, (storeCells ⟨w1.heap.size, 0, none⟩ A.toList).run Try.prog (w1.alloc (.cells #[.string ⟨#[]⟩, .string ⟨#[]⟩, .string ⟨#[]⟩, .string ⟨#[]⟩, .string ⟨#[]⟩, .string ⟨#[]⟩, .string ⟨#[]⟩, .string ⟨#[]⟩, .string ⟨#[]⟩, .string ⟨#[]⟩, .string ⟨#[]⟩, .string ⟨#[]⟩, .string ⟨#[]⟩, .string ⟨#[]⟩, .string ⟨#[]⟩, .string ⟨#[]⟩, .string ⟨#[]⟩, .string ⟨#[]⟩, .string ⟨#[]⟩, .string ⟨#[]⟩, .string ⟨#[]⟩] 82)) = .ok () W ∧ TabS W w1.heap.size t ∧ Ext w0 W ∧ Ext w1 W ∧ ∀ k, k ≠ w1.heap.size → W.heap[k]? = (w1.alloc (.cells #[.string ⟨#[]⟩, .string ⟨#[]⟩, .string ⟨#[]⟩, .string ⟨#[]⟩, .string ⟨#[]⟩, .string ⟨#[]⟩, .string ⟨#[]⟩, .string ⟨#[]⟩, .string ⟨#[]⟩, .string ⟨#[]⟩, .string ⟨#[]⟩, .string ⟨#[]⟩, .string ⟨#[]⟩, .string ⟨#[]⟩, .string ⟨#[]⟩, .string ⟨#[]⟩, .string ⟨#[]⟩, .string ⟨#[]⟩, .string ⟨#[]⟩, .string ⟨#[]⟩, .string ⟨#[]⟩] 82)).heap[k]? := by
  have h0 : (w1.alloc (.cells #[.string ⟨#[]⟩, .string ⟨#[]⟩, .string ⟨#[]⟩, .string ⟨#[]⟩, .string ⟨#[]⟩, .string ⟨#[]⟩, .string ⟨#[]⟩, .string ⟨#[]⟩, .string ⟨#[]⟩, .string ⟨#[]⟩, .string ⟨#[]⟩, .string ⟨#[]⟩, .string ⟨#[]⟩, .string ⟨#[]⟩, .string ⟨#[]⟩, .string ⟨#[]⟩, .string ⟨#[]⟩, .string ⟨#[]⟩, .string ⟨#[]⟩, .string ⟨#[]⟩, .string ⟨#[]⟩] 82)).heap[w1.heap.size]? = some (.cells (rowS fun _ => ⟨#[]⟩).toArray 82) := by rw [zeroS]; exact heap_alloc_new w1 _
  have hst := run_storeCells_at Try.prog w1.heap.size 0 82 (rowS t) 0 (rowS fun _ => ⟨#[]⟩).toArray _ h0 (by rw [List.size_toArray, rowS_len, rowS_len]; decide) (by intro u hu; unfold rowS at hu; obtain ⟨j, _, rfl⟩ := List.mem_map.1 hu; rfl)
  rw [rowS_len, Nat.add_zero, show ((rowS fun _ => ⟨#[]⟩).toArray.toList.take 0 ++ rowS t ++ (rowS fun _ => ⟨#[]⟩).toArray.toList.drop (0 + 21)).toArray = (rowS t).toArray by
    rw [List.take_zero, List.nil_append, List.drop_of_length_le (by rw [List.toList_toArray, rowS_len]; decide), List.append_nil]] at hst
  exact ⟨_, by rw [hA, List.toList_toArray]; exact hst, setRow_heap _ _ _ _ _ _ h0, ext_setRow (hx.alloc _) hx.size _, ext_setRow ((Ext.refl w1).alloc _) (Nat.le_refl _) _, fun k hk => setRow_other _ _ k _ hk⟩

theorem TabS.other {w : World} {C : Nat} {t : Nat → ByteArray} (h : TabS w C t) (p : Addr) (v : Value) (hne : C ≠ p.block) : TabS (w.setCell p v) C t := (heap_setCell_other w p C _ hne).trans h
theorem ext_one (a : ByteArray) (i : Nat) (h : i < a.size) : a.extract i (i + 1) = bT [sg a i] := by
  rw [← sg_at a i h]
  apply ByteArray.ext
  apply Array.ext
  · simp [bT]; omega
  · intro k h1 h2
    have hk : k = 0 := by simp [bT] at h2; omega
    subst hk
    simp [bT]
    rfl
theorem bT_cons (x : UInt8) (l : List UInt8) : bT [x] ++ bT l = bT (x :: l) := by
  apply ByteArray.ext
  simp [bT]

set_option maxRecDepth 100000 in
set_option maxHeartbeats 4000000 in
theorem fcI_any (a b : ByteArray) (w : World) (ha : a.size ≤ maxLen) (hb : b.size ≤ maxLen) : Calls Try.prog 38 #[.string a, .string b] w fun e w' => e = .returned (.tuple #[.string (fcV a b), .bool (fcOk a b)]) ∧ Ext w w' := by
  cases h : (isT 20 a && isT 20 b)
  · have HO := Lib.hid (show fcOk a b = false from h)
    have HV := Lib.hid (fc_no HO.out)
    go_enter Try.func38, Try.ntmps38
    go_wp2_with (go_at_call 74; refine (areTyped_any _ _ _ ha hb).mono ?_; rintro e w1 ⟨rfl, x1⟩; rw [h])
    go_ret2
    exact ⟨ret_sBc HV.out.symm HO.out.symm, x1⟩
  have HO := Lib.hid (show fcOk a b = true from h)
  have HV := Lib.hid (fc_yes HO.out)
  have hz1 : a.size ≤ 20 := by rw [Bool.and_eq_true] at h; exact isT_size h.1
  have hz2 : b.size ≤ 20 := by rw [Bool.and_eq_true] at h; exact isT_size h.2
  have HH := Lib.hid h
  clear h
  have HA := Lib.hid (fun w => areTyped_any a b w ha hb)
  rw [HH.out] at HA
  have Wa : IntKind.i64.wrap ((a.size : Int) - 1) = (a.size : Int) - 1 := by simp only [IntKind.wrap_i64]; omega
  go_enter Try.func38, Try.ntmps38
  go_wp2_with (go_at_call 74; refine (HA.out _).mono ?_; rintro e w1 ⟨rfl, x1⟩)
  have T0 := Lib.hid (show TabS (w1.alloc (.cells (rowS fun _ => ⟨#[]⟩).toArray 82)) w1.heap.size (fun _ => ⟨#[]⟩) from heap_alloc_new w1 _)
  rw [zeroS] at T0
  have X0 := Lib.hid (fun o => x1.alloc o)
  have hR := x1.size
  obtain ⟨R, hRR⟩ : ∃ R, R = w1.heap.size := ⟨_, rfl⟩
  rw [← hRR] at T0 hR ⊢
  clear hRR
  go_loopw [7] (fun q wr => ∃ (I : Nat) (x : Int), I ≤ a.size ∧ q = .int .i64 x ∧ x = (I : Int) - 1 ∧ TabS wr R (fun r => bT (cm a b I r)) ∧ Ext w wr) (fun q _ => (intOf q + 1).toNat)
  case atStart => exact ⟨a.size, _, Nat.le_refl _, rfl, by first | rfl | omega, T0.out.congr (fun r _ => by rw [cm_endA a b _ r (Nat.le_refl _)]; rfl), X0.out _⟩
  case round =>
    obtain ⟨I, x, hI, rfl, hxI, hT, hx⟩ := hrel
    have HT := Lib.hid hT
    clear hT
    by_cases h0 : 0 ≤ x
    · obtain ⟨i, rfl⟩ : ∃ i : Nat, x = (i : Int) := Int.eq_ofNat_of_zero_le h0
      obtain rfl : I = i + 1 := by omega
      have hia : i < a.size := by omega
      have hiI : (i : Int) < (a.size : Int) := by omega
      obtain ⟨VA, hVA⟩ : ∃ VA, VA = (rowS (fun r => bT (cm a b (i + 1) r))).toArray := ⟨_, rfl⟩
      have HVA := Lib.hid hVA
      have hVAs : VA.size = 21 := by rw [hVA, List.size_toArray, rowS_len]
      obtain ⟨W, st, TB, XW, XW2, KW⟩ := newS w wr VA _ hVA hx
      have GR := Lib.hid (show wr.heap[R]? = some (.cells VA 82) by rw [hVA]; exact HT.out)
      have HNV := Lib.hid (show (Try.prog.info? 82).map (·.size) = some VA.size by rw [hVAs]; kernel_rfl)
      have TR := Lib.hid (HT.out.ext XW2)
      have HTB := Lib.hid TB
      clear hVA TB KW hxI hI h0
      go_wp2_with (refine wpList_load_row rfl _ _ rfl R rfl 82 VA (0, 0) _ GR.out Try.underlying82 rfl HNV.out ?_)
      have hRB : R < wr.heap.size := HT.out.lt
      have hBW := HTB.out.lt
      obtain ⟨Bk, hBk⟩ : ∃ Bk, Bk = wr.heap.size := ⟨_, rfl⟩
      rw [← hBk] at hRB hBW HTB ⊢
      clear hBk GR st XW2 hVAs
      go_loopw [9] (fun q wz => ∃ (J : Nat) (y : Int), J ≤ b.size ∧ q = .int .i64 y ∧ y = (J : Int) - 1 ∧ TabS wz R (fun r => if J ≤ r then bT (cm a b i r) else bT (cm a b (i + 1) r)) ∧ TabS wz Bk (fun r => bT (cm a b (i + 1) r)) ∧ Ext w wz) (fun q _ => (intOf q + 1).toNat)
      case atStart => exact ⟨b.size, _, Nat.le_refl _, rfl, by first | rfl | omega, TR.out.congr (fun r _ => by
        by_cases e : b.size ≤ r
        · rw [if_pos e, cm_endB a b _ r e, cm_endB a b _ r e]
        · rw [if_neg e]), HTB.out, XW⟩
      case round =>
        obtain ⟨J, y, hJ, rfl, hyJ, hT1, hT2, hx2⟩ := hrel
        have HT1 := Lib.hid hT1
        have HT2 := Lib.hid hT2
        clear hT1 hT2
        by_cases h1 : 0 ≤ y
        · obtain ⟨j, rfl⟩ : ∃ j : Nat, y = (j : Int) := Int.eq_ofNat_of_zero_le h1
          obtain rfl : J = j + 1 := by omega
          have hjb : j < b.size := by omega
          have hj21 : (j : Int) < 21 := by omega
          have cB := HT2.out.at j (by omega)
          have cR := HT1.out.at (j + 1) (by omega)
          rw [if_pos (Nat.le_refl _)] at cR
          have cRj := HT1.out.at j (by omega)
          have fRj := HT1.out.fr j
          have HL := Lib.hid (fun (e : sg a i ≠ sg b j) => cm_other hia hjb e)
          have HS := Lib.hid (fun (e : sg a i = sg b j) => cm_same hia hjb e)
          have l1 := cm_len a b (i + 1) j
          have l2 := cm_len a b i (j + 1)
          have HFL := Lib.hid (fun w => firstLonger_any (cm a b (i + 1) j) (cm a b i (j + 1)) w (by omega) (by omega))
          have HSET := Lib.hid (fun (wz : World) (hz : Ext wr wz) (v : ByteArray) (hv : v = bT (cm a b i j)) => show TabS (wz.setCell ⟨R, j, none⟩ (.string v)) R (fun r => if j ≤ r then bT (cm a b i r) else bT (cm a b (i + 1) r)) ∧ TabS (wz.setCell ⟨R, j, none⟩ (.string v)) Bk (fun r => bT (cm a b (i + 1) r)) ∧ Ext w (wz.setCell ⟨R, j, none⟩ (.string v)) from ⟨((HT1.out.ext hz).set j v).congr (fun r _ => by
              by_cases e1 : r = j
              · rw [if_pos e1, if_pos (by omega), hv, e1]
              · rw [if_neg e1]
                by_cases e2 : j ≤ r
                · rw [if_pos e2, if_pos (by omega)]
                · rw [if_neg e2, if_neg (by omega)]), (heap_setCell_other wz ⟨R, j, none⟩ Bk _ (by show Bk ≠ R; omega)).trans (HT2.out.ext hz), (hx2.trans hz).setCell hR _⟩)
          have ii : ∀ w, (Instr.index 9 (.string a) (.int .i64 (i : Int))).run Try.prog w = .ok (.int .u8 ((sg a i).toNat : Int)) w := fun w => ixB a i hia w
          have ij : ∀ w, (Instr.index 9 (.string b) (.int .i64 (j : Int))).run Try.prog w = .ok (.int .u8 ((sg b j).toNat : Int)) w := fun w => ixB b j hjb w
          obtain ⟨j1, hj1⟩ : ∃ j1, j1 = j + 1 := ⟨_, rfl⟩
          rw [← hj1] at cR HFL
          have Wj : IntKind.i64.wrap ((j : Int) + 1) = (j1 : Int) := by simp only [IntKind.wrap_i64]; omega
          have Wj1 : IntKind.i64.wrap (j1 : Int) = (j1 : Int) := by simp only [IntKind.wrap_i64]; omega
          have Cj : (j : Int) + 1 = (j1 : Int) := by omega
          have hj1i : (j1 : Int) < 21 := by omega
          obtain ⟨X, hX⟩ : ∃ X, X = bT (bet (cm a b (i + 1) j) (cm a b i j1)) := ⟨_, rfl⟩
          rw [← hX] at HFL
          have HX := Lib.hid hX
          obtain ⟨P, hP⟩ : ∃ P, P = bT (cm a b (i + 1) j) := ⟨_, rfl⟩
          rw [← hP] at cB HFL
          obtain ⟨Q, hQ⟩ : ∃ Q, Q = bT (cm a b i j1) := ⟨_, rfl⟩
          rw [← hQ] at cR HFL
          obtain ⟨Z, hZ⟩ : ∃ Z, Z = (if j + 1 ≤ j then bT (cm a b i j) else bT (cm a b (i + 1) j)) := ⟨_, rfl⟩
          rw [← hZ] at cRj
          have HJ1 := Lib.hid hj1
          clear hX hP hQ hZ hj1 hyJ hJ h1 l1 l2
          obtain ⟨V0, hV0⟩ : ∃ V0, V0 = bT (cm a b i j) := ⟨_, rfl⟩
          rw [← hV0] at HSET
          have HV0 := Lib.hid hV0
          clear hV0
          by_cases he : sg a i = sg b j
          · have hei : ((sg a i).toNat : Int) = ((sg b j).toNat : Int) := by rw [he]
            have heb : (((sg a i).toNat : Int) == ((sg b j).toNat : Int)) = true := beq_iff_eq.2 hei
            have HEQ := Lib.hid (show a.extract i (i + 1) ++ bT (cm a b (i + 1) (j + 1)) = V0 by rw [HV0.out, HS.out he, ext_one a i hia]; exact bT_cons _ _)
            have TB1 := (HSET.out wr (Ext.refl _) V0 rfl).2.1
            have cD : (wr.setCell ⟨R, j, none⟩ (.string X)).cell? ⟨Bk, j1, none⟩ = some (.string (bT (cm a b (i + 1) (j + 1)))) := by
              rw [HJ1.out]
              exact (HT2.out.other ⟨R, j, none⟩ (.string X) (by show Bk ≠ R; omega)).at (j + 1) (by omega)
            have TX := HT1.out.set j X
            have cX := TX.at j (by omega)
            rw [if_pos rfl] at cX
            have fX := TX.fr j
            have HSE2 := Lib.hid (fun (wz : World) (hz : Ext (wr.setCell ⟨R, j, none⟩ (.string X)) wz) => show TabS (wz.setCell ⟨R, j, none⟩ (.string V0)) R (fun r => if j ≤ r then bT (cm a b i r) else bT (cm a b (i + 1) r)) ∧ TabS (wz.setCell ⟨R, j, none⟩ (.string V0)) Bk (fun r => bT (cm a b (i + 1) r)) ∧ Ext w (wz.setCell ⟨R, j, none⟩ (.string V0)) from ⟨((TX.ext hz).set j V0).congr (fun r _ => by
                by_cases e1 : r = j
                · rw [if_pos e1, if_pos (by omega), HV0.out, e1]
                · rw [if_neg e1, if_neg e1]
                  by_cases e2 : j ≤ r
                  · rw [if_pos e2, if_pos (by omega)]
                  · rw [if_neg e2, if_neg (by omega)]), (heap_setCell_other wz ⟨R, j, none⟩ Bk _ (by show Bk ≠ R; omega)).trans ((HT2.out.other ⟨R, j, none⟩ (.string X) (by show Bk ≠ R; omega)).ext hz), (((hx2.setCell (p := ⟨R, j, none⟩) hR (.string X))).trans hz).setCell hR _⟩)
            have hzE : (a.extract i (i + 1)).size ≤ 20 := by rw [ext_one a i hia, bT_size]; show 1 ≤ 20; omega
            have hzD : (bT (cm a b (i + 1) (j + 1))).size ≤ 20 := by rw [bT_size]; have := cm_len a b (i + 1) (j + 1); omega
            obtain ⟨i1, hi1⟩ : ∃ i1, i1 = i + 1 := ⟨_, rfl⟩
            have hsl : ∀ w, (Instr.slice 9 (.string a) (some (.int .i64 (i : Int))) (some (.int .i64 (i1 : Int))) none).run Try.prog w = .ok (.string (a.extract i (i + 1))) w := fun w => by rw [hi1]; exact slB a i (i + 1) (by omega) (by omega) w
            have Wi : IntKind.i64.wrap ((i : Int) + 1) = (i1 : Int) := by simp only [IntKind.wrap_i64]; omega
            have Wi1 : IntKind.i64.wrap (i1 : Int) = (i1 : Int) := by simp only [IntKind.wrap_i64]; omega
            have Ci : (i : Int) + 1 = (i1 : Int) := by omega
            obtain ⟨E, hE⟩ : ∃ E, E = a.extract i (i + 1) := ⟨_, rfl⟩
            rw [← hE] at HEQ hzE hsl
            obtain ⟨D, hD⟩ : ∃ D, D = bT (cm a b (i + 1) (j + 1)) := ⟨_, rfl⟩
            rw [← hD] at HEQ hzD cD
            have hsum : ¬ 9223372036854775807 < E.size + D.size := by omega
            clear hi1 hE hD TB1 TX he
            go_wp2
            go_region_with (go_at_call 78; refine (HFL.out _).mono ?_; rintro e w' ⟨rfl, rfl⟩)
            all_goals go_wp2
            all_goals go_quiet (fail)
            all_goals go_wp2
            all_goals go_region
            all_goals go_wp2
            all_goals exact ⟨⟨j, _, by omega, rfl, by omega, by rw [HEQ.out]; exact (HSE2.out _ (ext_drewN (Ext.refl _) _)).1, by rw [HEQ.out]; exact (HSE2.out _ (ext_drewN (Ext.refl _) _)).2.1, by rw [HEQ.out]; exact (HSE2.out _ (ext_drewN (Ext.refl _) _)).2.2⟩, by simp [intOf] <;> omega⟩
          · have hei : ¬ ((sg a i).toNat : Int) = ((sg b j).toNat : Int) := fun h => he (UInt8.toNat_inj.1 (by omega))
            have heb : (((sg a i).toNat : Int) == ((sg b j).toNat : Int)) = false := beq_eq_false_iff_ne.2 hei
            have HSE := Lib.hid (HSET.out wr (Ext.refl _) X (by rw [HX.out, HV0.out, HL.out he, HJ1.out]))
            clear he
            go_wp2
            go_region_with (go_at_call 78; refine (HFL.out _).mono ?_; rintro e w' ⟨rfl, rfl⟩)
            all_goals go_wp2
            all_goals go_quiet (fail)
            all_goals go_wp2
            all_goals go_roundw
            all_goals first | exact ⟨j, _, by omega, rfl, by omega, HSE.out.1.ext (ext_drewN (Ext.refl _) _), HSE.out.2.1.ext (ext_drewN (Ext.refl _) _), ext_drewN HSE.out.2.2 _⟩ | (simp [intOf] <;> omega)
        · obtain rfl : J = 0 := by omega
          have HT3 := Lib.hid (HT1.out.congr (t' := fun r => bT (cm a b i r)) (fun r _ => if_pos (Nat.zero_le _)))
          go_wp2
          go_roundw
          case rel => exact ⟨i, _, by omega, rfl, by omega, HT3.out, by first | exact hx2 | exact ext_drewN hx2 _⟩
          case measure => simp [intOf] <;> omega
    · obtain rfl : I = 0 := by omega
      have c0 := HT.out.at 0 (by omega)
      have HFE := Lib.hid (show bT (cm a b 0 0) = fcV a b from HV.out.symm)
      rw [HFE.out] at c0
      go_wp2
      go_ret2
      exact ⟨ret_sBc rfl HO.out.symm, by first | exact hx | exact ext_drewN hx _⟩
end Go.Proofs.Ytmpajijnpoekgab
