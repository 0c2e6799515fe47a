/- Patterns that are drawn, and the points that come next: the program's. No conditions. -/
import Derived.Test.YtmpajijnpoekgaaPatW
import Derived.Test.YtmpajijnpoekgaaGrow
import Derived.Test.YtmpajijnpoekgaaCell2
import Derived.Deep.RegionHeld3
namespace Go.Proofs.Ytmpajijnpoekgaa
open Go.RowKit

theorem place9_any (b : UInt8) (w : World) (h1 : 49 ≤ b.toNat) (h2 : b.toNat ≤ 57) : Calls Try.prog 88 #[.string ⟨#[b]⟩] w fun e w' => e = .returned (.int .i64 (pn b : Nat)) ∧ w = w' := placeB_any b w (pn_at h1 h2).1
theorem pn_9 {b : UInt8} (h1 : 49 ≤ b.toNat) (h2 : b.toNat ≤ 57) : pn b < 9 := by rw [(pn_at h1 h2).2]; omega
def dvA (d : Nat → Bool) (l : Int) : List Value := [.bool (d 0), .bool (d 1), .bool (d 2), .bool (d 3), .bool (d 4), .bool (d 5), .bool (d 6), .bool (d 7), .bool (d 8), .int .i64 l]
theorem dv_A (d : Nat → Bool) (l : Nat) : dv d l = .agg (dvA d l).toArray := rfl
theorem dvA_len (d : Nat → Bool) (l : Int) : (dvA d l).length = 10 := rfl
theorem dvA_one (d : Nat → Bool) (l : Int) : ∀ u ∈ dvA d l, u.oneCell' = true := by
  intro u hu
  unfold dvA at hu
  simp at hu
  rcases hu with rfl | rfl | rfl | rfl | rfl | rfl | rfl | rfl | rfl | rfl <;> rfl
theorem szA {A : Array Value} {d : Nat → Bool} {l : Int} (h : A = (dvA d l).toArray) : (Try.prog.info? 48).map (·.size) = some A.size := sz10 A (by rw [h]; rfl)
theorem dv_store (wr : World) (R : Nat) (B : Array Value) (hlen : B.size = 10) (hB : wr.heap[R]? = some (.cells B 48)) (A : Array Value) (d : Nat → Bool) (l : Int) (hA : A = (dvA d l).toArray) {w : World} (hx : Ext w wr) (hR : w.heap.size ≤ R) : ∃ W4, (storeCells ⟨R, 0, none⟩ A.toList).run Try.prog wr = .ok () W4 ∧ W4.heap[R]? = some (.cells A 48) ∧ Ext w W4 ∧ ∀ k, k ≠ R → W4.heap[k]? = wr.heap[k]? := by
  subst hA
  have hst := run_storeCells_at Try.prog R 0 48 (dvA d l) 0 B wr hB (by rw [dvA_len, hlen]; decide) (dvA_one d l)
  rw [dvA_len, Nat.add_zero, show (B.toList.take 0 ++ dvA d l ++ B.toList.drop (0 + 10)).toArray = (dvA d l).toArray by
    rw [List.take_zero, List.nil_append, List.drop_of_length_le (by simp; omega), List.append_nil]] at hst
  exact ⟨_, hst, setRow_heap _ _ _ _ _ _ hB, ⟨hx.os, hx.tape, hx.output, by simpa [World.setRow] using hx.size, fun k hk => (setRow_other wr R k _ (by omega)).trans (hx.block k hk)⟩, fun k hk => setRow_other wr R k _ hk⟩
theorem row_same {w w' : World} {B : Nat} {e : TypeId} {size : Nat} {v : Value} {n : Nat} {xs : List Value} (h : w.ownsRow B e size v n xs) (hs : ∀ k, B ≤ k → w'.heap[k]? = w.heap[k]?) : w'.ownsRow B e size v n xs :=
  ⟨h.1, h.2.imp id fun ⟨g, cap, cur, h1, h2, h3, h4⟩ => ⟨g, cap, cur, h1, h2, (hs g h2).trans h3, h4⟩⟩
theorem old_block {w w2 : World} {o : Obj} (x2 : Ext (w.alloc o) w2) : w2.heap[w.heap.size]? = some o := (x2.block w.heap.size (by simp)).trans (heap_alloc_new w o)

set_option maxHeartbeats 1000000 in
theorem dfrom_any (b : UInt8) (w : World) (h1 : 49 ≤ b.toNat) (h2 : b.toNat ≤ 57) : Calls Try.prog 53 #[.string ⟨#[b]⟩] w fun e w' => e = .returned (dv (inD [pn b]) (pn b)) ∧ Ext w w' := by
  have hp := pn_9 h1 h2
  have HP := Lib.hid (fun w => place9_any b w h1 h2)
  have HW := Lib.hid (fun w => (show Calls Try.prog 56 #[.agg #[.bool false, .bool false, .bool false, .bool false, .bool false, .bool false, .bool false, .bool false, .bool false, .int .i64 0], .int .i64 (pn b : Nat)] w fun e w' => e = .returned (dv (inD [pn b]) (pn b)) ∧ Ext w w' from by rw [← wiD_none]; exact with_any (fun _ => false) 0 (pn b) w hp))
  obtain ⟨p, hpe⟩ : ∃ p, p = pn b := ⟨_, rfl⟩
  rw [← hpe] at HP HW ⊢
  obtain ⟨A, hA⟩ : ∃ A, A = (dvA (inD [p]) p).toArray := ⟨_, rfl⟩
  rw [dv_A, ← hA] at HW ⊢
  have HA := Lib.hid hA
  have HZ := Lib.hid (szA hA)
  have hA10 : A.size = 10 := by rw [hA]; rfl
  clear hpe hA hp
  go_enter Try.func53, Try.ntmps53
  go_wp2_with (first | (go_at_call 88; refine (HP.out _).mono ?_; rintro e w' ⟨rfl, rfl⟩) | (go_at_call 56; refine (HW.out _).mono ?_; rintro e w2 ⟨rfl, x2⟩; obtain ⟨W3, st3, G3, X3, _⟩ := dv_store w2 w.heap.size _ (by rfl) (old_block x2) A _ _ HA.out (((Ext.refl w).alloc _).trans x2) (Nat.le_refl _)))
  exact bodyPost_ret (results_cell_row (P := Try.prog) (p := 2) (ty := 48) rfl _ _ w.heap.size 48 A (0, 0) _ rfl G3 Try.underlying48 rfl HZ.out) rfl ⟨rfl, X3⟩

/-! ### Patterns that are drawn -/
def laP (ps : List Nat) : Nat := ps.getD (ps.length - 1) 0
def doV (ps : List Nat) : List Value := if drwP ps then dvA (inD ps) (laP ps) else dvA (fun _ => false) 0
theorem doV_no {ps : List Nat} (h : drwP ps = false) : doV ps = dvA (fun _ => false) 0 := by unfold doV; rw [h]; rfl
theorem doV_yes {ps : List Nat} (h : drwP ps = true) : doV ps = dvA (inD ps) (laP ps) := by unfold doV; rw [h]; rfl
theorem drwP_no {ps : List Nat} {k : Nat} (h : dwP ps k = false) (hk : k ≤ ps.length - 1) : drwP ps = false := dwP_no h _ hk
theorem plcs_from (s : ByteArray) (k : Nat) : plcs (s.extract k s.size) = (plcs s).drop k := by
  unfold plcs
  have e : (s.extract k s.size).data.toList = s.data.toList.drop k := by
    rw [ByteArray.data_extract]
    simp
    exact List.take_of_length_le (by rw [List.length_drop]; simp)
  rw [e, List.map_drop]
theorem getD_get {ps : List Nat} {k : Nat} (h : k < ps.length) : ps.getD k 0 = ps[k] := by
  rw [List.getD_eq_getElem?_getD, List.getElem?_eq_getElem h]; rfl
theorem slF (s : ByteArray) (i : Nat) (h1 : i ≤ s.size) (w : World) : (Instr.slice 9 (.string s) (some (.int .i64 (i : Int))) none none).run Try.prog w = .ok (.string (s.extract i s.size)) w := by
  have a1 : (0 : Int) ≤ (i : Int) := by omega
  have a2 : (i : Int) ≤ (s.size : Int) := by omega
  simp [go_sem, h1]
theorem slT (s : ByteArray) (i : Nat) (h1 : i ≤ s.size) (w : World) : (Instr.slice 9 (.string s) none (some (.int .i64 (i : Int))) none).run Try.prog w = .ok (.string (s.extract 0 i)) w := by
  have a1 : (0 : Int) ≤ (i : Int) := by omega
  have a2 : (i : Int) ≤ (s.size : Int) := by omega
  simp [go_sem, h1]
theorem dv_canGo (V : Array Value) (d : Nat → Bool) (l p : Nat) (w : World) (hV : V = (dvA d l).toArray) (hl : l < 9) (hp : p < 9) : Calls Try.prog 83 #[.agg V, .int .i64 p] w fun e w' => e = .returned (.bool (goD d l p)) ∧ Ext w w' := by
  subst hV
  exact cango_any d l p w hl hp
theorem dv_with (V : Array Value) (ps : List Nat) (l p : Nat) (w : World) (hV : V = (dvA (inD ps) l).toArray) (hp : p < 9) : Calls Try.prog 56 #[.agg V, .int .i64 p] w fun e w' => ∃ V', e = .returned (.agg V') ∧ V' = (dvA (inD (ps ++ [p])) p).toArray ∧ Ext w w' := by
  subst hV
  refine (with_any (inD ps) l p w hp).mono fun e w' h => ⟨_, h.1, ?_, h.2⟩
  rw [wiD_in]
  rfl

set_option maxHeartbeats 2000000 in
theorem dof_any (s : ByteArray) (w : World) (h : isPt s = true) : Calls Try.prog 45 #[.string s] w fun e w' => e = .returned (.tuple #[.agg (doV (plcs s)).toArray, .bool (drwP (plcs s))]) ∧ Ext w w' := by
  have hz := isPt_size h
  have hb0 := isPt_at h 0 (by omega)
  have hlt := isPt_lt h
  have HL := Lib.hid (plcs_len s)
  have HLT := Lib.hid hlt
  have e0 : s.extract 0 1 = ⟨#[s[0]'(by omega)]⟩ := ext1 s 0 (by omega)
  have hs1 : ∀ w, (Instr.slice 9 (.string s) none (some (.int .i64 1)) none).run Try.prog w = .ok (.string ⟨#[s[0]'(by omega)]⟩) w := fun w => by
    rw [← e0]
    exact slT s 1 (by omega) w
  have hs2 : ∀ w, (Instr.slice 9 (.string s) (some (.int .i64 1)) none none).run Try.prog w = .ok (.string (s.extract 1 s.size)) w := fun w => slF s 1 (by omega) w
  have hp0 : pn (s[0]'(by omega)) = (plcs s).getD 0 0 := by rw [getD_get (by rw [plcs_len]; omega), plcs_at]
  have HF := Lib.hid (fun w => dfrom_any (s[0]'(by omega)) w hb0.1 hb0.2.1)
  obtain ⟨b, hb⟩ : ∃ b, b = s[0]'(by omega) := ⟨_, rfl⟩
  rw [← hb] at hs1 HF hp0
  have HPO := Lib.hid (fun w => (show Calls Try.prog 82 #[.string (s.extract 1 s.size)] w fun e w' => OwnP w w' e ((plcs s).drop 1) from by
    rw [← plcs_from]
    refine placesOf_all _ w (fun i hi => ?_) (by rw [ByteArray.size_extract]; omega)
    have hz2 : (s.extract 1 s.size).size = s.size - 1 := by rw [ByteArray.size_extract]; omega
    have hi2 : 1 + i < s.size := by omega
    have e3 : (s.extract 1 s.size)[i] = s[1 + i] := by
      show (s.extract 1 s.size).data[i]'_ = s.data[1 + i]'_
      have hd : (s.extract 1 s.size).data = s.data.extract 1 s.size := ByteArray.data_extract
      simp only [hd, Array.getElem_extract]
    rw [e3]
    exact isPt_all h (1 + i) hi2))
  obtain ⟨ps, hps⟩ : ∃ ps, ps = plcs s := ⟨_, rfl⟩
  rw [← hps] at HPO HL HLT hp0 ⊢
  have hl1 : 1 ≤ ps.length := by rw [HL.out]; exact hz.1
  have hl9 : ps.length ≤ 9 := by rw [HL.out]; exact hz.2
  have HE0 := Lib.hid (show [pn b] = ps.take 1 by
    rw [hp0]
    cases ps with
    | nil => simp at hl1
    | cons x l => rfl)
  have HP0 := Lib.hid hp0
  obtain ⟨Z, hZ⟩ : ∃ Z, Z = (dvA (fun _ => false) 0).toArray := ⟨_, rfl⟩
  have hZZ : (#[.bool false, .bool false, .bool false, .bool false, .bool false, .bool false, .bool false, .bool false, .bool false, .int .i64 0] : Array Value) = Z := by rw [hZ]; rfl
  have HZE := Lib.hid hZ
  have HZ10 := Lib.hid (show Z.size = 10 by rw [hZ]; rfl)
  clear e0 hps hb hb0 hlt hp0 h hZ
  go_enter Try.func45, Try.ntmps45
  go_wp2_with fail
  refine (HF.out _).mono ?_
  rintro e w1 ⟨rfl, x1⟩
  obtain ⟨A, hA⟩ : ∃ A, A = (dvA (inD [pn b]) (pn b)).toArray := ⟨_, rfl⟩
  rw [dv_A, ← hA]
  have hA10 : A.size = 10 := by rw [hA]; rfl
  obtain ⟨W3, st3, G3, X3, O3⟩ := dv_store (w1.alloc (.cells Z 48)) w1.heap.size _ HZ10.out (heap_alloc_new w1 _) A _ _ hA (Ext.refl _ |>.alloc _ : Ext w1 _) (Nat.le_refl _)
  have HA := Lib.hid hA
  have HG3 := Lib.hid G3
  have HX3 := Lib.hid (x1.trans X3)
  clear hA O3 G3 X3
  go_wp2_with fail
  refine (HPO.out _).mono ?_
  rintro e w2 ⟨v, rfl, hv, x2⟩
  have HO := Lib.hid hv
  obtain ⟨a, cap, rfl⟩ := hv.shape
  have HDL := Lib.hid (show (ps.drop 1).length = ps.length - 1 from List.length_drop)
  clear hv
  obtain ⟨D, hD⟩ : ∃ D, D = w1.heap.size := ⟨_, rfl⟩
  rw [← hD] at HG3 st3 ⊢
  obtain ⟨B, hB⟩ : ∃ B, B = W3.heap.size := ⟨_, rfl⟩
  rw [← hB] at HO
  have HDB := Lib.hid (show D < B by have := heapLt HG3.out; omega)
  have HRD := Lib.hid (show w.heap.size < D by have := x1.size; simp at this; omega)
  have HGD := Lib.hid ((x2.block D (heapLt HG3.out)).trans HG3.out)
  have HG0 := Lib.hid (old_block (HX3.out.trans x2))
  have X12 := Lib.hid (show Ext w w2 from ((Ext.refl w).alloc _).trans (HX3.out.trans x2))
  obtain ⟨n, hn⟩ : ∃ n, n = ps.length - 1 := ⟨_, rfl⟩
  have HNN := Lib.hid (show (ps.drop 1).length = n by rw [HDL.out, hn])
  have HN1 := Lib.hid (show ps.length = n + 1 by omega)
  have hn8 : n ≤ 8 := by omega
  have HV0 := Lib.hid (show A = (dvA (inD (ps.take (0 + 1))) (ps.getD 0 0 : Nat)).toArray by rw [HA.out, HE0.out, HP0.out])
  rw [HNN.out]
  clear hn hD hB st3 x1 x2 hA10
  go_wp2
  obtain ⟨R0, hR0⟩ : ∃ R0, R0 = w.heap.size := ⟨_, rfl⟩
  rw [← hR0] at HRD HG0 ⊢
  have HR0 := Lib.hid hR0
  clear hR0
  go_loopw [14] (fun q wr => ∃ k : Nat, k ≤ n ∧ q = .int .i64 (k : Int) ∧ dwP ps k = true ∧ (∃ V : Array Value, V = (dvA (inD (ps.take (k + 1))) (ps.getD k 0 : Nat)).toArray ∧ wr.heap[D]? = some (.cells V 48)) ∧ RowP B wr (.slice a n cap) (ps.drop 1) ∧ wr.heap[R0]? = some (.cells Z 48) ∧ Ext w wr) (fun q _ => n - (intOf q).toNat)
  case atStart => exact ⟨0, Nat.zero_le _, rfl, rfl, ⟨A, HV0.out, HGD.out⟩, by rw [← HNN.out]; exact HO.out, by first | exact HG0.out | (rw [← hZZ]; exact HG0.out), X12.out⟩
  case round =>
    obtain ⟨k, hk, rfl, hdw, ⟨V, hV, hGV⟩, hrow, hGR, hx⟩ := hrel
    have HDW := Lib.hid hdw
    have HV := Lib.hid hV
    have HGV := Lib.hid hGV
    have HROW := Lib.hid hrow
    have HGR := Lib.hid hGR
    have HX := Lib.hid hx
    have HSZ := Lib.hid (szA hV)
    clear hdw hV hGV hrow hGR hx
    by_cases hlt : k < n
    · have hki : (k : Int) < (n : Int) := by omega
      have hrow2 := HROW.out
      rw [← HNN.out] at hrow2
      obtain ⟨g, ha, hB, hg, hc, _⟩ := hrow2.at k (by rw [HNN.out]; exact hlt)
      have e1 : (ps.drop 1)[k]'(by rw [HNN.out]; exact hlt) = ps.getD (k + 1) 0 := by
        rw [List.getElem_drop, getD_get (by rw [HN1.out]; omega)]
        congr 1
        omega
      rw [e1] at hc
      have hp9 : ps.getD (k + 1) 0 < 9 := by
        rw [getD_get (by rw [HN1.out]; omega)]
        exact HLT.out _ (List.getElem_mem _)
      have hl9' : ps.getD k 0 < 9 := by
        rw [getD_get (by rw [HN1.out]; omega)]
        exact HLT.out _ (List.getElem_mem _)
      have HTK := Lib.hid (show ps.take (k + 1) ++ [ps.getD (k + 1) 0] = ps.take (k + 1 + 1) by
        rw [List.take_succ_eq_append_getElem (show k + 1 < ps.length by rw [HN1.out]; omega), getD_get (by rw [HN1.out]; omega)])
      have HY := Lib.hid (fun h => dwP_yes (ps := ps) HDW.out h)
      have HN := Lib.hid (fun h => drwP_no (ps := ps) (k := k + 1) (dwP_bad h) (by rw [HN1.out]; omega))
      have HCG := Lib.hid (fun w => dv_canGo V (inD (ps.take (k + 1))) (ps.getD k 0) (ps.getD (k + 1) 0) w HV.out hl9' hp9)
      have HWI := Lib.hid (fun w => dv_with V (ps.take (k + 1)) (ps.getD k 0) (ps.getD (k + 1) 0) w HV.out hp9)
      rw [HTK.out] at HWI
      obtain ⟨p, hp⟩ : ∃ p, p = ps.getD (k + 1) 0 := ⟨_, rfl⟩
      rw [← hp] at hc HCG HWI HY HN
      have HPE := Lib.hid hp
      subst ha
      clear hrow2 e1 hp9 hl9' hp hlt hB hg
      cases hgo : goP (ps.take (k + 1)) (ps.getD k 0) p
      · have HDF := Lib.hid (HN.out hgo)
        have HDO := Lib.hid (doV_no HDF.out)
        rw [goD_in, hgo] at HCG
        have HZS := Lib.hid (szA HZE.out)
        go_wp2_with (first | (refine wpList_load_row rfl _ _ rfl D rfl 48 V (0, 0) _ HGV.out Try.underlying48 rfl HSZ.out ?_) | (go_at_call 83; refine (HCG.out _).mono ?_; rintro e w3 ⟨rfl, x3⟩; obtain ⟨W4, st4, G4, X4, _⟩ := dv_store w3 R0 Z HZ10.out ((x3.block R0 (heapLt HGR.out)).trans HGR.out) Z _ _ HZE.out (HX.out.trans x3) (Nat.le_of_eq HR0.out.symm)))
        exact bodyPost_ret (results_cellB (P := Try.prog) (p := 2) (u := 3) (ty := 48) rfl _ _ R0 48 Z (0, 0) _ rfl G4 Try.underlying48 rfl HZS.out) rfl ⟨by rw [HDF.out, HDO.out, ← HZE.out]; rfl, X4⟩
      · have HDF := Lib.hid (HY.out hgo)
        rw [goD_in, hgo] at HCG
        go_wp2_with (first | (refine wpList_load_row rfl _ _ rfl D rfl 48 V (0, 0) _ HGV.out Try.underlying48 rfl HSZ.out ?_) | (refine wpList_load_row rfl _ _ rfl D rfl 48 V (0, 0) _ ((x3.block D (heapLt HGV.out)).trans HGV.out) Try.underlying48 rfl HSZ.out ?_) | (go_at_call 83; refine (HCG.out _).mono ?_; rintro e w3 ⟨rfl, x3⟩) | (go_at_call 56; refine (HWI.out _).mono ?_; rintro e w4 ⟨V2, rfl, hV2, x4⟩; obtain ⟨W5, st5, G5, X5, O5⟩ := dv_store w4 D V (by rw [HV.out]; rfl) (((x3.trans x4).block D (heapLt HGV.out)).trans HGV.out) V2 _ _ hV2 (HX.out.trans (x3.trans x4)) (by have := HRD.out; have := HR0.out; omega); have hV210 : V2.size = 10 := (by rw [hV2]; rfl); have HV2 := Lib.hid hV2; clear hV2))
        go_roundw
        case rel =>
          refine ⟨k + 1, by omega, by go_num, HDF.out, ⟨V2, by rw [HV2.out, ← HPE.out], G5⟩, ?_, ?_, X5⟩
          · refine row_same (row_ext HROW.out (x3.trans x4)) (fun j hj => O5 j (by have := HDB.out; omega))
          · rw [O5 R0 (by have := HRD.out; omega)]
            exact ((x3.trans x4).block R0 (heapLt HGR.out)).trans HGR.out
        case measure => simp [intOf]; omega
    · have hkn : k = n := by omega
      have hni : ¬ (k : Int) < (n : Int) := by omega
      have HDF := Lib.hid (show drwP ps = true by unfold drwP; rw [HN1.out, Nat.add_sub_cancel, ← hkn]; exact HDW.out)
      have HDO := Lib.hid (show doV ps = dvA (inD (ps.take (k + 1))) (ps.getD k 0 : Nat) by
        rw [doV_yes HDF.out]
        unfold laP
        rw [HN1.out, Nat.add_sub_cancel, ← hkn, List.take_of_length_le (by rw [HN1.out]; omega)])
      obtain ⟨W4, st4, G4, X4, _⟩ := dv_store wr R0 Z HZ10.out HGR.out V _ _ HV.out HX.out (Nat.le_of_eq HR0.out.symm)
      have hV10 : V.size = 10 := by rw [HV.out]; rfl
      clear hkn
      go_wp2_with (first | (refine wpList_load_row rfl _ _ rfl D rfl 48 V (0, 0) _ HGV.out Try.underlying48 rfl HSZ.out ?_))
      exact bodyPost_ret (results_cellB (P := Try.prog) (p := 2) (u := 3) (ty := 48) rfl _ _ R0 48 V (0, 0) _ rfl G4 Try.underlying48 rfl HSZ.out) rfl ⟨by rw [HDF.out, HDO.out, ← HV.out]; rfl, X4⟩
end Go.Proofs.Ytmpajijnpoekgaa
