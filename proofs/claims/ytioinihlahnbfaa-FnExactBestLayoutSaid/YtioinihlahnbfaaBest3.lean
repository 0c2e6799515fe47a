/- The program's best layout. No conditions. -/
import Derived.Test.YtioinihlahnbfaaBest2
namespace Go.Proofs.Ytioinihlahnbfaa
open Go.RowKit

def bOk (zs : List Int) (n : Int) : Bool := gB zs && decide (1 ≤ n) && decide (n ≤ 8)
def bV (zs : List Int) (n : Int) : List Int := if bOk zs n then szs (cf zs) n.toNat 0 else []
def bN (zs : List Int) (n : Int) : Int := if bOk zs n then (dp (cf zs) n.toNat 0 : Int) else 0
theorem bV_no {zs : List Int} {n : Int} (h : bOk zs n = false) : bV zs n = [] := by unfold bV; simp [h]
theorem bN_no {zs : List Int} {n : Int} (h : bOk zs n = false) : bN zs n = 0 := by unfold bN; simp [h]
theorem bV_yes {zs : List Int} {n : Nat} (h : bOk zs n = true) : bV zs n = szs (cf zs) n 0 := by unfold bV; simp [h]
theorem bN_yes {zs : List Int} {n : Nat} (h : bOk zs n = true) : bN zs n = (dp (cf zs) n 0 : Int) := by unfold bN; simp [h]
theorem bOk_no {zs : List Int} {n : Int} (h : ¬ (gB zs = true ∧ 1 ≤ n ∧ n ≤ 8)) : bOk zs n = false := by
  cases hb : bOk zs n
  · rfl
  · unfold bOk at hb
    simp only [Bool.and_eq_true, decide_eq_true_eq] at hb
    exact absurd ⟨hb.1.1, hb.1.2, hb.2⟩ h
theorem bOk_yes {zs : List Int} {n : Int} (h : gB zs = true) (h1 : 1 ≤ n) (h2 : n ≤ 8) : bOk zs n = true := by
  unfold bOk; rw [h, decide_eq_true h1, decide_eq_true h2]; rfl
/-- A list and a number, in memory of the call's own. -/
def ResB (ts : List Int) (x : Int) (ok : Bool) (w : World) (e : Ending) (w' : World) : Prop := ∃ v, e = .returned (.tuple #[v, .int .i64 x, .bool ok]) ∧ RowI w.heap.size w' v ts ∧ Ext w w'
theorem RowI.nil (B : Nat) (w : World) : RowI B w (.slice none 0 0) [] := World.ownsRow_nil _ _ _ _
theorem RowI.down {B B' : Nat} {w : World} {v : Value} {ts : List Int} (h : RowI B w v ts) (hb : B' ≤ B) : RowI B' w v ts :=
  ⟨h.1, h.2.imp id fun ⟨g, c, cur, a1, a2, a3⟩ => ⟨g, c, cur, a1, Nat.le_trans hb a2, a3⟩⟩
theorem info_intB : (Try.prog.info? 3).map (fun i => (i.zero, i.size, i.bytes)) = some (some (.int .i64 0), 1, 8) := by kernel_rfl
theorem ret_3 {v : Value} {a a' : Int} {b b' : Bool} (h : a = a') (h2 : b = b') : Ending.returned (.tuple #[v, .int .i64 a, .bool b]) = .returned (.tuple #[v, .int .i64 a', .bool b']) := by rw [h, h2]
theorem tM_row {c : Nat → Nat} {n r : Nat} (h : r ≤ n) (e : Nat) : tM c (n + 1) 0 r e = (eZ (dp c r e) : Int) := by unfold tM; rw [if_pos (by omega)]

theorem oneIB (x : Int) : ∀ u ∈ [Value.int .i64 x], u.oneCell' = true := by intro u hu; simp at hu; subst hu; rfl

set_option maxRecDepth 100000 in
set_option maxHeartbeats 4000000 in
theorem impl_best (v : Value) (zs : List Int) (n : Int) (w : World) (h : IntsA w v zs) : Calls Try.prog 17 #[v, .int .i64 n] w (ResB (bV zs n) (bN zs n) (bOk zs n) w) := by
  have HS := Lib.hid h
  cases hg : gB zs
  · have H := Lib.hid (show bOk zs n = false from bOk_no (fun h => by rw [hg] at h; cases h.1))
    go_enter Try.func17, Try.ntmps17
    go_wp2_with (go_at_call 34; refine (areCounts_any _ _ _ HS.out).mono ?_; rintro e w1 ⟨rfl, x1⟩; rw [hg])
    go_ret3
    exact ⟨_, ret_3 (bN_no H.out).symm H.out.symm, by rw [bV_no H.out]; exact RowI.nil _ _, x1⟩
  by_cases h1 : n < 1
  · have H := Lib.hid (show bOk zs n = false from bOk_no (fun h => by omega))
    go_enter Try.func17, Try.ntmps17
    go_wp2_with (go_at_call 34; refine (areCounts_any _ _ _ HS.out).mono ?_; rintro e w1 ⟨rfl, x1⟩; rw [hg])
    go_ret3
    exact ⟨_, ret_3 (bN_no H.out).symm H.out.symm, by rw [bV_no H.out]; exact RowI.nil _ _, x1⟩
  by_cases h8 : 8 < n
  · have H := Lib.hid (show bOk zs n = false from bOk_no (fun h => by omega))
    go_enter Try.func17, Try.ntmps17
    go_wp2_with (go_at_call 34; refine (areCounts_any _ _ _ HS.out).mono ?_; rintro e w1 ⟨rfl, x1⟩; rw [hg])
    go_ret3
    exact ⟨_, ret_3 (bN_no H.out).symm H.out.symm, by rw [bV_no H.out]; exact RowI.nil _ _, x1⟩
  obtain ⟨m, rfl⟩ := Int.eq_ofNat_of_zero_le (show 0 ≤ n by omega)
  have h26 := gB_len hg
  have HG := Lib.hid hg
  have HB := Lib.hid (bOk_yes hg (show (1 : Int) ≤ (m : Int) by omega) (show (m : Int) ≤ 8 by omega))
  obtain ⟨a, cap, hv⟩ := h.at
  rw [hv, h26] at HS ⊢
  clear hv h v h26
  obtain ⟨c, hcc⟩ : ∃ c, c = cf zs := ⟨_, rfl⟩
  have HC := Lib.hid (show ∀ j, c j ≤ 1000 from fun j => by rw [hcc]; exact cf_le HG.out j)
  have HCC := Lib.hid hcc
  clear hcc
  obtain ⟨i0, hi, hz0, hzs, hzb⟩ := info_parts info_intB
  have HI := Lib.hid (show Try.prog.info? 3 = some i0 ∧ i0.zero = some (.int .i64 0) ∧ i0.size = 1 ∧ i0.bytes = 8 from ⟨hi, hz0, hzs, hzb⟩)
  clear hi hz0 hzs hzb
  have h243 : (tab2 (tM (cf zs) (m + 1) 0)).length = 243 := tab2_len _
  have hd1 : decide ((m : Int) < 1) = false := decide_eq_false (by omega)
  have hd8 : decide (8 < (m : Int)) = false := decide_eq_false (by omega)
  go_enter Try.func17, Try.ntmps17
  go_wp2_with (first | (go_at_call 34; refine (areCounts_any _ _ _ HS.out).mono ?_; rintro e w1 ⟨rfl, x1⟩; rw [hg]) | (go_at_call 35; refine (costs_any _ zs m _ (HS.out.ext x1) HG.out (by omega)).mono ?_; rintro e w2 ⟨rfl, x2⟩; obtain ⟨W4, hst, hg4, x4⟩ := tab2_store (w2.alloc (.cells Try.zeroCells49 49)) w2.heap.size (fun _ _ => 0) (tM (cf zs) (m + 1) 0) (by unfold TabL; rw [← zeroL]; exact heap_alloc_new w2 _) ((Ext.refl w2).alloc _) (Nat.le_refl _); have G4 := Lib.hid hg4; clear hg4) | (at_make; refine wpList_make_own _ rfl _ _ 31 rfl W4.heap.size 3 i0 (.int .i64 0) 1 Try.underlying31 HI.out.1 HI.out.2.1 HI.out.2.2.1 .i64 .i64 _ m rfl rfl rfl (by rw [HI.out.2.2.2]; omega) (by unfold maxLen; omega) (Nat.le_refl _) ?_; intro w5 own5 gr5))
  have XW : Ext w W4 := (x1.trans x2).trans x4
  have X5 : Ext W4 w5 := ext_grown (Ext.refl _) gr5 (fun j hj => by cases hj)
  have R5 := Lib.hid (show RowI W4.heap.size w5 (.slice (some ⟨W4.heap.size, 0, none⟩) 0 m) [] from own5)
  have HT4 := Lib.hid (show TabL W4 w2.heap.size (tM c (m + 1) 0) by rw [HCC.out]; exact G4.out)
  have hm1 : 1 ≤ m := by omega
  have hm8 : m ≤ 8 := by omega
  have HF0 := Lib.hid (show dp c m 0 < 1000000000 by have := dp_fin HC.out (m - 1) 0 (by omega); rwa [show m - 1 + 1 = m by omega] at this)
  have HSL := Lib.hid (szs_len c m 0)
  clear own5 gr5 h1 h8
  rw [← HCC.out]
  go_loopw [8, 9, 10] (fun o fr lf wr => ∃ (k i : Nat) (ts : List Int), k ≤ m ∧ lf = .int .i64 k ∧ fr = .int .i64 i ∧ i ≤ 26 ∧ ts ++ szs c k i = szs c m 0 ∧ (0 < k → dp c k i < 1000000000) ∧ RowI W4.heap.size wr o ts ∧ Ext W4 wr) (fun _ _ lf _ => (intOf lf).toNat)
  case atStart => exact ⟨m, 0, [], Nat.le_refl _, rfl, rfl, by omega, rfl, fun _ => HF0.out, R5.out, X5⟩
  case round =>
    obtain ⟨k, i, ts, hk, rfl, rfl, hi26, hG, hfin, hR, hx⟩ := hrel
    have HGG := Lib.hid hG
    have HR := Lib.hid hR
    have HT := Lib.hid (HT4.out.ext hx)
    have hlt2 := HT.out.lt
    clear hst
    by_cases h0 : k = 0
    · subst h0
      have HFN := Lib.hid (show ts = szs c m 0 by rw [← HGG.out]; show ts = ts ++ []; rw [List.append_nil])
      have c0 := HT.out.at m 0 (by omega) (by omega)
      rw [Nat.add_zero, Nat.mul_comm, tM_row (Nat.le_refl m), eZ_lt HF0.out] at c0
      have hmi : (m : Int) < 9 := by omega
      go_wp2
      go_quiet (fail)
      go_wp2
      go_ret3
      exact ⟨_, ret_3 (by rw [bN_yes HB.out, HCC.out]) HB.out.symm, by rw [bV_yes HB.out, ← HCC.out, ← HFN.out]; exact HR.out.down XW.size, ext_drewN (XW.trans hx) _⟩
    · obtain ⟨K, hK⟩ : ∃ K, k = K + 1 := ⟨k - 1, by omega⟩
      have HKK := Lib.hid hK
      have HFI := Lib.hid (show dp c (K + 1) i < 1000000000 by have := hfin (by omega); rw [← hK]; exact this)
      obtain ⟨hs1, hs2, hs3⟩ := size_ok HC.out K i hi26 HFI.out
      have HS1 := Lib.hid hs1
      have HS2 := Lib.hid hs2
      have HS3 := Lib.hid hs3
      have HCE := Lib.hid (show wr.cell? ⟨w2.heap.size, k * 27 + i, none⟩ = some (.int .i64 (eZ (dp c (K + 1) i) : Int)) by rw [Nat.mul_comm, ← hK, ← tM_row (n := m) (r := k) hk]; exact HT.out.at k i (by omega) (by omega))
      have HRW := Lib.hid (show ∀ w', Ext wr w' → w'.rangeAt w2.heap.size (K * 27) (row27 fun e => (eZ (dp c K e) : Int)) from fun w' hx' => by
        have hr := (HT.out.ext hx').row K (by omega)
        have e : row27 (tM c (m + 1) 0 K) = row27 (fun e => (eZ (dp c K e) : Int)) := by
          unfold row27
          refine List.map_congr_left fun j _ => ?_
          rw [tM_row (by omega)]
        rw [e, Nat.mul_comm] at hr
        exact hr)
      have HKS := Lib.hid (fun (w' : World) (hx' : Ext wr w') => (⟨hx', (hx'.cell (p := ⟨w2.heap.size, k * 27 + i, none⟩) hlt2).trans HCE.out, HRW.out w' hx'⟩ : Ext wr w' ∧ w'.cell? ⟨w2.heap.size, k * 27 + i, none⟩ = some (.int .i64 (eZ (dp c (K + 1) i) : Int)) ∧ w'.rangeAt w2.heap.size (K * 27) (row27 fun e => (eZ (dp c K e) : Int))))
      have HKT := Lib.hid (fun (a b : World) (ha : Ext wr a ∧ a.cell? ⟨w2.heap.size, k * 27 + i, none⟩ = some (.int .i64 (eZ (dp c (K + 1) i) : Int)) ∧ a.rangeAt w2.heap.size (K * 27) (row27 fun e => (eZ (dp c K e) : Int))) (hx' : Ext a b) => HKS.out b (ha.1.trans hx'))
      have hu27 := Try.underlying47
      have hi27 : (Try.prog.info? 47).map (·.size) = some (row27 fun e => (eZ (dp c K e) : Int)).length := by rw [row27_len]; kernel_rfl
      have Wm : IntKind.i64.wrap ((k : Int) - 1) = (K : Int) := by simp only [IntKind.wrap_i64]; omega
      have hK9 : (K : Int) < 9 := by omega
      have hk9 : (k : Int) < 9 := by omega
      have hi27i : (i : Int) < 27 := by omega
      have hk0 : (0 : Int) < (k : Int) := by omega
      have hts : ts.length ≤ 8 := by have e := congrArg List.length HGG.out; rw [List.length_append, HSL.out] at e; omega
      clear hK h0 hfin hG hR hs1 hs2 hs3
      go_wp2
      go_region_held3 (fun w' => Ext wr w' ∧ w'.cell? ⟨w2.heap.size, k * 27 + i, none⟩ = some (.int .i64 (eZ (dp c (K + 1) i) : Int)) ∧ w'.rangeAt w2.heap.size (K * 27) (row27 fun e => (eZ (dp c K e) : Int))) (first | exact HKS.out _ (Ext.refl _).drew | (refine HKT.out _ _ ?_ x9; assumption)) (first | (go_at_call 36; rw [HCC.out]; refine (bestSize_any _ zs i K _ (HS.out.ext ((XW.trans hx).trans (And.left (by assumption)))) HG.out hi26 (by rw [← HCC.out]; exact HFI.out)).mono ?_; rintro e w9 ⟨rfl, x9⟩; rw [← HCC.out]))
      rename_i hHeld
      have hE : Ext wr _ := hHeld.1
      clear hHeld
      have HR9 := Lib.hid (HR.out.ext hE)
      have hz26 : i + size c K i ≤ 26 := HS2.out
      obtain ⟨z, hz⟩ : ∃ z, z = size c K i := ⟨_, rfl⟩
      have HZ := Lib.hid hz
      rw [← hz] at hz26 ⊢
      clear hz
      go_wp2_with (at_builtin; refine wpList_append_own _ rfl _ _ 31 rfl W4.heap.size 3 i0 (.int .i64 0) 1 8 Try.underlying31 HI.out.1 HI.out.2.1 HI.out.2.2.1 HI.out.2.2.2 rfl (by decide) _ _ _ rfl (World.ownsRow.alloc HR9.out _) ⟨_, 0, none⟩ 1 1 [.int .i64 (z : Int)] rfl rfl (cell_one_new _ _ _) (oneIB _) (by unfold maxLen; omega) (by omega) (by have := (hx.trans hE).size; simp; omega) ?_; intro v5 w6 own6 gr6 _)
      have X6 : Ext W4 w6 := ext_grown ((hx.trans hE).alloc _) gr6 (fun j hj => (World.ownsRow.lt HR9.out j hj).1)
      have RN := Lib.hid (show RowI W4.heap.size w6 v5 (ts ++ [(z : Int)]) from by
        unfold RowI
        rw [List.length_append, List.map_append]
        exact own6)
      clear own6 gr6
      go_wp2
      go_roundw
      case rel => exact ⟨K, i + z, ts ++ [(z : Int)], by have := HKK.out; omega, rfl, by go_num, hz26, by rw [List.append_assoc, ← HGG.out, HKK.out, HZ.out]; rfl, fun _ => by rw [HZ.out]; exact HS3.out, RN.out, X6⟩
      case measure => simp [intOf]; have := HKK.out; omega

end Go.Proofs.Ytioinihlahnbfaa
