/- Counts of numbers: the rows that both sides reckon. No conditions. -/
import Derived.Test.YtmpajijnpoekgacWt
import Derived.Deep.Cut
namespace Go.Proofs.Ytmpajijnpoekgac
open Go.RowKit

theorem eF0 (d : Nat) : eF 0 d = 1 := by unfold eF; rw [if_pos (.inl rfl)]
theorem eF_d (q d : Nat) : eF (q + 48) d = if d = q then 1 else 0 := by
  unfold eF
  by_cases h : d = q
  · rw [if_pos h, if_pos (.inr (by omega))]
  · rw [if_neg h, if_neg (by omega)]
theorem dr_store (wr : World) (R : Nat) (t0 t : Nat → Int) (h : TabD wr R t0) {w : World} (hx : Ext w wr) (hR : w.heap.size ≤ R) : ∃ W4, (storeCells ⟨R, 0, none⟩ (rowN 10 t)).run Try.prog wr = .ok () W4 ∧ TabD W4 R t ∧ Ext w W4 := by
  have hst := run_storeCells_at Try.prog R 0 46 (rowN 10 t) 0 (rowN 10 t0).toArray wr h (by rw [List.size_toArray, rowN_len, rowN_len]; decide) (rowN_one 10 t)
  rw [rowN_len, Nat.add_zero, show ((rowN 10 t0).toArray.toList.take 0 ++ rowN 10 t ++ (rowN 10 t0).toArray.toList.drop (0 + 10)).toArray = (rowN 10 t).toArray by
    rw [List.take_zero, List.nil_append, List.drop_of_length_le (by rw [List.toList_toArray, rowN_len]; decide), List.append_nil]] at hst
  exact ⟨_, hst, setRow_heap _ _ _ _ _ _ h, ⟨hx.os, hx.tape, hx.output, by simpa [World.setRow] using hx.size, fun k hk => (setRow_other wr R k _ (by omega)).trans (hx.block k hk)⟩⟩

set_option maxRecDepth 100000 in
set_option maxHeartbeats 4000000 in
theorem anyEnd_any (w : World) : Calls Try.prog 67 #[] w fun r w' => r = .returned (.agg (rowI (eF 0)).toArray) ∧ Ext w w' := by
  obtain ⟨W, hW⟩ : ∃ W, W = (w.alloc (.cells #[.int .i64 0, .int .i64 0, .int .i64 0, .int .i64 0, .int .i64 0, .int .i64 0, .int .i64 0, .int .i64 0, .int .i64 0, .int .i64 0] 46)).alloc (.cells #[.int .i64 0, .int .i64 0, .int .i64 0, .int .i64 0, .int .i64 0, .int .i64 0, .int .i64 0, .int .i64 0, .int .i64 0, .int .i64 0] 46) := ⟨_, rfl⟩
  have T0 := Lib.hid (show TabD W (w.heap.size + 1) (fun _ => 0) by rw [hW]; unfold TabD; rw [zero10]; exact heap_alloc2_new w _ _)
  have R0 := Lib.hid (show TabD W w.heap.size (fun _ => 0) by rw [hW]; unfold TabD; rw [zero10]; exact heap_alloc2_old w _ _)
  have X0 : Ext w W := by rw [hW]; exact ((Ext.refl _).alloc _).alloc _
  go_enter Try.func67, Try.ntmps67
  go_wp2
  rw [← hW]
  clear hW
  obtain ⟨R, hR⟩ : ∃ R, R = w.heap.size := ⟨_, rfl⟩
  have HRR := Lib.hid hR
  rw [← hR] at T0 R0 ⊢
  clear hR
  go_loopw [3] (fun q wr => ∃ k : Nat, k ≤ 10 ∧ q = .int .i64 k ∧ TabD wr (R + 1) (fun j => if j < k then 1 else 0) ∧ TabD wr R (fun _ => 0) ∧ Ext w wr) (fun q _ => 10 - (intOf q).toNat)
  case atStart => exact ⟨0, Nat.zero_le _, rfl, T0.out.congr (fun r _ => by rw [if_neg (by omega)]), R0.out, X0⟩
  case round =>
    obtain ⟨k, hk, rfl, hT, hr, hx⟩ := hrel
    have HT := Lib.hid hT
    have HR := Lib.hid hr
    clear hT hr
    have hwR : w.heap.size ≤ R + 1 := by have := HRR.out; omega
    by_cases hlt : k < 10
    · have c0 := HT.out.at k hlt
      have f0 := HT.out.fr k
      have hki : (k : Int) < 10 := by omega
      have HN := Lib.hid (show TabD (wr.setCell ⟨R + 1, k, none⟩ (.int .i64 1)) (R + 1) (fun j => if j < k + 1 then 1 else 0) from (HT.out.set k 1).congr (fun j _ => by
        by_cases e : j = k
        · rw [if_pos e, if_pos (by omega)]
        · rw [if_neg e]
          by_cases e2 : j < k
          · rw [if_pos e2, if_pos (by omega)]
          · rw [if_neg e2, if_neg (by omega)]))
      have HO := Lib.hid (show TabD (wr.setCell ⟨R + 1, k, none⟩ (.int .i64 1)) R (fun _ => 0) from (heap_setCell_other wr _ _ _ (by simp)).trans HR.out)
      go_wp2
      go_roundw
      case rel => exact ⟨k + 1, by omega, by go_num, HN.out, HO.out, hx.setCell hwR _⟩
      case measure => simp [intOf]; omega
    · have HT5 := Lib.hid (HT.out.congr (t' := fun j => (eF 0 j : Int)) (fun j hj => by rw [if_pos (by omega), eF0]; rfl))
      obtain ⟨CL, hCL⟩ : ∃ CL, CL = rowI (eF 0) := ⟨_, rfl⟩
      obtain ⟨W4, hst, hg4, X4⟩ := dr_store wr R (fun _ => 0) (fun j => (eF 0 j : Int)) HR.out hx (by have := HRR.out; omega)
      have hst2 : (storeCells ⟨R, 0, none⟩ CL).run Try.prog wr = .ok () W4 := by rw [hCL]; exact hst
      have hcl : CL.length = 10 := by rw [hCL, rowI_len]
      have HN := Lib.hid (show (Try.prog.info? 46).map (·.size) = some CL.toArray.size by rw [List.size_toArray, hcl]; kernel_rfl)
      have HT6 := Lib.hid (show wr.heap[R + 1]? = some (.cells CL.toArray 46) by rw [hCL]; exact HT5.out)
      have G4 := Lib.hid (show W4.heap[R]? = some (.cells CL.toArray 46) by rw [hCL]; exact hg4)
      have HCL := Lib.hid hCL
      clear hst hg4 hCL
      go_wp2_with (first | (refine wpList_load_row rfl _ _ rfl (R + 1) rfl 46 CL.toArray (0, 0) _ HT6.out Try.underlying46 rfl HN.out ?_))
      exact bodyPost_ret (results_cell_row (P := Try.prog) (p := 0) (ty := 46) rfl _ _ R 46 CL.toArray (0, 0) _ rfl G4.out Try.underlying46 rfl HN.out) rfl ⟨by rw [HCL.out], X4⟩

set_option maxRecDepth 100000 in
set_option maxHeartbeats 4000000 in
theorem endAt_any (d : Nat) (w : World) (hd : d < 10) : Calls Try.prog 61 #[.int .i64 d] w fun r w' => r = .returned (.agg (rowI (eF (d + 48))).toArray) ∧ Ext w w' := by
  obtain ⟨W, hW⟩ : ∃ W, W = (w.alloc (.cells #[.int .i64 0, .int .i64 0, .int .i64 0, .int .i64 0, .int .i64 0, .int .i64 0, .int .i64 0, .int .i64 0, .int .i64 0, .int .i64 0] 46)).alloc (.cells #[.int .i64 0, .int .i64 0, .int .i64 0, .int .i64 0, .int .i64 0, .int .i64 0, .int .i64 0, .int .i64 0, .int .i64 0, .int .i64 0] 46) := ⟨_, rfl⟩
  have T0 := Lib.hid (show TabD W (w.heap.size + 1) (fun _ => 0) by rw [hW]; unfold TabD; rw [zero10]; exact heap_alloc2_new w _ _)
  have R0 := Lib.hid (show TabD W w.heap.size (fun _ => 0) by rw [hW]; unfold TabD; rw [zero10]; exact heap_alloc2_old w _ _)
  have X0 : Ext w W := by rw [hW]; exact ((Ext.refl _).alloc _).alloc _
  have c0 := T0.out.at d hd
  have f0 := T0.out.fr d
  have hdi : (d : Int) < 10 := by omega
  obtain ⟨CL, hCL⟩ : ∃ CL, CL = rowI (eF (d + 48)) := ⟨_, rfl⟩
  have hcl : CL.length = 10 := by rw [hCL, rowI_len]
  have HT6 := Lib.hid (show (W.setCell ⟨w.heap.size + 1, d, none⟩ (.int .i64 1)).heap[w.heap.size + 1]? = some (.cells CL.toArray 46) by
    rw [hCL]
    exact ((T0.out.set d 1).congr (t' := fun j => (eF (d + 48) j : Int)) (fun j _ => by
      rw [eF_d]
      by_cases e : j = d
      · rw [if_pos e, if_pos e]; rfl
      · rw [if_neg e, if_neg e]; rfl)))
  have HR1 := Lib.hid (show TabD (W.setCell ⟨w.heap.size + 1, d, none⟩ (.int .i64 1)) w.heap.size (fun _ => 0) from (heap_setCell_other W _ _ _ (by simp)).trans R0.out)
  have X1 : Ext w (W.setCell ⟨w.heap.size + 1, d, none⟩ (.int .i64 1)) := X0.setCell (p := ⟨w.heap.size + 1, d, none⟩) (Nat.le_succ _) _
  obtain ⟨W4, hst, hg4, X4⟩ := dr_store _ w.heap.size (fun _ => 0) (fun j => (eF (d + 48) j : Int)) HR1.out X1 (Nat.le_refl _)
  have hst2 : (storeCells ⟨w.heap.size, 0, none⟩ CL).run Try.prog (W.setCell ⟨w.heap.size + 1, d, none⟩ (.int .i64 1)) = .ok () W4 := by rw [hCL]; exact hst
  have HN := Lib.hid (show (Try.prog.info? 46).map (·.size) = some CL.toArray.size by rw [List.size_toArray, hcl]; kernel_rfl)
  have G4 := Lib.hid (show W4.heap[w.heap.size]? = some (.cells CL.toArray 46) by rw [hCL]; exact hg4)
  have HCL := Lib.hid hCL
  clear hst hg4 hCL
  go_enter Try.func61, Try.ntmps61
  go_upto_region 2 with (fail)
  rw [← hW]
  clear hW
  go_wp2_with (first | (refine wpList_load_row rfl _ _ rfl (w.heap.size + 1) rfl 46 CL.toArray (0, 0) _ HT6.out Try.underlying46 rfl HN.out ?_))
  exact bodyPost_ret (results_cell_row (P := Try.prog) (p := 2) (ty := 46) rfl _ _ w.heap.size 46 CL.toArray (0, 0) _ rfl G4.out Try.underlying46 rfl HN.out) rfl ⟨by rw [HCL.out], X4⟩

theorem isLong_any (n m : Int) (w : World) : Calls Try.prog 55 #[.int .i64 n, .int .i64 m] w fun e w' => e = .returned (.bool (inW n 1 m)) ∧ w = w' := by
  by_cases h1 : 1 ≤ n
  · have t1 : decide (1 ≤ n) = true := decide_eq_true h1
    have HV := Lib.hid (show inW n 1 m = decide (n ≤ m) by unfold inW; rw [t1]; rfl)
    go_enter Try.func55, Try.ntmps55
    go_wp2
    go_ret
    exact ⟨ret_bool HV.out.symm, rfl⟩
  · have HV := Lib.hid (show inW n 1 m = false from inW_lo (by omega))
    go_enter Try.func55, Try.ntmps55
    go_wp2
    go_ret
    exact ⟨ret_bool HV.out.symm, rfl⟩
def mxN : Nat := 1000000000000000
def tellV (c : Nat) : Nat := if c ≤ mxN then c else 0
def tellOk (c : Nat) : Bool := decide (c ≤ mxN)
theorem tell_yes {c : Nat} (h : c ≤ mxN) : tellV c = c ∧ tellOk c = true := ⟨if_pos h, decide_eq_true h⟩
theorem tell_no {c : Nat} (h : ¬ c ≤ mxN) : tellV c = 0 ∧ tellOk c = false := ⟨if_neg h, decide_eq_false h⟩
theorem ret_IB {a a' : Int} {b b' : Bool} (h : a = a') (h2 : b = b') : Ending.returned (.tuple #[.int .i64 a, .bool b]) = .returned (.tuple #[.int .i64 a', .bool b']) := by rw [h, h2]
theorem toTell_any (c : Nat) (w : World) : Calls Try.prog 58 #[.int .i64 c] w fun e w' => e = .returned (.tuple #[.int .i64 (tellV c : Nat), .bool (tellOk c)]) ∧ w = w' := by
  by_cases h : c ≤ mxN
  · have HV := Lib.hid (tell_yes h)
    have hi : ¬ (1000000000000000 : Int) < (c : Int) := by unfold mxN at h; omega
    clear h
    go_enter Try.func58, Try.ntmps58
    go_wp2
    go_ret2
    exact ⟨ret_IB (by rw [HV.out.1]) HV.out.2.symm, rfl⟩
  · have HV := Lib.hid (tell_no h)
    have hi : (1000000000000000 : Int) < (c : Int) := by unfold mxN at h; omega
    clear h
    go_enter Try.func58, Try.ntmps58
    go_wp2
    go_ret2
    exact ⟨ret_IB (by rw [HV.out.1]; rfl) HV.out.2.symm, rfl⟩
end Go.Proofs.Ytmpajijnpoekgac
