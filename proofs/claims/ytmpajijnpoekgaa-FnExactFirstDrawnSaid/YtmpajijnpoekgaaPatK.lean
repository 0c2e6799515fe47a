/- How many patterns go on: both sides. No conditions. -/
import Derived.Test.YtmpajijnpoekgaaPatE
import Derived.Test.YtmpajijnpoekgaaPatC
namespace Go.Proofs.Ytmpajijnpoekgaa
open Go.RowKit

set_option maxHeartbeats 2000000 in
theorem cnt_any (k : Nat) : ∀ (V : Array Value) (ps : List Nat) (l : Nat) (w : World), V = (dvA (inD ps) l).toArray → l < 9 → k ≤ 8 → Calls Try.prog 54 #[.agg V, .int .i64 k] w fun e w' => e = .returned (.int .i64 (cntP k ps l : Nat)) ∧ Ext w w' := by
  induction k with
  | zero =>
    intro V ps l w hV hl hk
    have HV := Lib.hid (show cntP 0 ps l = 1 from rfl)
    have X0 := Lib.hid (show Ext w (w.alloc (.cells V 48)) from (Ext.refl w).alloc _)
    have hz : (((0 : Nat) : Int) == 0) = true := rfl
    clear hV
    go_enter Try.func54, Try.ntmps54
    go_wp2_with fail
    go_ret
    exact ⟨ret_iD (by rw [HV.out]; rfl), by first | exact X0.out | exact Ext.refl _⟩
  | succ k ih =>
    intro V ps l w hV hl hk
    have HC := Lib.hid (fun (p : Nat) (hp : p < 9) w => dv_canGo V (inD ps) l p w hV hl hp)
    have HW := Lib.hid (fun (p : Nat) (hp : p < 9) w => dv_with V ps l p w hV hp)
    have HI := Lib.hid (fun (V2 : Array Value) (p : Nat) (w : World) (h2 : V2 = (dvA (inD (ps ++ [p])) p).toArray) (hp : p < 9) => ih V2 (ps ++ [p]) p w h2 hp (by omega))
    have HEND := Lib.hid (cntS_9 k ps l)
    have h9 := pow9 k (by omega)
    have HSZ := Lib.hid (szA hV)
    have HG0 := Lib.hid (heap_alloc_new w (.cells V 48))
    have X0 : Ext w (w.alloc (.cells V 48)) := (Ext.refl w).alloc _
    obtain ⟨k1, hk1⟩ : ∃ k1, k1 = k + 1 := ⟨_, rfl⟩
    rw [← hk1] at HEND ⊢
    have hkz : ((k1 : Int) == 0) = false := by simp; omega
    have hkm : (k1 : Int) - 1 = (k : Int) := by omega
    have Wk : IntKind.i64.wrap ((k1 : Int) - 1) = (k : Int) := by simp only [IntKind.wrap_i64]; omega
    have hk18 : k1 ≤ 8 := by omega
    clear hk1 ih hV
    go_enter Try.func54, Try.ntmps54
    go_wp2_with fail
    obtain ⟨W0, hW0⟩ : ∃ W0, W0 = w.alloc (.cells V 48) := ⟨_, rfl⟩
    rw [← hW0] at HG0 X0 ⊢
    obtain ⟨D, hD⟩ : ∃ D, D = w.heap.size := ⟨_, rfl⟩
    rw [← hD] at HG0 ⊢
    have HDE := Lib.hid hD
    clear hW0 hD
    go_loopw [5, 9] (fun o i wr => ∃ j : Nat, j ≤ 9 ∧ i = .int .i64 j ∧ o = .int .i64 (cntS k ps l j : Nat) ∧ Ext W0 wr) (fun _ i _ => 9 - (intOf i).toNat)
    case atStart => exact ⟨0, Nat.zero_le _, rfl, rfl, Ext.refl _⟩
    case round =>
      obtain ⟨j, hj, rfl, rfl, hx⟩ := hrel
      have HX := Lib.hid hx
      have HGD := Lib.hid ((hx.block D (heapLt HG0.out)).trans HG0.out)
      clear hx
      by_cases hlt : j < 9
      · have HCj := Lib.hid (fun w => HC.out j hlt w)
        have HWj := Lib.hid (fun w => HW.out j hlt w)
        have HIj := Lib.hid (fun V2 w h2 => HI.out V2 j w h2 hlt)
        have HY := Lib.hid (fun h => cntS_yes (k := k) (ps := ps) (l := l) (j := j) h)
        have HN := Lib.hid (fun h => cntS_no (k := k) (ps := ps) (l := l) (j := j) h)
        have b1 := cntS_bd k ps l j
        have b2 := cntP_bd k (ps ++ [j]) j
        have b3 : j * 9 ^ k ≤ 9 * 9 ^ k := Nat.mul_le_mul_right _ (by omega)
        rw [goD_in] at HCj
        obtain ⟨x, hx⟩ : ∃ x, x = cntS k ps l j := ⟨_, rfl⟩
        obtain ⟨y, hy⟩ : ∃ y, y = cntP k (ps ++ [j]) j := ⟨_, rfl⟩
        rw [← hx] at b1 HY HN ⊢
        rw [← hy] at b2 HY HIj
        have hx1 : x ≤ 400000000 := by omega
        have hy1 : y ≤ 400000000 := by omega
        have Wxy : IntKind.i64.wrap ((x : Int) + (y : Int)) = (x : Int) + (y : Int) := by simp only [IntKind.wrap_i64]; omega
        clear hx hy b1 b2 b3
        cases hg : goP ps l j
        · have HV := Lib.hid (HN.out hg)
          rw [hg] at HCj
          clear hg
          go_wp2_with (first | (refine wpList_load_row rfl _ _ rfl D rfl 48 V (0, 0) _ HGD.out Try.underlying48 rfl HSZ.out ?_) | (go_at_call 83; refine (HCj.out _).mono ?_; rintro e w2 ⟨rfl, x2⟩))
          go_roundw
          case rel => exact ⟨j + 1, by omega, by go_num, by rw [HV.out], HX.out.trans x2⟩
          case measure => simp [intOf]; omega
        · have HV := Lib.hid (HY.out hg)
          rw [hg] at HCj
          clear hg
          go_wp2_with (first | (refine wpList_load_row rfl _ _ rfl D rfl 48 V (0, 0) _ HGD.out Try.underlying48 rfl HSZ.out ?_) | (refine wpList_load_row rfl _ _ rfl D rfl 48 V (0, 0) _ ((x2.block D (heapLt HGD.out)).trans HGD.out) Try.underlying48 rfl HSZ.out ?_) | (go_at_call 83; refine (HCj.out _).mono ?_; rintro e w2 ⟨rfl, x2⟩) | (go_at_call 56; refine (HWj.out _).mono ?_; rintro e w3 ⟨V2, rfl, hV2, x3⟩; have HV2 := Lib.hid hV2; clear hV2) | (go_at_call 54; refine (HIj.out V2 _ HV2.out).mono ?_; rintro e w4 ⟨rfl, x4⟩))
          go_roundw
          case rel => exact ⟨j + 1, by omega, by go_num, by rw [HV.out]; first | rfl | go_num, ((HX.out.trans x2).trans x3).trans x4⟩
          case measure => simp [intOf]; omega
      · obtain rfl : j = 9 := by omega
        go_wp2
        go_ret
        exact ⟨ret_iD (by rw [HEND.out]), X0.trans HX.out⟩
end Go.Proofs.Ytmpajijnpoekgaa
