/- Hits and near ones of two pins: the program's. No conditions. -/
import Derived.Test.YtmpajijnpoekgaaHit
import Derived.Test.YtmpajijnpoekgaaTabD
import Derived.Deep.RegionWith
import Derived.Deep.RegionHeld3
namespace Go.Proofs.Ytmpajijnpoekgaa
open Go.RowKit

theorem ixDR (A : Array Value) (k : Nat) (hk : k < 10) (v : Value) (hv : A[k]? = some v) (w : World) : (Instr.index 88 (.agg A) (.int .i64 (k : Int))).run Try.prog w = .ok v w := by
  have h2 : (0 : Int) ≤ (k : Int) := by omega
  simp [go_sem, Instr.index, part, hv]
  intro h
  omega
/-- A guess in a block. -/
def GuB (w : World) (B : Nat) (t : ByteArray) (h n : Int) : Prop := w.heap[B]? = some (.cells #[.string t, .int .i64 h, .int .i64 n] 66)
theorem GuB.ext {w w' : World} {B : Nat} {t : ByteArray} {h n : Int} (g : GuB w B t h n) (hx : Ext w w') : GuB w' B t h n := (hx.block B (heapLt g)).trans g
theorem GuB.at1 {w : World} {B : Nat} {t : ByteArray} {h n : Int} (g : GuB w B t h n) : w.cell? ⟨B, 1, none⟩ = some (.int .i64 h) := by rw [cell_of_row w B 1 _ _ _ g]; rfl
theorem GuB.at2 {w : World} {B : Nat} {t : ByteArray} {h n : Int} (g : GuB w B t h n) : w.cell? ⟨B, 2, none⟩ = some (.int .i64 n) := by rw [cell_of_row w B 2 _ _ _ g]; rfl
theorem GuB.fr {w : World} {B : Nat} {t : ByteArray} {h n : Int} (g : GuB w B t h n) (j : Nat) : w.frozen? ⟨B, j, none⟩ = false := frozen_of_row w B j _ _ g
theorem GuB.set1 {w : World} {B : Nat} {t : ByteArray} {h n : Int} (g : GuB w B t h n) (x : Int) : GuB (w.setCell ⟨B, 1, none⟩ (.int .i64 x)) B t x n := heap_setCell_same w B 1 _ _ (.int .i64 x) g
theorem GuB.set2 {w : World} {B : Nat} {t : ByteArray} {h n : Int} (g : GuB w B t h n) (x : Int) : GuB (w.setCell ⟨B, 2, none⟩ (.int .i64 x)) B t h x := heap_setCell_same w B 2 _ _ (.int .i64 x) g
theorem GuB.other {w : World} {B : Nat} {t : ByteArray} {h n : Int} (g : GuB w B t h n) (p : Addr) (x : Value) (hne : B ≠ p.block) : GuB (w.setCell p x) B t h n := (heap_setCell_other w p B _ hne).trans g
theorem TabD.other {w : World} {C : Nat} {t : Nat → Int} (g : TabD w C t) (p : Addr) (x : Value) (hne : C ≠ p.block) : TabD (w.setCell p x) C t := (heap_setCell_other w p C _ hne).trans g
theorem gu_size (t : ByteArray) (h n : Int) : (Try.prog.info? 66).map (·.size) = some (#[.string t, .int .i64 h, .int .i64 n] : Array Value).size := by
  show _ = some 3
  kernel_rfl
theorem gu_store (wr : World) (R : Nat) (t0 : ByteArray) (h0 n0 : Int) (hB : GuB wr R t0 h0 n0) (t : ByteArray) (h n : Int) {w : World} (hx : Ext w wr) (hR : w.heap.size ≤ R) : ∃ W4, (storeCells ⟨R, 0, none⟩ [.string t, .int .i64 h, .int .i64 n]).run Try.prog wr = .ok () W4 ∧ GuB W4 R t h n ∧ Ext w W4 := by
  have hst := run_storeCells_at Try.prog R 0 66 [.string t, .int .i64 h, .int .i64 n] 0 #[.string t0, .int .i64 h0, .int .i64 n0] wr hB (by show 0 + 3 ≤ 3; decide) (by intro u hu; simp at hu; rcases hu with rfl | rfl | rfl <;> rfl)
  exact ⟨_, hst, setRow_heap _ _ _ _ _ _ hB, ⟨hx.os, hx.tape, hx.output, by simpa [World.setRow] using hx.size, fun k hk => (setRow_other wr R k _ (by omega)).trans (hx.block k hk)⟩⟩

set_option maxHeartbeats 2000000 in
theorem told_any (s t : ByteArray) (w : World) (h : evB s t = true) : Calls Try.prog 65 #[.string s, .string t] w fun e w' => e = .returned (.agg #[.string t, .int .i64 (hitK s t s.size : Nat), .int .i64 (nrK s t 10 : Nat)]) ∧ Ext w w' := by
  obtain ⟨p1, p2, p3⟩ := evB_parts h
  have hz := pinB_size p1
  have HD1 := Lib.hid (pinB_wk p1)
  have HD2 := Lib.hid (pinB_wk p2)
  have HP3 := Lib.hid p3
  have hz4 : s.size ≤ 4 := hz.2
  clear p1 p2 p3 h
  obtain ⟨W0, hW0⟩ : ∃ W0, W0 = (((w.alloc (.cells #[.string ⟨#[]⟩, .int .i64 0, .int .i64 0] 66)).alloc (.cells #[.string t, .int .i64 0, .int .i64 0] 66)).alloc (.cells #[.int .i64 0, .int .i64 0, .int .i64 0, .int .i64 0, .int .i64 0, .int .i64 0, .int .i64 0, .int .i64 0, .int .i64 0, .int .i64 0] 88)).alloc (.cells #[.int .i64 0, .int .i64 0, .int .i64 0, .int .i64 0, .int .i64 0, .int .i64 0, .int .i64 0, .int .i64 0, .int .i64 0, .int .i64 0] 88) := ⟨_, rfl⟩
  have X0 : Ext w W0 := by rw [hW0]; exact ((((Ext.refl _).alloc _).alloc _).alloc _).alloc _
  have G0 := Lib.hid (show GuB W0 w.heap.size ⟨#[]⟩ 0 0 by
    rw [hW0]; unfold GuB
    rw [heap_alloc_old _ _ (by simp <;> omega), heap_alloc_old _ _ (by simp <;> omega), heap_alloc_old _ _ (by simp)]
    exact heap_alloc_new w _)
  have G1 := Lib.hid (show GuB W0 (w.heap.size + 1) t 0 0 by
    rw [hW0]; unfold GuB
    rw [heap_alloc_old _ _ (by simp <;> omega), heap_alloc_old _ _ (by simp)]
    exact heap_alloc2_new w _ _)
  have T0 := Lib.hid (show TabD W0 (w.heap.size + 1 + 1) (fun _ => 0) by
    rw [hW0]; unfold TabD; rw [zero10]
    rw [heap_alloc_old _ _ (by simp)]
    have := heap_alloc_new ((w.alloc (.cells #[.string ⟨#[]⟩, .int .i64 0, .int .i64 0] 66)).alloc (.cells #[.string t, .int .i64 0, .int .i64 0] 66)) (.cells #[.int .i64 0, .int .i64 0, .int .i64 0, .int .i64 0, .int .i64 0, .int .i64 0, .int .i64 0, .int .i64 0, .int .i64 0, .int .i64 0] 88)
    simpa using this)
  have T1 := Lib.hid (show TabD W0 (w.heap.size + 1 + 1 + 1) (fun _ => 0) by
    rw [hW0]; unfold TabD; rw [zero10]
    have := heap_alloc_new (((w.alloc (.cells #[.string ⟨#[]⟩, .int .i64 0, .int .i64 0] 66)).alloc (.cells #[.string t, .int .i64 0, .int .i64 0] 66)).alloc (.cells #[.int .i64 0, .int .i64 0, .int .i64 0, .int .i64 0, .int .i64 0, .int .i64 0, .int .i64 0, .int .i64 0, .int .i64 0, .int .i64 0] 88)) (.cells #[.int .i64 0, .int .i64 0, .int .i64 0, .int .i64 0, .int .i64 0, .int .i64 0, .int .i64 0, .int .i64 0, .int .i64 0, .int .i64 0] 88)
    simpa using this)
  go_enter Try.func65, Try.ntmps65
  go_wp2
  rw [← hW0]
  clear hW0
  obtain ⟨R, hR⟩ : ∃ R, R = w.heap.size := ⟨_, rfl⟩
  rw [← hR] at G0 G1 T0 T1 ⊢
  have HR := Lib.hid hR
  clear hR
  go_loopw [15] (fun q wr => ∃ k : Nat, k ≤ s.size ∧ q = .int .i64 k ∧ GuB wr (R + 1) t (hitK s t k : Nat) 0 ∧ TabD wr (R + 1 + 1) (fun d => (ipK s t d k : Int)) ∧ TabD wr (R + 1 + 1 + 1) (fun d => (igK s t d k : Int)) ∧ GuB wr R ⟨#[]⟩ 0 0 ∧ Ext w wr) (fun q _ => s.size - (intOf q).toNat)
  case atStart => exact ⟨0, Nat.zero_le _, rfl, G1.out, T0.out.congr (fun _ _ => rfl), T1.out.congr (fun _ _ => rfl), G0.out, X0⟩
  case round =>
    obtain ⟨k, hk, rfl, hG, hP, hQ, hZ, hx⟩ := hrel
    have HG := Lib.hid hG
    have HP := Lib.hid hP
    have HQ := Lib.hid hQ
    have HZ := Lib.hid hZ
    have HX := Lib.hid hx
    clear hG hP hQ hZ hx
    by_cases hlt : k < s.size
    · have hlt2 : k < t.size := by have := HP3.out; omega
      obtain ⟨a10, a48⟩ := dgt_of HD1.out hlt
      obtain ⟨b10, b48⟩ := dgt_of HD2.out hlt2
      have ia : ∀ w, (Instr.index 9 (.string s) (.int .i64 (k : Int))).run Try.prog w = .ok (.int .u8 ((dgt s k : Int) + 48)) w := fun w => by rw [← a48]; exact ixS s k hlt w
      have ib : ∀ w, (Instr.index 9 (.string t) (.int .i64 (k : Int))).run Try.prog w = .ok (.int .u8 ((dgt t k : Int) + 48)) w := fun w => by rw [← b48]; exact ixS t k hlt2 w
      have HS := Lib.hid (show hitK s t (k + 1) = hitK s t k + if dgt s k = dgt t k then 1 else 0 from rfl)
      have HPS := Lib.hid (show ∀ d, ipK s t d (k + 1) = ipK s t d k + if ¬ dgt s k = dgt t k ∧ dgt s k = d then 1 else 0 from fun _ => rfl)
      have HQS := Lib.hid (show ∀ d, igK s t d (k + 1) = igK s t d k + if ¬ dgt s k = dgt t k ∧ dgt t k = d then 1 else 0 from fun _ => rfl)
      have hle := hitK_le s t k
      have hpl := ipK_le s t (dgt s k) k
      have hql := igK_le s t (dgt t k) k
      have cP := HP.out.at (dgt s k) a10
      have cQ := HQ.out.at (dgt t k) b10
      obtain ⟨x, hx0⟩ : ∃ x, x = dgt s k := ⟨_, rfl⟩
      obtain ⟨y, hy0⟩ : ∃ y, y = dgt t k := ⟨_, rfl⟩
      obtain ⟨o, ho⟩ : ∃ o, o = hitK s t k := ⟨_, rfl⟩
      rw [← hx0] at ia HS a10 HPS HQS hpl cP
      rw [← hy0] at ib HS b10 HPS HQS hql cQ
      rw [← ho] at HS hle HG
      have c1 := HG.out.at1
      have f1 := HG.out.fr 1
      clear hx0 hy0 ho a48 b48
      by_cases he : x = y
      · have heb : ((x : Int) + 48 == (y : Int) + 48) = true := beq_iff_eq.2 (by omega)
        have hei : (x : Int) + 48 = (y : Int) + 48 := by omega
        have hei2 : (x : Int) = (y : Int) := by omega
        have HV := Lib.hid (show hitK s t (k + 1) = o + 1 by rw [HS.out, if_pos he])
        have HVP := Lib.hid (fun d => (show (ipK s t d k : Int) = (ipK s t d (k + 1) : Int) by rw [HPS.out, if_neg (by simp [he])]; simp))
        have HVQ := Lib.hid (fun d => (show (igK s t d k : Int) = (igK s t d (k + 1) : Int) by rw [HQS.out, if_neg (by simp [he])]; simp))
        clear he cP cQ
        go_wp2
        go_quiet (fail)
        go_wp2
        have xd := ext_drewN (Ext.refl wr) nq
        refine ⟨⟨k + 1, by omega, by go_num, ?_, ?_, ?_, ?_, ?_⟩, by simp [intOf]; omega⟩
        · rw [HV.out]
          exact (HG.out.ext xd).set1 _
        · exact ((HP.out.ext xd).other ⟨R + 1, 1, none⟩ _ (by show R + 1 + 1 ≠ R + 1; omega)).congr (fun d _ => HVP.out d)
        · exact ((HQ.out.ext xd).other ⟨R + 1, 1, none⟩ _ (by show R + 1 + 1 + 1 ≠ R + 1; omega)).congr (fun d _ => HVQ.out d)
        · exact (HZ.out.ext xd).other ⟨R + 1, 1, none⟩ _ (by show R ≠ R + 1; omega)
        · exact (HX.out.trans xd).setCell (p := ⟨R + 1, 1, none⟩) (by show w.heap.size ≤ R + 1; have := HR.out; omega) _
      · have heb : ((x : Int) + 48 == (y : Int) + 48) = false := beq_eq_false_iff_ne.2 (by omega)
        have hei : ¬ (x : Int) + 48 = (y : Int) + 48 := by omega
        have hei2 : ¬ (x : Int) = (y : Int) := by omega
        have HV := Lib.hid (show hitK s t (k + 1) = o by rw [HS.out, if_neg he]; rfl)
        obtain ⟨u, hu⟩ : ∃ u, u = ipK s t x k := ⟨_, rfl⟩
        obtain ⟨v, hv⟩ : ∃ v, v = igK s t y k := ⟨_, rfl⟩
        have HVP := Lib.hid (fun d => (show (if d = x then (u : Int) + 1 else (ipK s t d k : Int)) = (ipK s t d (k + 1) : Int) by
          rw [HPS.out]
          by_cases e : d = x
          · rw [if_pos e, if_pos ⟨he, e.symm⟩, e, hu]; simp
          · rw [if_neg e, if_neg (fun h => e h.2.symm)]; simp))
        have HVQ := Lib.hid (fun d => (show (if d = y then (v : Int) + 1 else (igK s t d k : Int)) = (igK s t d (k + 1) : Int) by
          rw [HQS.out]
          by_cases e : d = y
          · rw [if_pos e, if_pos ⟨he, e.symm⟩, e, hv]; simp
          · rw [if_neg e, if_neg (fun h => e h.2.symm)]; simp))
        rw [← hu] at hpl cP
        rw [← hv] at hql cQ
        have fP := HP.out.fr x
        have fQ := HQ.out.fr y
        have Wx : IntKind.u8.wrap ((x : Int) + 48 - 48) = (x : Int) := by rw [IntWalk.u8_in _ (by omega)]; omega
        have Wy : IntKind.u8.wrap ((y : Int) + 48 - 48) = (y : Int) := by rw [IntWalk.u8_in _ (by omega)]; omega
        have hxi : (x : Int) < 10 := by omega
        have hyi : (y : Int) < 10 := by omega
        clear he hu hv c1 f1
        go_wp2
        go_quiet (fail)
        go_wp2
        have xd := ext_drewN (Ext.refl wr) nq
        refine ⟨⟨k + 1, by omega, by go_num, ?_, ?_, ?_, ?_, ?_⟩, by simp [intOf]; omega⟩
        · rw [HV.out]
          exact ((HG.out.ext xd).other ⟨R + 1 + 1, x, none⟩ _ (by show R + 1 ≠ R + 1 + 1; omega)).other ⟨R + 1 + 1 + 1, y, none⟩ _ (by show R + 1 ≠ R + 1 + 1 + 1; omega)
        · exact (((HP.out.ext xd).set x _).other ⟨R + 1 + 1 + 1, y, none⟩ _ (by show R + 1 + 1 ≠ R + 1 + 1 + 1; omega)).congr (fun d _ => HVP.out d)
        · exact (((HQ.out.ext xd).other ⟨R + 1 + 1, x, none⟩ _ (by show R + 1 + 1 + 1 ≠ R + 1 + 1; omega)).set y _).congr (fun d _ => HVQ.out d)
        · exact ((HZ.out.ext xd).other ⟨R + 1 + 1, x, none⟩ _ (by show R ≠ R + 1 + 1; omega)).other ⟨R + 1 + 1 + 1, y, none⟩ _ (by show R ≠ R + 1 + 1 + 1; omega)
        · exact ((HX.out.trans xd).setCell (p := ⟨R + 1 + 1, x, none⟩) (by show w.heap.size ≤ R + 1 + 1; have := HR.out; omega) _).setCell (p := ⟨R + 1 + 1 + 1, y, none⟩) (by show w.heap.size ≤ R + 1 + 1 + 1; have := HR.out; omega) _
    · have hkn : ¬ (k : Int) < (s.size : Int) := by omega
      have HK := Lib.hid (show k = s.size by omega)
      have HG2 := Lib.hid (show GuB wr (R + 1) t (hitK s t s.size : Nat) 0 by rw [← HK.out]; exact HG.out)
      have HP2 := Lib.hid (show TabD wr (R + 1 + 1) (fun d => (ipK s t d s.size : Int)) by rw [← HK.out]; exact HP.out)
      have HQ2 := Lib.hid (show TabD wr (R + 1 + 1 + 1) (fun d => (igK s t d s.size : Int)) by rw [← HK.out]; exact HQ.out)
      obtain ⟨A, hA⟩ : ∃ A, A = (rowN 10 (fun d => (ipK s t d s.size : Int))).toArray := ⟨_, rfl⟩
      have HA := Lib.hid (show wr.heap[R + 1 + 1]? = some (.cells A 88) by rw [hA]; exact HP2.out)
      have HNA := Lib.hid (show (Try.prog.info? 88).map (·.size) = some A.size by rw [hA, List.size_toArray, rowN_len]; kernel_rfl)
      have HIX := Lib.hid (fun j (hj : j < 10) w => ixDR A j hj (.int .i64 (ipK s t j s.size : Int)) (by rw [hA, List.getElem?_toArray]; exact rowN_at 10 _ j hj) w)
      obtain ⟨H, hH⟩ : ∃ H, H = hitK s t s.size := ⟨_, rfl⟩
      rw [← hH] at HG2
      have HHE := Lib.hid hH
      obtain ⟨n, hn⟩ : ∃ n, n = s.size := ⟨_, rfl⟩
      have HN := Lib.hid hn
      have hn4 : n ≤ 4 := by omega
      rw [← hn] at HP2 HQ2 HIX
      clear hA hH hn HP HQ HG hlt hk
      obtain ⟨wo, hwo⟩ : ∃ wo, wo = wr := ⟨_, rfl⟩
      rw [← hwo] at HG2 HP2 HQ2 HZ HX HA ⊢
      clear hwo
      go_wp2_with (first | (refine wpList_load_row rfl _ _ rfl (R + 1 + 1) rfl 88 A (0, 0) _ HA.out Try.underlying88 rfl HNA.out ?_))
      have X2 := Lib.hid HX.out
      go_loopw [47] (fun q wr => ∃ j : Nat, j ≤ 10 ∧ q = .int .i64 j ∧ GuB wr (R + 1) t (H : Nat) (nrK s t j : Nat) ∧ TabD wr (R + 1 + 1 + 1) (fun d => (igK s t d n : Int)) ∧ GuB wr R ⟨#[]⟩ 0 0 ∧ Ext w wr) (fun q _ => 10 - (intOf q).toNat)
      case atStart => exact ⟨0, Nat.zero_le _, rfl, HG2.out, HQ2.out, HZ.out, HX.out⟩
      case round =>
        obtain ⟨j, hj, rfl, hG, hQ, hZ, hx⟩ := hrel
        have HG3 := Lib.hid hG
        have HQ3 := Lib.hid hQ
        have HZ3 := Lib.hid hZ
        have HX3 := Lib.hid hx
        clear hG hQ hZ hx
        by_cases hlt : j < 10
        · have hji : (j : Int) < 10 := by omega
          have hix := HIX.out j hlt
          have HNS := Lib.hid (nrK_succ s t j)
          have hnl := nrK_le s t j
          have hmul : j * s.size ≤ 10 * 4 := Nat.mul_le_mul (by omega) hz4
          have hpl := ipK_le s t j n
          have hql := igK_le s t j n
          have cQ := HQ3.out.at j hlt
          have fQ := HQ3.out.fr j
          have c2 := HG3.out.at2
          have f2 := HG3.out.fr 2
          have hnn := HN.out
          rw [← hnn] at HNS
          obtain ⟨u, hu⟩ : ∃ u, u = ipK s t j n := ⟨_, rfl⟩
          obtain ⟨v, hv⟩ : ∃ v, v = igK s t j n := ⟨_, rfl⟩
          obtain ⟨O, hO⟩ : ∃ O, O = nrK s t j := ⟨_, rfl⟩
          rw [← hu] at hpl hix HNS
          rw [← hv] at hql cQ HNS
          rw [← hO] at HNS hnl c2 HG3
          obtain ⟨r, hr⟩ : ∃ r, r = min u v := ⟨_, rfl⟩
          have E : min (u : Int) (v : Int) = (r : Int) := by rw [hr]; omega
          rw [← hr] at HNS
          have hr4 : r ≤ 4 := by omega
          have hO40 : O ≤ 40 := by omega
          have HSET := Lib.hid (fun (wz : World) (hz : Ext wr wz) => show GuB (wz.setCell ⟨R + 1, 2, none⟩ (.int .i64 ((O : Int) + (r : Int)))) (R + 1) t (H : Nat) (nrK s t (j + 1) : Nat) ∧ TabD (wz.setCell ⟨R + 1, 2, none⟩ (.int .i64 ((O : Int) + (r : Int)))) (R + 1 + 1 + 1) (fun d => (igK s t d n : Int)) ∧ GuB (wz.setCell ⟨R + 1, 2, none⟩ (.int .i64 ((O : Int) + (r : Int)))) R ⟨#[]⟩ 0 0 ∧ Ext w (wz.setCell ⟨R + 1, 2, none⟩ (.int .i64 ((O : Int) + (r : Int)))) from by
            refine ⟨?_, (HQ3.out.ext hz).other ⟨R + 1, 2, none⟩ _ (by show R + 1 + 1 + 1 ≠ R + 1; omega), (HZ3.out.ext hz).other ⟨R + 1, 2, none⟩ _ (by show R ≠ R + 1; omega), (HX3.out.trans hz).setCell (p := ⟨R + 1, 2, none⟩) (by show w.heap.size ≤ R + 1; have := HR.out; omega) _⟩
            rw [HNS.out]
            have := (HG3.out.ext hz).set2 ((O : Int) + (r : Int))
            simpa using this)
          clear hu hv hO hr hnl hmul hnn hlt
          go_wp2
          go_region
          all_goals go_wp2
          have hs := HSET.out wr (Ext.refl _)
          have hd := (Ext.refl (wr.setCell ⟨R + 1, 2, none⟩ (.int .i64 ((O : Int) + (r : Int))))).drew
          exact ⟨⟨j + 1, by omega, by go_num, hs.1.ext hd, hs.2.1.ext hd, hs.2.2.1.ext hd, hs.2.2.2.trans hd⟩, by simp [intOf]; omega⟩
        · obtain rfl : j = 10 := by omega
          obtain ⟨N, hN⟩ : ∃ N, N = nrK s t 10 := ⟨_, rfl⟩
          rw [← hN] at HG3
          have HNE := Lib.hid hN
          have HSZ := Lib.hid (gu_size t (H : Nat) (N : Nat))
          obtain ⟨W4, st4, G4, X4⟩ := gu_store wr R _ _ _ HZ3.out t (H : Nat) (N : Nat) HX3.out (Nat.le_of_eq HR.out.symm)
          have HRET := Lib.hid (show Ending.returned (.agg #[.string t, .int .i64 (H : Int), .int .i64 (N : Int)]) = Ending.returned (.agg #[.string t, .int .i64 ((hitK s t s.size : Nat) : Int), .int .i64 ((nrK s t 10 : Nat) : Int)]) from by rw [HHE.out, hN])
          obtain ⟨A2, hA2⟩ : ∃ A2 : Array Value, A2 = #[.string t, .int .i64 (H : Int), .int .i64 (N : Int)] := ⟨_, rfl⟩
          have HGX := Lib.hid (show wr.heap[R + 1]? = some (.cells A2 66) from by rw [hA2]; exact HG3.out)
          have st5 : (storeCells ⟨R, 0, none⟩ A2.toList).run Try.prog wr = .ok () W4 := by rw [hA2]; exact st4
          have HGY := Lib.hid (show W4.heap[R]? = some (.cells A2 66) from by rw [hA2]; exact G4)
          have hA3 : A2.size = 3 := by rw [hA2]; rfl
          rw [← hA2] at HSZ HRET
          clear hN hA2 st4 G4
          go_wp2_with (first | (refine wpList_load_row rfl _ _ rfl (R + 1) rfl 66 A2 (0, 0) _ HGX.out Try.underlying66 rfl HSZ.out ?_))
          exact bodyPost_ret (results_cell_row (P := Try.prog) (p := 4) (ty := 66) rfl _ _ R 66 A2 (0, 0) _ rfl HGY.out Try.underlying66 rfl HSZ.out) rfl ⟨HRET.out, X4⟩
end Go.Proofs.Ytmpajijnpoekgaa
