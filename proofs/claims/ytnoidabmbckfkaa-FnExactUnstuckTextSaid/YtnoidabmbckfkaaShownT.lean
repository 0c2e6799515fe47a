/- Texts shown with dead and stuck letters: the program's way and its model's. No conditions. -/
import Derived.Test.YtnoidabmbckfkaaShown3
namespace Go.Proofs.Ytnoidabmbckfkaa
open Go.RowKit

theorem disj_symm (d s : List UInt8) : disj d s = disj s d := by
  have h : ∀ a b : List UInt8, disj a b = true → disj b a = true := by
    intro a b h
    unfold disj at h ⊢
    rw [List.all_eq_true] at h ⊢
    intro c hc
    cases hb : hasB b c
    · rfl
    · have := h c (hasB_mem.1 hb)
      rw [hasB_mem.2 hc] at this
      cases this
  cases h1 : disj d s
  · cases h2 : disj s d
    · rfl
    · rw [h _ _ h2] at h1; cases h1
  · exact (h _ _ h1).symm
def shOk (t d s : ByteArray) : Bool := isT 20 t && (isLs d && (isLs s && disj d.data.toList s.data.toList))
def shV (t d s : ByteArray) : ByteArray := if shOk t d s then tB (shw (by2 (hasB d.data.toList) (hasB s.data.toList)) t.data.toList) else ⟨#[]⟩
theorem shV_no {t d s : ByteArray} (h : shOk t d s = false) : shV t d s = ⟨#[]⟩ := by unfold shV; rw [h]; rfl
theorem shV_yes {t d s : ByteArray} (h : shOk t d s = true) : shV t d s = tB (shw (by2 (hasB d.data.toList) (hasB s.data.toList)) t.data.toList) := by unfold shV; rw [h]; rfl
theorem shOk_t {t d s : ByteArray} (h : isT 20 t = false) : shOk t d s = false := by unfold shOk; rw [h]; rfl
theorem shOk_d {t d s : ByteArray} (h : isLs d = false) : shOk t d s = false := by unfold shOk; rw [h]; simp
theorem shOk_s {t d s : ByteArray} (h : isLs s = false) : shOk t d s = false := by unfold shOk; rw [h]; simp
theorem shOk_j {t d s : ByteArray} (h : disj d.data.toList s.data.toList = false) : shOk t d s = false := by unfold shOk; rw [h]; simp
theorem shOk_y {t d s : ByteArray} (h : isT 20 t = true) (h2 : isLs d = true) (h3 : isLs s = true) (h4 : disj d.data.toList s.data.toList = true) : shOk t d s = true := by unfold shOk; rw [h, h2, h3, h4]; rfl

set_option maxRecDepth 100000 in
set_option maxHeartbeats 4000000 in
theorem shownI_any (t d s : ByteArray) (w : World) (ht : t.size ≤ maxLen) (hd : d.size ≤ maxLen) (hs : s.size ≤ maxLen) : Calls Try.prog 25 #[.string t, .string d, .string s] w fun e w' => e = .returned (.tuple #[.string (shV t d s), .bool (shOk t d s)]) ∧ Ext w w' := by
  cases h1 : isT 20 t
  · have HO := Lib.hid (shOk_t (d := d) (s := s) h1)
    go_enter Try.func25, Try.ntmps25
    go_wp2_with (go_at_call 45; refine (isTyped_any _ _ ht).mono ?_; rintro e w1 ⟨rfl, x1⟩; rw [h1])
    go_ret2
    exact ⟨ret_sB (shV_no HO.out).symm HO.out.symm, x1⟩
  cases h2 : isLs d
  · have HO := Lib.hid (shOk_d (t := t) (s := s) h2)
    go_enter Try.func25, Try.ntmps25
    go_wp2_with (first | (go_at_call 45; refine (isTyped_any _ _ ht).mono ?_; rintro e w1 ⟨rfl, x1⟩; rw [h1]) | (go_at_call 50; refine (lettersI_any _ _ (by assumption)).mono ?_; rintro e w2 ⟨rfl, x2⟩; rw [h2]))
    go_ret2
    exact ⟨ret_sB (shV_no HO.out).symm HO.out.symm, x1.trans x2⟩
  cases h3 : isLs s
  · have HO := Lib.hid (shOk_s (t := t) (d := d) h3)
    go_enter Try.func25, Try.ntmps25
    go_wp2_with (first | (go_at_call 45; refine (isTyped_any _ _ ht).mono ?_; rintro e w1 ⟨rfl, x1⟩; rw [h1]) | (go_at_call 50; refine (lettersI_any _ _ (by assumption)).mono ?_; first | (rw [h2]; rintro e w2 ⟨rfl, x2⟩) | (rw [h3]; rintro e w3 ⟨rfl, x3⟩)))
    go_ret2
    exact ⟨ret_sB (shV_no HO.out).symm HO.out.symm, (x1.trans x2).trans x3⟩
  have HD := Lib.hid (isLs_and h2)
  have HS := Lib.hid (isLs_and h3)
  have HT := Lib.hid h1
  cases h4 : disj d.data.toList s.data.toList
  · have HO := Lib.hid (shOk_j (t := t) h4)
    obtain ⟨RR, hRR⟩ : ∃ RR, RR = (row26 (swR d s)).toArray := ⟨_, rfl⟩
    have HRR := Lib.hid hRR
    have hRRs : RR.size = 26 := by rw [hRR, List.size_toArray, row26_len]
    clear hRR
    go_enter Try.func25, Try.ntmps25
    go_wp2_with (first | (go_at_call 45; refine (isTyped_any _ _ ht).mono ?_; rintro e w1 ⟨rfl, x1⟩; rw [h1]) | (go_at_call 50; refine (lettersI_any _ _ (by assumption)).mono ?_; first | (rw [h2]; rintro e w2 ⟨rfl, x2⟩) | (rw [h3]; rintro e w3 ⟨rfl, x3⟩)) | (go_at_call 51; refine (showsW_any d s _ HD.out HS.out).mono ?_; rw [h4, ← HRR.out]; rintro e w4 ⟨rfl, x4⟩; have hT0 : TabR (w4.alloc (.cells #[.int .i64 0, .int .i64 0, .int .i64 0, .int .i64 0, .int .i64 0, .int .i64 0, .int .i64 0, .int .i64 0, .int .i64 0, .int .i64 0, .int .i64 0, .int .i64 0, .int .i64 0, .int .i64 0, .int .i64 0, .int .i64 0, .int .i64 0, .int .i64 0, .int .i64 0, .int .i64 0, .int .i64 0, .int .i64 0, .int .i64 0, .int .i64 0, .int .i64 0, .int .i64 0] 43)) w4.heap.size (fun _ => 0) := (by unfold TabR; rw [zero26]; exact heap_alloc_new w4 _); obtain ⟨W6, hst0, hg6, X6⟩ := row26_store (w := w) (w4.alloc (.cells #[.int .i64 0, .int .i64 0, .int .i64 0, .int .i64 0, .int .i64 0, .int .i64 0, .int .i64 0, .int .i64 0, .int .i64 0, .int .i64 0, .int .i64 0, .int .i64 0, .int .i64 0, .int .i64 0, .int .i64 0, .int .i64 0, .int .i64 0, .int .i64 0, .int .i64 0, .int .i64 0, .int .i64 0, .int .i64 0, .int .i64 0, .int .i64 0, .int .i64 0, .int .i64 0] 43)) w4.heap.size (fun _ => 0) (swR d s) hT0 ((((x1.trans x2).trans x3).trans x4).alloc _) (((x1.trans x2).trans x3).trans x4).size; have hst : (storeCells ⟨w4.heap.size, 0, none⟩ RR.toList).run Try.prog (w4.alloc (.cells #[.int .i64 0, .int .i64 0, .int .i64 0, .int .i64 0, .int .i64 0, .int .i64 0, .int .i64 0, .int .i64 0, .int .i64 0, .int .i64 0, .int .i64 0, .int .i64 0, .int .i64 0, .int .i64 0, .int .i64 0, .int .i64 0, .int .i64 0, .int .i64 0, .int .i64 0, .int .i64 0, .int .i64 0, .int .i64 0, .int .i64 0, .int .i64 0, .int .i64 0, .int .i64 0] 43)) = .ok () W6 := (by rw [HRR.out]; exact hst0); have G6 := Lib.hid (show W6.heap[w4.heap.size]? = some (.cells RR 43) by rw [HRR.out]; exact hg6); clear hst0 hg6 hT0))

    go_ret2
    exact ⟨ret_sB (shV_no HO.out).symm HO.out.symm, X6⟩
  have HO := Lib.hid (shOk_y h1 h2 h3 h4)
  have HRW := Lib.hid (show (row26 (swR d s)).toArray = (row26 (rwF (by2 (hasB d.data.toList) (hasB s.data.toList)))).toArray from congrArg List.toArray (row26_congr fun j _ => by unfold swR; rw [if_pos h4]))
  obtain ⟨RR, hRR⟩ : ∃ RR, RR = (row26 (swR d s)).toArray := ⟨_, rfl⟩
  have HRR := Lib.hid hRR
  rw [← hRR] at HRW
  have hRRs : RR.size = 26 := by rw [hRR, List.size_toArray, row26_len]
  have HNR := Lib.hid (show (Try.prog.info? 43).map (·.size) = some RR.size by rw [hRRs]; kernel_rfl)
  clear hRR
  go_enter Try.func25, Try.ntmps25
  go_wp2_with (first | (go_at_call 45; refine (isTyped_any _ _ ht).mono ?_; rintro e w1 ⟨rfl, x1⟩; rw [h1]) | (go_at_call 50; refine (lettersI_any _ _ (by assumption)).mono ?_; first | (rw [h2]; rintro e w2 ⟨rfl, x2⟩) | (rw [h3]; rintro e w3 ⟨rfl, x3⟩)) | (go_at_call 51; refine (showsW_any d s _ HD.out HS.out).mono ?_; rw [h4, ← HRR.out]; rintro e w4 ⟨rfl, x4⟩; have hT0 : TabR (w4.alloc (.cells #[.int .i64 0, .int .i64 0, .int .i64 0, .int .i64 0, .int .i64 0, .int .i64 0, .int .i64 0, .int .i64 0, .int .i64 0, .int .i64 0, .int .i64 0, .int .i64 0, .int .i64 0, .int .i64 0, .int .i64 0, .int .i64 0, .int .i64 0, .int .i64 0, .int .i64 0, .int .i64 0, .int .i64 0, .int .i64 0, .int .i64 0, .int .i64 0, .int .i64 0, .int .i64 0] 43)) w4.heap.size (fun _ => 0) := (by unfold TabR; rw [zero26]; exact heap_alloc_new w4 _); obtain ⟨W6, hst0, hg6, X6⟩ := row26_store (w := w) (w4.alloc (.cells #[.int .i64 0, .int .i64 0, .int .i64 0, .int .i64 0, .int .i64 0, .int .i64 0, .int .i64 0, .int .i64 0, .int .i64 0, .int .i64 0, .int .i64 0, .int .i64 0, .int .i64 0, .int .i64 0, .int .i64 0, .int .i64 0, .int .i64 0, .int .i64 0, .int .i64 0, .int .i64 0, .int .i64 0, .int .i64 0, .int .i64 0, .int .i64 0, .int .i64 0, .int .i64 0] 43)) w4.heap.size (fun _ => 0) (swR d s) hT0 ((((x1.trans x2).trans x3).trans x4).alloc _) (((x1.trans x2).trans x3).trans x4).size; have hst : (storeCells ⟨w4.heap.size, 0, none⟩ RR.toList).run Try.prog (w4.alloc (.cells #[.int .i64 0, .int .i64 0, .int .i64 0, .int .i64 0, .int .i64 0, .int .i64 0, .int .i64 0, .int .i64 0, .int .i64 0, .int .i64 0, .int .i64 0, .int .i64 0, .int .i64 0, .int .i64 0, .int .i64 0, .int .i64 0, .int .i64 0, .int .i64 0, .int .i64 0, .int .i64 0, .int .i64 0, .int .i64 0, .int .i64 0, .int .i64 0, .int .i64 0, .int .i64 0] 43)) = .ok () W6 := (by rw [HRR.out]; exact hst0); have G6 := Lib.hid (show W6.heap[w4.heap.size]? = some (.cells RR 43) by rw [HRR.out]; exact hg6); clear hst0 hg6 hT0) | (refine wpList_load_row rfl _ _ rfl (w4.heap.size) rfl 43 RR (0, 0) _ G6.out Try.underlying43 rfl HNR.out ?_) | (go_at_call 52; rw [HRW.out]; refine (showI_any _ t _ (by2_le _ _) HT.out).mono ?_; rintro e w5 ⟨rfl, x5⟩))
  go_ret2
  exact ⟨ret_sB (shV_yes HO.out).symm HO.out.symm, X6.trans x5⟩

set_option maxRecDepth 100000 in
set_option maxHeartbeats 4000000 in
theorem shownS_any (t d s : ByteArray) (w : World) (ht : t.size ≤ maxLen) (hd : d.size ≤ maxLen) (hs : s.size ≤ maxLen) : Calls Try.prog 24 #[.string t, .string d, .string s] w fun e w' => e = .returned (.tuple #[.string (shV t d s), .bool (shOk t d s)]) ∧ Ext w w' := by
  cases h1 : isT 20 t
  · have HO := Lib.hid (shOk_t (d := d) (s := s) h1)
    go_enter Try.func24, Try.ntmps24
    go_wp2_with (go_at_call 43; refine (bkText_any _ _ ht).mono ?_; rintro e w1 ⟨rfl, rfl⟩; rw [h1])
    go_ret2
    exact ⟨ret_sB (shV_no HO.out).symm HO.out.symm, Ext.refl _⟩
  cases h2 : isLs d
  · have HO := Lib.hid (shOk_d (t := t) (s := s) h2)
    go_enter Try.func24, Try.ntmps24
    go_wp2_with (first | (go_at_call 43; refine (bkText_any _ _ ht).mono ?_; rintro e w1 ⟨rfl, rfl⟩; rw [h1]) | (go_at_call 47; refine (lettersS_any _ _ (by assumption)).mono ?_; rw [h2]; rintro e w2 ⟨rfl, x2⟩))
    go_ret2
    exact ⟨ret_sB (shV_no HO.out).symm HO.out.symm, x2⟩
  cases h3 : isLs s
  · have HO := Lib.hid (shOk_s (t := t) (d := d) h3)
    go_enter Try.func24, Try.ntmps24
    go_wp2_with (first | (go_at_call 43; refine (bkText_any _ _ ht).mono ?_; rintro e w1 ⟨rfl, rfl⟩; rw [h1]) | (go_at_call 47; refine (lettersS_any _ _ (by assumption)).mono ?_; first | (rw [h2]; rintro e w2 ⟨rfl, x2⟩) | (rw [h3]; rintro e w3 ⟨rfl, x3⟩)))
    go_ret2
    exact ⟨ret_sB (shV_no HO.out).symm HO.out.symm, x2.trans x3⟩
  have h20 := isT_size h1
  have hd20 := isT_size (isLs_and h2)
  have HOJ := Lib.hid (fun h4 : disj d.data.toList s.data.toList = false => shOk_j (t := t) h4)
  have HOY := Lib.hid (fun h4 : disj d.data.toList s.data.toList = true => shOk_y h1 h2 h3 h4)
  go_enter Try.func24, Try.ntmps24
  go_wp2_with (first | (go_at_call 43; refine (bkText_any _ _ ht).mono ?_; rintro e w1 ⟨rfl, rfl⟩; rw [h1]) | (go_at_call 47; refine (lettersS_any _ _ (by assumption)).mono ?_; first | (rw [h2]; rintro e w2 ⟨rfl, x2⟩) | (rw [h3]; rintro e w3 ⟨rfl, x3⟩)))
  clear h1 h2 h3
  go_loopw [8] (fun i wr => ∃ k : Nat, k ≤ d.size ∧ i = .int .i64 k ∧ (∀ q, q < k → hasB s.data.toList (sg d q) = false) ∧ Ext w wr) (fun i _ => d.size - (intOf i).toNat)
  case atStart => exact ⟨0, Nat.zero_le _, rfl, fun q hq => absurd hq (by omega), x2.trans x3⟩
  case round =>
    obtain ⟨k, hk, rfl, hno, hx⟩ := hrel
    have HNO := Lib.hid hno
    clear hno
    by_cases hlt : k < d.size
    · have ik : ∀ w, (Instr.index 9 (.string d) (.int .i64 (k : Int))).run Try.prog w = .ok (.int .u8 ((sg d k).toNat : Int)) w := fun w => ixB d k hlt w
      cases hc : hasB s.data.toList (sg d k)
      · have HN := Lib.hid (show ∀ q, q < k + 1 → hasB s.data.toList (sg d q) = false from fun q hq => by
          by_cases e : q = k
          · rw [e]; exact hc
          · exact HNO.out q (by omega))
        go_wp2_with (go_at_call 48; refine (hasS_any _ _ _ (by assumption)).mono ?_; rintro e w4 ⟨rfl, rfl⟩; rw [hc])
        go_roundw
        case rel => exact ⟨k + 1, by omega, by go_num, HN.out, hx⟩
        case measure => simp [intOf] <;> omega
      · have HO := Lib.hid (HOJ.out (by rw [disj_symm]; exact disj_no hlt hc))
        go_wp2_with (go_at_call 48; refine (hasS_any _ _ _ (by assumption)).mono ?_; rintro e w4 ⟨rfl, rfl⟩; rw [hc])
        go_ret2
        exact ⟨ret_sB (shV_no HO.out).symm HO.out.symm, hx⟩
    · have HO := Lib.hid (HOY.out (by rw [disj_symm]; exact disj_yes (fun q hq => HNO.out q (by omega))))
      go_wp2_with (go_at_call 49; refine (showS_any t d s _ h20 hd hs).mono ?_; rintro e w5 ⟨rfl, x5⟩)
      go_ret2
      exact ⟨ret_sB (shV_yes HO.out).symm HO.out.symm, hx.trans x5⟩
end Go.Proofs.Ytnoidabmbckfkaa
