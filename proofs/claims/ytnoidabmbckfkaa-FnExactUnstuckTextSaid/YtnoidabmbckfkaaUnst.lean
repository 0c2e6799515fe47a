/- The text from what is shown with letters that stick: the program's way. No conditions. -/
import Derived.Test.YtnoidabmbckfkaaShownT
namespace Go.Proofs.Ytnoidabmbckfkaa
open Go.RowKit

def stB (s : ByteArray) : UInt8 → Bool := hasB s.data.toList
theorem by2_twice (s : ByteArray) : by2 (hasB (⟨#[]⟩ : ByteArray).data.toList) (hasB s.data.toList) = twice (stB s) := by
  funext c
  rfl
theorem disj_empty (s : ByteArray) : disj (⟨#[]⟩ : ByteArray).data.toList s.data.toList = true := by
  unfold disj
  rw [List.all_eq_true]
  intro c _
  rfl
theorem twice_le (st : UInt8 → Bool) (c : UInt8) : twice st c ≤ 2 := by unfold twice; split <;> omega
theorem twice_ge (st : UInt8 → Bool) (c : UInt8) : 1 ≤ twice st c := by unfold twice; split <;> omega
theorem un_step {st : UInt8 → Bool} {h : ByteArray} {p : Nat} (hp : p < h.size) : un st (h.data.toList.drop p) = sg h p :: un st (h.data.toList.drop (p + twice st (sg h p))) := by
  rw [List.drop_eq_getElem_cons (by simpa using hp), un]
  have e : h.data.toList[p]'(by simpa using hp) = sg h p := by rw [← sg_at h p hp]; rfl
  rw [e, List.drop_drop]
  congr 2
  unfold twice
  congr 1
  split <;> omega
theorem un_end {st : UInt8 → Bool} {h : ByteArray} {p : Nat} (hp : h.size ≤ p) : un st (h.data.toList.drop p) = [] := by
  rw [List.drop_of_length_le (by simpa using hp), un]
def unT (h s : ByteArray) : ByteArray := tB (un (stB s) h.data.toList)
def unR (h s : ByteArray) : ByteArray := tB (shw (twice (stB s)) (un (stB s) h.data.toList))
def unOk (h s : ByteArray) : Bool := isT 40 h && (isLs s && (isT 20 (unT h s) && decide (unR h s = h)))
def unV (h s : ByteArray) : ByteArray := if unOk h s then unT h s else ⟨#[]⟩
theorem unV_no {h s : ByteArray} (k : unOk h s = false) : unV h s = ⟨#[]⟩ := by unfold unV; rw [k]; rfl
theorem unV_yes {h s : ByteArray} (k : unOk h s = true) : unV h s = unT h s := by unfold unV; rw [k]; rfl
theorem unOk_h {h s : ByteArray} (k : isT 40 h = false) : unOk h s = false := by unfold unOk; rw [k]; rfl
theorem unOk_s {h s : ByteArray} (k : isLs s = false) : unOk h s = false := by unfold unOk; rw [k]; simp
theorem unOk_t {h s : ByteArray} (k : isT 20 (unT h s) = false) : unOk h s = false := by unfold unOk; rw [k]; simp
theorem unOk_r {h s : ByteArray} (k : ¬ unR h s = h) : unOk h s = false := by unfold unOk; rw [decide_eq_false k]; simp
theorem unOk_y {h s : ByteArray} (k : isT 40 h = true) (k2 : isLs s = true) (k3 : isT 20 (unT h s) = true) (k4 : unR h s = h) : unOk h s = true := by unfold unOk; rw [k, k2, k3, decide_eq_true k4]; rfl
theorem beqU (a b : ByteArray) : (a.toList == b.toList) = decide (a = b) := by
  rw [Lib.toList_data, Lib.toList_data]
  by_cases e : a = b
  · rw [e, decide_eq_true rfl]; exact beq_self_eq_true _
  · rw [decide_eq_false e]
    refine beq_eq_false_iff_ne.2 fun h => e ?_
    apply ByteArray.ext
    exact Array.toList_inj.1 h

theorem wpList_load_rowG {P : Program} {ops : Array Oper} {rest : List Oper} {o : Oper} {a : Act} {w : World} {Q : Exit → Act → World → Prop} (hwn : Region.wanted o (yielded ops a.tmps) = true) (ty : TypeId) (x : Operand) (ho : o.op = .load ty x)
    (g : Nat) (hx : a.eval x = .pointer (some ⟨g, 0, none⟩)) (t : TypeId) (cs : Array Value) (fr : Nat × Nat) (d : TypeDesc) (hg : w.heap[g]? = some (.cells cs t fr))
    (hu : P.underlying ty = some d) (hd : (match d with | .struct _ | .array _ _ => true | _ => false) = true) (hi : (P.info? ty).map (·.size) = some cs.size)
    (h : wpList P ops Q rest (a.put o.dst (.agg cs)) w) : wpList P ops Q (o :: rest) a w :=
  wpList_step fun K hK => by rw [if_pos hwn]; exact wp_load_row ty x ho g hx t cs fr d hg hu hd hi (hK _ _ h)

set_option maxRecDepth 100000 in
set_option maxHeartbeats 4000000 in
theorem unI_any (h s : ByteArray) (w : World) (hh : h.size ≤ maxLen) (hs : s.size ≤ maxLen) : Calls Try.prog 33 #[.string h, .string s] w fun e w' => e = .returned (.tuple #[.string (unV h s), .bool (unOk h s)]) ∧ Ext w w' := by
  cases h1 : isT 40 h
  · have HO := Lib.hid (unOk_h (s := s) h1)
    go_enter Try.func33, Try.ntmps33
    go_wp2_with (go_at_call 55; refine (isShown_any _ _ hh).mono ?_; rintro e w1 ⟨rfl, x1⟩; rw [h1])
    go_ret2
    exact ⟨ret_sB (unV_no HO.out).symm HO.out.symm, x1⟩
  cases h2 : isLs s
  · have HO := Lib.hid (unOk_s (h := h) h2)
    go_enter Try.func33, Try.ntmps33
    go_wp2_with (first | (go_at_call 55; refine (isShown_any _ _ hh).mono ?_; rintro e w1 ⟨rfl, x1⟩; rw [h1]) | (go_at_call 50; refine (lettersI_any _ _ hs).mono ?_; rintro e w2 ⟨rfl, x2⟩; rw [h2]))
    go_ret2
    exact ⟨ret_sB (unV_no HO.out).symm HO.out.symm, x1.trans x2⟩
  have HH := Lib.hid h1
  have HS := Lib.hid (isLs_and h2)
  have h40 := isT_size h1
  have HE := Lib.hid (show isT 20 (⟨#[]⟩ : ByteArray) = true from rfl)
  have HDJ := Lib.hid (disj_empty s)
  have HRW := Lib.hid (show (row26 (swR ⟨#[]⟩ s)).toArray = (row26 (rwF (twice (stB s)))).toArray from congrArg List.toArray (row26_congr fun j _ => by unfold swR; rw [if_pos (disj_empty s), by2_twice]))
  obtain ⟨RR, hRR⟩ : ∃ RR, RR = (row26 (swR ⟨#[]⟩ s)).toArray := ⟨_, rfl⟩
  have HRR := Lib.hid hRR
  rw [← hRR] at HRW
  have hRRs : RR.size = 26 := by rw [hRR, List.size_toArray, row26_len]
  have HNR := Lib.hid (show (Try.prog.info? 43).map (·.size) = some RR.size by rw [hRRs]; kernel_rfl)
  clear hRR
  go_enter Try.func33, Try.ntmps33
  go_wp2_with (first | (go_at_call 55; refine (isShown_any _ _ hh).mono ?_; rintro e w1 ⟨rfl, x1⟩; rw [h1]) | (go_at_call 50; refine (lettersI_any _ _ hs).mono ?_; rintro e w2 ⟨rfl, x2⟩; rw [h2]) | (go_at_call 51; refine (showsW_any ⟨#[]⟩ s _ HE.out HS.out).mono ?_; rw [HDJ.out, ← HRR.out]; rintro e w4 ⟨rfl, x4⟩; have hT0 : TabR (w4.alloc (.cells #[.int .i64 0, .int .i64 0, .int .i64 0, .int .i64 0, .int .i64 0, .int .i64 0, .int .i64 0, .int .i64 0, .int .i64 0, .int .i64 0, .int .i64 0, .int .i64 0, .int .i64 0, .int .i64 0, .int .i64 0, .int .i64 0, .int .i64 0, .int .i64 0, .int .i64 0, .int .i64 0, .int .i64 0, .int .i64 0, .int .i64 0, .int .i64 0, .int .i64 0, .int .i64 0] 43)) w4.heap.size (fun _ => 0) := (by unfold TabR; rw [zero26]; exact heap_alloc_new w4 _); obtain ⟨W6, hst0, hg6, X6⟩ := row26_store (w := w) (w4.alloc (.cells #[.int .i64 0, .int .i64 0, .int .i64 0, .int .i64 0, .int .i64 0, .int .i64 0, .int .i64 0, .int .i64 0, .int .i64 0, .int .i64 0, .int .i64 0, .int .i64 0, .int .i64 0, .int .i64 0, .int .i64 0, .int .i64 0, .int .i64 0, .int .i64 0, .int .i64 0, .int .i64 0, .int .i64 0, .int .i64 0, .int .i64 0, .int .i64 0, .int .i64 0, .int .i64 0] 43)) w4.heap.size (fun _ => 0) (swR ⟨#[]⟩ s) hT0 (((x1.trans x2).trans x4).alloc _) ((x1.trans x2).trans x4).size; have hst : (storeCells ⟨w4.heap.size, 0, none⟩ RR.toList).run Try.prog (w4.alloc (.cells #[.int .i64 0, .int .i64 0, .int .i64 0, .int .i64 0, .int .i64 0, .int .i64 0, .int .i64 0, .int .i64 0, .int .i64 0, .int .i64 0, .int .i64 0, .int .i64 0, .int .i64 0, .int .i64 0, .int .i64 0, .int .i64 0, .int .i64 0, .int .i64 0, .int .i64 0, .int .i64 0, .int .i64 0, .int .i64 0, .int .i64 0, .int .i64 0, .int .i64 0, .int .i64 0] 43)) = .ok () W6 := (by rw [HRR.out]; exact hst0); have G6 := Lib.hid (show TabR W6 w4.heap.size (rwF (twice (stB s))) by unfold TabR; rw [← HRW.out, HRR.out]; exact hg6); clear hst0 hg6 hT0))
  have X4 := X6
  obtain ⟨C, hC⟩ : ∃ C, C = w4.heap.size := ⟨_, rfl⟩
  rw [← hC] at G6 ⊢
  clear hC hst
  go_loopw [8, 9] (fun o q wr => ∃ (p : Nat) (l : List UInt8), p ≤ h.size + 1 ∧ q = .int .i64 p ∧ RowB w.heap.size wr o l ∧ l.length ≤ p ∧ l ++ un (stB s) (h.data.toList.drop p) = un (stB s) h.data.toList ∧ TabR wr C (rwF (twice (stB s))) ∧ Ext w wr) (fun _ q _ => h.size + 2 - (intOf q).toNat)
  case atStart => exact ⟨0, [], Nat.zero_le _, rfl, RowB.nil _ _, Nat.zero_le _, rfl, G6.out, X4⟩
  case round =>
    obtain ⟨p, l, hp, rfl, hr, hll, hun, hT, hx⟩ := hrel
    have HR := Lib.hid hr
    have HT := Lib.hid hT
    have HU := Lib.hid hun
    clear hr hT hun
    by_cases hlt : p < h.size
    · have ik : ∀ w, (Instr.index 9 (.string h) (.int .i64 (p : Int))).run Try.prog w = .ok (.int .u8 ((sg h p).toNat : Int)) w := fun w => ixB h p hlt w
      have hb := sg_bd HH.out p hlt
      have HSTEP := Lib.hid (un_step (st := stB s) hlt)
      obtain ⟨c, hc⟩ : ∃ c, c = sg h p := ⟨_, rfl⟩
      rw [← hc] at ik hb HSTEP
      obtain ⟨r, hr⟩ : ∃ r, r = c.toNat - 97 := ⟨_, rfl⟩
      have hr26 : r < 26 := by omega
      have hri : (r : Int) < 26 := by omega
      have Wr : IntKind.u8.wrap ((c.toNat : Int) - 97) = (r : Int) := by rw [IntWalk.u8_in _ (by omega)]; omega
      obtain ⟨m, hm⟩ : ∃ m, m = twice (stB s) c := ⟨_, rfl⟩
      have hm1 : 1 ≤ m ∧ m ≤ 2 := by rw [hm]; exact ⟨twice_ge _ _, twice_le _ _⟩
      have HRF := Lib.hid (show rwF (twice (stB s)) r = (m : Int) by rw [hr, hm]; exact rwF_at _ c hb.1)
      rw [← hm] at HSTEP
      have HN := Lib.hid (show (l ++ [c]) ++ un (stB s) (h.data.toList.drop (p + m)) = un (stB s) h.data.toList by rw [← HU.out, HSTEP.out, List.append_assoc]; rfl)
      clear hc hr hm
      go_wp2_with (at_builtin; refine app_byteK rfl _ _ rfl w w.heap.size _ _ _ c _ rfl (by exact HR.out) (by exact hx) (Nat.le_refl _) hx.size (by omega) rfl rfl ?_; intro v5 w5 r5 x5 k5; have R5 := Lib.hid r5; have T5 := Lib.hid (HT.out.keptB HR.out k5); have cR := T5.out.at r hr26; rw [HRF.out] at cR; clear r5 k5)
      go_roundw
      case rel => exact ⟨p + m, l ++ [c], by omega, by go_num, R5.out, by rw [List.length_append, List.length_singleton]; omega, HN.out, T5.out, x5⟩
      case measure => simp [intOf]; omega
    · have HL := Lib.hid (show l = un (stB s) h.data.toList by rw [← HU.out, un_end (by omega), List.append_nil])
      have HUT := Lib.hid (show tB l = unT h s by rw [HL.out]; rfl)
      have HUR := Lib.hid (show tB (shw (twice (stB s)) (unT h s).data.toList) = unR h s by
        unfold unR unT
        congr 2)
      have HCV := Lib.hid (fun (w' : World) (hx' : Ext wr w') => (show (convert 38 9 _).run Try.prog w' = .ok (.string (unT h s)) w' by rw [← HUT.out]; exact convB (HR.out.ext hx')))
      have hcv := HCV.out _ (Ext.refl _)
      have HTB := Lib.hid (show (unT h s).size ≤ maxLen by rw [← HUT.out, tB_size]; unfold maxLen; omega)
      have HNT := Lib.hid (show (Try.prog.info? 43).map (·.size) = some (row26 (rwF (twice (stB s)))).toArray.size by rw [List.size_toArray, row26_len]; kernel_rfl)
      have HOT := Lib.hid (fun k => unOk_t (h := h) (s := s) k)
      have HOR := Lib.hid (fun k => unOk_r (h := h) (s := s) k)
      have HOY := Lib.hid (fun k k2 => unOk_y (h := h) (s := s) h1 h2 k k2)
      have HOV := Lib.hid (fun k => unV_yes (h := h) (s := s) k)
      have HON := Lib.hid (fun k => unV_no (h := h) (s := s) k)
      obtain ⟨T, hT⟩ : ∃ T, T = unT h s := ⟨_, rfl⟩
      rw [← hT] at HCV hcv HTB HUR HOT HOY HOV
      clear HUT HL hT
      cases hTT : isT 20 T
      · have HO := Lib.hid (HOT.out hTT)
        go_wp2_with (first | (go_at_call 45; refine (isTyped_any _ _ HTB.out).mono ?_; rintro e w7 ⟨rfl, x7⟩; rw [hTT]; have hcv7 := HCV.out _ x7; have G7 := Lib.hid (HT.out.ext x7)))
        go_ret2
        exact ⟨ret_sB (HON.out HO.out).symm HO.out.symm, hx.trans x7⟩
      · obtain ⟨Q, hQ⟩ : ∃ Q, Q = unR h s := ⟨_, rfl⟩
        rw [← hQ] at HUR HOR HOY
        clear hQ
        by_cases hq : Q = h
        · have HO := Lib.hid (HOY.out hTT hq)
          have t1 : (Q.toList == h.toList) = true := by rw [beqU, decide_eq_true hq]
          clear hq
          go_wp2_with (first | (go_at_call 45; refine (isTyped_any _ _ HTB.out).mono ?_; rintro e w7 ⟨rfl, x7⟩; rw [hTT]; have hcv7 := HCV.out _ x7; have G7 := Lib.hid (HT.out.ext x7)) | (refine wpList_load_rowG (by first | rfl | kernel_rfl) _ _ rfl C rfl 43 (row26 (rwF (twice (stB s)))).toArray (0, 0) _ G7.out Try.underlying43 rfl HNT.out ?_) | (go_at_call 52; refine (showI_any _ _ _ (twice_le _) hTT).mono ?_; rintro e w8 ⟨rfl, x8⟩; rw [HUR.out]; have hcv8 := HCV.out _ (x7.trans x8)))
          go_ret2
          exact ⟨ret_sB (HOV.out HO.out).symm HO.out.symm, (hx.trans x7).trans x8⟩
        · have HO := Lib.hid (HOR.out hq)
          have t1 : (Q.toList == h.toList) = false := by rw [beqU, decide_eq_false hq]
          clear hq
          go_wp2_with (first | (go_at_call 45; refine (isTyped_any _ _ HTB.out).mono ?_; rintro e w7 ⟨rfl, x7⟩; rw [hTT]; have hcv7 := HCV.out _ x7; have G7 := Lib.hid (HT.out.ext x7)) | (refine wpList_load_rowG (by first | rfl | kernel_rfl) _ _ rfl C rfl 43 (row26 (rwF (twice (stB s)))).toArray (0, 0) _ G7.out Try.underlying43 rfl HNT.out ?_) | (go_at_call 52; refine (showI_any _ _ _ (twice_le _) hTT).mono ?_; rintro e w8 ⟨rfl, x8⟩; rw [HUR.out]; have hcv8 := HCV.out _ (x7.trans x8)))
          go_ret2
          exact ⟨ret_sB (HON.out HO.out).symm HO.out.symm, (hx.trans x7).trans x8⟩
end Go.Proofs.Ytnoidabmbckfkaa
