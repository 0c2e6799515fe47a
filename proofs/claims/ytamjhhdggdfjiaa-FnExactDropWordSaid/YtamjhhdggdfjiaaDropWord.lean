/- For every list of texts and text the program's DropWord answers as its model does, in memory of its own, and leaves the list alone. No conditions. -/
import Derived.Test.YtamjhhdggdfjiaaRows
import Derived.Test.YtamjhhdggdfjiaaLaw
import Derived.Test.YtamjhhdggdfjiaaOrder
import Derived.Test.YtamjhhdggdfjiaaParts
import Derived.Test.YtamjhhdggdfjiaaMarks
import Derived.Test.YtamjhhdggdfjiaaOpenS
import Derived.StillTailTactics
namespace Go.Proofs.Ytamjhhdggdfjiaa.dropWord
open Go.ChangeShapes Go.WideShapes Go.ChangeAt Go.RowKit
open Go.ChangeMaps (open_string shut_string)

def okB (ss : List ByteArray) (s : ByteArray) : Bool := ofB ss s && decide (¬ ss.length = 1)
def wV (ss : List ByteArray) (s : ByteArray) : List ByteArray := if okB ss s then less1 ss s else []
def ResS (ts : List ByteArray) (ok : Bool) (w : World) (e : Ending) (w' : World) : Prop := ∃ v, e = .returned (.tuple #[v, .bool ok]) ∧ RowS w.heap.size w' v ts ∧ Ext w w'
theorem ret_vb {v : Value} {b b' : Bool} (h : b = b') : Ending.returned (.tuple #[v, .bool b]) = .returned (.tuple #[v, .bool b']) := by rw [h]
theorem oneS (x : ByteArray) : ∀ u ∈ [Value.string x], u.oneCell' = true := by intro u hu; simp at hu; subst hu; rfl
theorem okB_d {ss : List ByteArray} {s : ByteArray} (h : ofB ss s = false) : okB ss s = false := by unfold okB; simp [h]
theorem okB_1 {ss : List ByteArray} {s : ByteArray} (h : ss.length = 1) : okB ss s = false := by unfold okB; simp [h]
theorem okB_yes {ss : List ByteArray} {s : ByteArray} (h : ofB ss s = true) (h2 : ¬ ss.length = 1) : okB ss s = true := by unfold okB; simp [h, h2]
theorem okB_of {ss : List ByteArray} {s : ByteArray} (h : okB ss s = true) : ofB ss s = true := by unfold okB at h; simp only [Bool.and_eq_true] at h; exact h.1
theorem ofB_dic {ss : List ByteArray} {s : ByteArray} (h : ofB ss s = true) : dicB ss = true := by unfold ofB at h; simp only [Bool.and_eq_true] at h; exact h.1
theorem wV_no {ss : List ByteArray} {s : ByteArray} (h : okB ss s = false) : wV ss s = [] := by unfold wV; simp [h]
theorem wV_yes {ss : List ByteArray} {s : ByteArray} (h : okB ss s = true) : wV ss s = less1 ss s := by unfold wV; simp [h]
theorem wV_len (ss : List ByteArray) (s : ByteArray) : (wV ss s).length ≤ 1048576 := by
  cases h : okB ss s
  · rw [wV_no h]; simp
  · rw [wV_yes h]
    have := less1_len ss s
    have := dicB_len (ofB_dic (okB_of h))
    omega
theorem wV_mem (ss : List ByteArray) (s : ByteArray) : ∀ t ∈ wV ss s, t.size ≤ maxLen := by
  intro t ht
  cases h : okB ss s
  · rw [wV_no h] at ht; cases ht
  · rw [wV_yes h] at ht
    have := wdW_size (dicB_mem (ofB_dic (okB_of h)) t (less1_mem ht))
    unfold maxLen
    omega

set_option maxHeartbeats 2000000 in
theorem spec_any (v : Value) (ss : List ByteArray) (s : ByteArray) (w : World) (h : Strs w v ss) (_hs : s.size ≤ maxLen) : Calls Try.prog 19 #[v, .string s] w (ResS (wV ss s) (okB ss s) w) := by
  have HS := Lib.hid h
  have hl := h.1
  unfold maxLen at hl
  obtain ⟨a, cap, hv, hnil⟩ := h.at
  rw [hv] at HS ⊢
  clear hv hnil h v
  cases hd : ofB ss s
  · have H := Lib.hid (okB_d hd)
    go_enter Try.func19, Try.ntmps19
    go_wp2_with (go_at_call 37; refine (wdHas_any _ _ _ _ HS.out).mono ?_; rintro e w1 ⟨rfl, x1⟩)
    go_ret2
    exact ⟨_, ret_vb H.out.symm, by rw [wV_no H.out]; exact RowS.nil _ _, x1⟩
  obtain ⟨hl1, hl2⟩ := dicB_len (ofB_dic hd)
  by_cases h1 : ss.length = 1
  · have H := Lib.hid (okB_1 (s := s) h1)
    have t1 : ((ss.length : Int) == 1) = true := by simp [h1]
    clear h1
    go_enter Try.func19, Try.ntmps19
    go_wp2_with (go_at_call 37; refine (wdHas_any _ _ _ _ HS.out).mono ?_; rintro e w1 ⟨rfl, x1⟩)
    go_ret2
    exact ⟨_, ret_vb H.out.symm, by rw [wV_no H.out]; exact RowS.nil _ _, x1⟩
  have H := Lib.hid (okB_yes hd h1)
  have t1 : ((ss.length : Int) == 1) = false := by simp; omega
  have HD := Lib.hid hd
  obtain ⟨i0, hi, hz0, hzs, hzb⟩ := info_parts info_strC
  have HI := Lib.hid (show Try.prog.info? 9 = some i0 ∧ i0.zero = some (.string ⟨#[]⟩) ∧ i0.size = 1 ∧ i0.bytes = 16 from ⟨hi, hz0, hzs, hzb⟩)
  clear hi hz0 hzs hzb h1
  go_enter Try.func19, Try.ntmps19
  go_wp2_with (go_at_call 37; refine (wdHas_any _ _ _ _ HS.out).mono ?_; rintro e w1 ⟨rfl, x1⟩)
  clear hd
  go_loopw [6, 20] (fun o i wr => ∃ k : Nat, k ≤ ss.length ∧ i = .int .i64 k ∧ RowS w.heap.size wr o (less1 (ss.take k) s) ∧ Ext w wr) (fun _ i _ => ss.length - (intOf i).toNat)
  case atStart => exact ⟨0, Nat.zero_le _, rfl, RowS.nil _ _, x1⟩
  case round =>
    obtain ⟨k, hk, rfl, hown, hx⟩ := hrel
    have HO := Lib.hid hown
    clear hown
    by_cases hlt : k < ss.length
    · rcases (HS.out.ext hx).2.2 with ⟨h3, _⟩ | ⟨b, off, cap', h4, hb, hc⟩
      · rw [h3] at hlt; exact absurd hlt (by simp)
      have ha : a = some ⟨b, off, none⟩ := by injection h4
      have e1 := hc k hlt
      have hlen : (less1 (ss.take k) s).length ≤ 12 := Nat.le_trans (less1_len _ _) (by rw [List.length_take]; omega)
      rw [ha]
      clear hc h4 ha hb
      by_cases hE : ss[k] = s
      · have t2 : (ss[k].toList == s.toList) = true := by rw [beqT, decide_eq_true hE]
        have HN := Lib.hid (less1_yes (h := hlt) hE)
        clear hE
        go_wp2
        go_roundw
        case rel => exact ⟨k + 1, by omega, by go_num, by rw [HN.out]; exact HO.out, hx⟩
        case measure => simp [intOf]; omega
      · have t2 : (ss[k].toList == s.toList) = false := by rw [beqT, decide_eq_false hE]
        have HN := Lib.hid (less1_no (h := hlt) hE)
        clear hE
        go_wp2_with (at_builtin; refine wpList_append_own _ rfl _ _ 22 rfl w.heap.size 9 i0 (.string ⟨#[]⟩) 1 16 Try.underlying22 HI.out.1 HI.out.2.1 HI.out.2.2.1 HI.out.2.2.2 rfl (by decide) _ _ _ rfl (World.ownsRow.alloc HO.out _) ⟨wr.heap.size, 0, none⟩ 1 1 [.string ss[k]] rfl rfl (cell_one_new _ _ _) (oneS _) (by unfold maxLen; omega) (by omega) (by have := hx.size; simp; omega) ?_; intro v' w5 hown' hgr' _)
        have R : RowS w.heap.size w5 v' (less1 (ss.take (k + 1)) s) := by
          rw [HN.out]
          unfold RowS
          rw [List.length_append, List.map_append]
          exact hown'
        have X : Ext w w5 := ext_grown (hx.alloc _) hgr' (fun j hj => HO.out.own_le j hj)
        clear hown' hgr'
        go_wp2
        go_roundw
        case rel => exact ⟨k + 1, by omega, by go_num, R, X⟩
        case measure => simp [intOf]; omega
    · have HT := Lib.hid (show ss.take k = ss from List.take_of_length_le (by omega))
      go_wp2
      go_ret2
      exact ⟨_, ret_vb H.out.symm, by rw [wV_yes H.out, ← HT.out]; exact HO.out, hx⟩

set_option maxRecDepth 100000 in
set_option maxHeartbeats 2000000 in
theorem impl_any (v : Value) (ss : List ByteArray) (s : ByteArray) (w : World) (h : Strs w v ss) (_hs : s.size ≤ maxLen) (hcap : CapOk v) : Calls Try.prog 20 #[v, .string s] w (ResS (wV ss s) (okB ss s) w) := by
  have HS := Lib.hid h
  have hl := h.1
  unfold maxLen at hl
  obtain ⟨a, cap, hv, hnil⟩ := h.at
  have hcp : ss.length ≤ cap := hcap _ _ _ hv
  rw [hv] at HS ⊢
  clear hv hnil h hcap v
  cases hd : ofB ss s
  · have H := Lib.hid (okB_d hd)
    go_enter Try.func20, Try.ntmps20
    go_wp2_with (go_at_call 38; refine (isWordOf_any _ _ _ _ HS.out).mono ?_; rintro e w1 ⟨rfl, x1⟩)
    go_ret2
    exact ⟨_, ret_vb H.out.symm, by rw [wV_no H.out]; exact RowS.nil _ _, x1⟩
  obtain ⟨hl1, hl2⟩ := dicB_len (ofB_dic hd)
  by_cases h1 : ss.length = 1
  · have H := Lib.hid (okB_1 (s := s) h1)
    have t1 : ((ss.length : Int) == 1) = true := by simp [h1]
    clear h1
    go_enter Try.func20, Try.ntmps20
    go_wp2_with (go_at_call 38; refine (isWordOf_any _ _ _ _ HS.out).mono ?_; rintro e w1 ⟨rfl, x1⟩)
    go_ret2
    exact ⟨_, ret_vb H.out.symm, by rw [wV_no H.out]; exact RowS.nil _ _, x1⟩
  have H := Lib.hid (okB_yes hd h1)
  have t1 : ((ss.length : Int) == 1) = false := by simp; omega
  have HP := Lib.hid (less1_parts hd)
  have hh : hasS ss s = true := by unfold ofB at hd; simp only [Bool.and_eq_true] at hd; exact hd.2
  obtain ⟨hlt, _⟩ := fx_at hh
  obtain ⟨k, hk⟩ : ∃ k, k = fx ss s := ⟨_, rfl⟩
  have HF := Lib.hid (show fxI ss s = (k : Int) by unfold fxI; rw [if_pos hlt, hk])
  rw [← hk] at HP hlt
  have HD := Lib.hid hd
  clear hk hh
  have hd1 := hd
  clear h1 hd1
  obtain ⟨b, off, hb, hcells, rfl⟩ : ∃ b off, b < w.heap.size ∧ (∀ j (h : j < ss.length), w.cell? ⟨b, off + j, none⟩ = some (.string ss[j])) ∧ a = some ⟨b, off, none⟩ := by
    rcases HS.out.2.2 with ⟨h3, _⟩ | ⟨b, off, cap', h4, hb, hc⟩
    · rw [h3] at hl1; exact absurd hl1 (by simp)
    · exact ⟨b, off, hb, hc, by injection h4⟩
  have HC := Lib.hid hcells
  clear hcells
  have hk2 : (k : Int) + 1 ≤ (ss.length : Int) := by omega
  have hk3 : (0 : Int) ≤ (k : Int) + 1 := by omega
  have W1 : IntKind.i64.wrap ((k : Int) + 1) = (k : Int) + 1 := IntWalk.i64_in _ (by omega)
  have hk4 : (k : Int) ≤ (cap : Int) := by omega
  have HT := Lib.hid (show ∀ w', Ext w w' → HoldsS w' ⟨b, off, none⟩ (ss.take k) from fun w' x => (holds_take hb HC.out k).ext x)
  have HDr := Lib.hid (show ∀ w', Ext w w' → HoldsS w' ⟨b, off + (k + 1), none⟩ (ss.drop (k + 1)) from fun w' x => (holds_drop hb HC.out (k + 1)).ext x)
  have L1 := Lib.hid (show (ss.take k).length = k by rw [List.length_take]; omega)
  have L2 := Lib.hid (show (ss.drop (k + 1)).length = ss.length - (k + 1) from List.length_drop ..)
  by_cases hc0 : cap = k + 1
  · subst hc0
    have hk5 : (k : Int) ≤ (k : Int) + 1 := by omega
    have L3 := Lib.hid (show (ss.drop (k + 1)).length = 0 by rw [L2.out]; omega)
    go_enter Try.func20, Try.ntmps20
    go_wp2_with (first | (go_at_call 38; refine (isWordOf_any _ _ _ _ HS.out).mono ?_; rintro e w1 ⟨rfl, x1⟩) | (go_at_call 39; refine (index_any _ _ _ _ (HS.out.ext x1)).mono ?_; rintro e w2 ⟨rfl, x2⟩; rw [HF.out]))
    go_region_with (go_at_call 35; refine (concat_new ⟨b, off, none⟩ ⟨b, off, none⟩ k (k + 1) 0 0 (ss.take k) (ss.drop (k + 1)) w2 L1.out L3.out (HT.out _ (x1.trans x2)) (holds_none (HT.out _ (x1.trans x2)).1 L3.out) (by omega)).mono ?_; rintro e w3 ⟨v3, rfl, r3, x3⟩)
    go_wp2
    go_ret2
    exact ⟨_, ret_vb H.out.symm, by rw [wV_yes H.out, ← HP.out]; exact r3.down (x1.trans x2).size, (x1.trans x2).trans x3⟩

  · go_enter Try.func20, Try.ntmps20
    go_wp2_with (first | (go_at_call 38; refine (isWordOf_any _ _ _ _ HS.out).mono ?_; rintro e w1 ⟨rfl, x1⟩) | (go_at_call 39; refine (index_any _ _ _ _ (HS.out.ext x1)).mono ?_; rintro e w2 ⟨rfl, x2⟩; rw [HF.out]))
    go_region_with (go_at_call 35; refine (concat_new ⟨b, off, none⟩ ⟨b, off + (k + 1), none⟩ k cap (ss.length - (k + 1)) (cap - (k + 1)) (ss.take k) (ss.drop (k + 1)) w2 L1.out L2.out (HT.out _ (x1.trans x2)) (HDr.out _ (x1.trans x2)) (by omega)).mono ?_; rintro e w3 ⟨v3, rfl, r3, x3⟩)
    go_wp2
    go_ret2
    exact ⟨_, ret_vb H.out.symm, by rw [wV_yes H.out, ← HP.out]; exact r3.down (x1.trans x2).size, (x1.trans x2).trans x3⟩

set_option maxHeartbeats 4000000 in
theorem walk (w : World) (v : Value) (ss : List ByteArray) (h : Strs w v ss) (s1 : ByteArray) (hs1 : s1.size ≤ maxLen) : Calls Try.prog 6 #[v, .string s1] w fun e w' => e = .returned (.bool true) ∧ Ext w w' := by
  have H := Lib.hid h
  clear h
  have h63_1 : s1.size ≤ 9223372036854775807 := hs1
  have hzl : (wV ss s1).length ≤ 1048576 := wV_len ss s1
  have hzm := Lib.hid (wV_mem ss s1)
  obtain ⟨zs, hzs⟩ : ∃ zs, zs = wV ss s1 := ⟨_, rfl⟩
  have HZ := Lib.hid hzs
  rw [← hzs] at hzl hzm
  clear hzs
  by_cases hbig1 : 1048576 < s1.size
  · go_enter Try.func6, Try.ntmps6
    go_wp2
    go_ret
    exact ⟨rfl, Ext.refl _⟩
  go_enter Try.func6, Try.ntmps6
  go_wp2_with (first | (go_at_call 8; refine (szS_any _ _ _ H.out).mono ?_; rintro e w' ⟨r, hr, rfl, rfl⟩))
  · go_ret
    exact ⟨rfl, Ext.refl _⟩
  · have hf := hr (by assumption)
    obtain ⟨hn, hb⟩ := hf
    clear hr
    refine (toS_any _ _ _ (H.out) hn).mono ?_
    rintro e w1 ⟨u1, rfl, hu1, x1, gx1, cx1, rfl, hgx1, hox1⟩
    have H1 := Lib.hid hu1
    have O1 := Lib.hid hox1
    have hg1 : gx1 < w1.heap.size := by
      rcases hox1.2 with ⟨h3, _⟩ | ⟨g', c, cur, h3, _, hg, _⟩
      · cases h3
      · cases h3
        exact heap_lt hg
    clear hu1 hox1
    have X1 : Ext w w1 := x1
    go_wp2_with fail
    refine (spec_any _ _ _ _ H1.out hs1).mono ?_
    rintro e w2 ⟨g2, rfl, r2, x2⟩
    rw [← HZ.out] at r2
    have R2 := Lib.hid r2
    clear r2
    have X2 : Ext w w2 := X1.trans x2
    go_wp2_with fail
    refine (toS_any _ _ _ (H.out.ext X2) hn).mono ?_
    rintro e w3 ⟨u3, rfl, hu3, x3, gx3, cx3, rfl, hgx3, hox3⟩
    have H3 := Lib.hid hu3
    have O3 := Lib.hid hox3
    have hg3 : gx3 < w3.heap.size := by
      rcases hox3.2 with ⟨h3, _⟩ | ⟨g', c, cur, h3, _, hg, _⟩
      · cases h3
      · cases h3
        exact heap_lt hg
    clear hu3 hox3
    have X3 : Ext w w3 := X2.trans x3
    go_wp2_with fail
    refine (impl_any _ _ _ _ H3.out hs1 (own_cap O3.out)).mono ?_
    rintro e w4 ⟨g4, rfl, r4, x4⟩
    rw [← HZ.out] at r4
    have R4 := Lib.hid r4
    clear r4
    have X4 : Ext w w4 := X3.trans x4
    go_wp2_with fail
    refine (eqS_any _ _ _ _ ((R4.out).strs (by unfold maxLen; omega) hzm.out) ((R2.out.ext (x3.trans x4)).strs (by unfold maxLen; omega) hzm.out) hzl).mono ?_
    rintro e w5 ⟨rfl, x5⟩
    have X5 : Ext w w5 := X4.trans x5
    go_wp2_with fail
    refine (toS_any _ _ _ (H.out.ext X5) hn).mono ?_
    rintro e w6 ⟨u6, rfl, hu6, x6, gx6, cx6, rfl, hgx6, hox6⟩
    have H6 := Lib.hid hu6
    have O6 := Lib.hid hox6
    have hg6 : gx6 < w6.heap.size := by
      rcases hox6.2 with ⟨h3, _⟩ | ⟨g', c, cur, h3, _, hg, _⟩
      · cases h3
      · cases h3
        exact heap_lt hg
    clear hu6 hox6
    have X6 : Ext w w6 := X5.trans x6
    go_wp2_with fail
    refine (eqS_any _ _ _ _ (H3.out.ext ((x4.trans x5).trans x6)) (H6.out) hn).mono ?_
    rintro e w7 ⟨rfl, x7⟩
    have X7 : Ext w w7 := X6.trans x7
    go_wp2_with fail
    refine (markS_any _ _ _ gx3 _ _ _ rfl (row_ext O3.out (((x4.trans x5).trans x6).trans x7)) hn).mono ?_
    rintro e w8 ⟨rfl, hg8⟩
    have X8 : Ext w w8 := ext_grown X7 hg8 (fun j hj => by cases hj; exact Nat.le_trans X2.size hgx3)
    have S8 := Lib.hid (RowS.kept (R2.out.ext ((((x3.trans x4).trans x5).trans x6).trans x7)) hg8 (R2.out.apart gx3 (.inr (Nat.le_trans (Nat.le_refl _) hgx3))))
    have G8 := Lib.hid (RowS.kept (R4.out.ext ((x5.trans x6).trans x7)) hg8 (R4.out.apart gx3 (.inl hg3)))
    clear hg8
    go_wp2_with fail
    refine (eqS_any _ _ _ _ ((G8.out).strs (by unfold maxLen; omega) hzm.out) ((S8.out).strs (by unfold maxLen; omega) hzm.out) hzl).mono ?_
    rintro e w9 ⟨rfl, x9⟩
    have X9 : Ext w w9 := X8.trans x9
    go_wp2_with fail
    refine (markR_any _ _ _ _ (G8.out.ext x9) hzl).mono ?_
    rintro e w10 ⟨rfl, m10, hg10⟩
    have M10 := Lib.hid m10
    have X10 : Ext w w10 := ext_grown X9 hg10 (fun j hj => Nat.le_trans X3.size (R4.out.own_le j hj))
    have S10 := Lib.hid (RowS.kept (S8.out.ext x9) hg10 (R2.out.apart2 (w2 := w4) R4.out (x3).size))
    clear m10 hg10
    go_wp2_with fail
    refine (heldR_any _ _ _ _ M10.out hzl).mono ?_
    rintro e w11 ⟨rfl, x11⟩
    have X11 : Ext w w11 := X10.trans x11
    go_wp2_with fail
    refine (toS_any _ _ _ (H.out.ext X11) hn).mono ?_
    rintro e w12 ⟨u12, rfl, hu12, x12, gx12, cx12, rfl, hgx12, hox12⟩
    have H12 := Lib.hid hu12
    have O12 := Lib.hid hox12
    have hg12 : gx12 < w12.heap.size := by
      rcases hox12.2 with ⟨h3, _⟩ | ⟨g', c, cur, h3, _, hg, _⟩
      · cases h3
      · cases h3
        exact heap_lt hg
    clear hu12 hox12
    have X12 : Ext w w12 := X11.trans x12
    go_wp2_with fail
    refine (impl_any _ _ _ _ H12.out hs1 (own_cap O12.out)).mono ?_
    rintro e w13 ⟨g13, rfl, r13, x13⟩
    rw [← HZ.out] at r13
    have R13 := Lib.hid r13
    clear r13
    have X13 : Ext w w13 := X12.trans x13
    go_wp2_with fail
    refine (eqS_any _ _ _ _ ((R13.out).strs (by unfold maxLen; omega) hzm.out) ((S10.out.ext ((x11.trans x12).trans x13)).strs (by unfold maxLen; omega) hzm.out) hzl).mono ?_
    rintro e w14 ⟨rfl, x14⟩
    have X14 : Ext w w14 := X13.trans x14
    go_wp2_with fail
    refine (heldR_any _ _ _ _ (M10.out.ext (((x11.trans x12).trans x13).trans x14)) hzl).mono ?_
    rintro e w15 ⟨rfl, x15⟩
    have X15 : Ext w w15 := X14.trans x15
    go_wp2_with fail
    go_ret
    exact ⟨rfl, X15⟩

set_option maxRecDepth 100000 in
theorem contract (H : Type) (enc : TypeId × Value → H) (W : World) (base : Nat) (args : Array Value) (ds gs : List (DataW H)) (before : List MemPlace)
    (hval : ∀ (j : Nat) t v, Try.f6.params[j]? = some t → args[j]? = some v → Value.okWide Try.prog W .any base t v)
    (hW : DataW.Whole enc Try.prog Try.f6.params.toList Rows.fnExactDropWordSpec.vars false W args.toList ds gs before) :
    Calls Try.prog 6 args W fun e W' => ∃ v, e = .returned v ∧ Rows.fnExactDropWordSpec.post enc Try.prog Try.f6 false true false false W args v W' := by
  have hW' := hW
  obtain ⟨p, q, hA0, hV, rfl, hfz, hnd⟩ := hW
  have hA : DataW.TrodAll enc Try.prog W 0 (fun _ => true) true Try.f6.params.toList args.toList ds p := hA0
  rw [Try.params6] at hA hval
  obtain ⟨v0, vs0, d0, ds0, p0, q0, hargs0, rfl, rfl, h0, r0⟩ := trodAll_cons hA
  obtain ⟨v1, vs1, d1, ds1, p1, q1, hargs1, rfl, rfl, h1, r1⟩ := trodAll_cons r0
  obtain ⟨rfl, rfl, rfl⟩ := trodAll_nil r1
  subst hargs1
  obtain rfl : args = #[v0, v1] := Array.toList_inj.1 hargs0
  obtain ⟨s0, z0⟩ := strs_of (hval 0 22 v0 rfl rfl) h0
  obtain ⟨s1, rfl, rfl, rfl, z1⟩ := open_string Try.underlying9 (hval 1 9 v1 rfl rfl) h1
  clear hA0
  refine (walk W v0 s0 z0 s1 z1).mono fun e W' ⟨he, hx⟩ => ?_
  subst he
  exact ⟨_, rfl, post_true (tb := 4) laidOut (by rw [Try.params6]; intro t ht; simp at ht; rcases ht with rfl | rfl <;> exact ⟨by kernel_rfl, of_decide_eq_true (by kernel_rfl)⟩) (by kernel_rfl) hW' hx (by obtain ⟨rfl, rfl⟩ := trodVars_none hV; rfl) rfl Try.underlying4⟩

set_option maxRecDepth 100000 in
theorem lifted (os : Os) (started : os.Started) (H : Type) (enc : TypeId × Value → H) :
    ReturnsInHanded {} Try.checked os 6 .any (Rows.fnExactDropWordSpec.pre6 enc Try.prog Try.f6 Rows.fnExactDropWordRow.domain false) (Rows.fnExactDropWordSpec.post enc Try.prog Try.f6 false true false false) := by
  refine returnsInHanded_of_change (C := Try.checked) own started (by kernel_rfl) Try.func6
    (ChangeSpec.witness6 (enc := enc) (C := Try.checked) false ⟨#[], #[.slice none 0 0, .string ByteArray.empty], []⟩ 8 (by kernel_rfl) (by kernel_rfl) (by kernel_rfl) (by kernel_rfl)) ?_
  intro W base args ds gs before hval hW _ _
  exact contract H enc W base args ds gs before hval hW

theorem said : Rows.FnExactDropWordSaid :=
  OpenClaim.holds_of_wide 6 Try.f6 rfl rfl rfl rfl rfl rfl rfl ⟨rfl, rfl, rfl, rfl, rfl⟩ rfl rfl rfl rfl rfl (by kernel_rfl) Try.func6 (by kernel_rfl)
    (of_decide_eq_true (by kernel_rfl)) (by unfold Func.isWrapper; first | (rw [if_pos (by decide +kernel)]; kernel_rfl) | (rw [if_neg (by decide +kernel)]; exact ⟨rfl, rfl⟩))
    (fun os started H enc _ => lifted os started H enc)
end Go.Proofs.Ytamjhhdggdfjiaa.dropWord
