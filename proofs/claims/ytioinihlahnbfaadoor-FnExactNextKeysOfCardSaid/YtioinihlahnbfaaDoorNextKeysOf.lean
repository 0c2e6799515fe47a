/- For every list of texts and text the program's NextKeysOf answers as its model does, and leaves the list alone, the pad's table being as the program lays it. -/
import Derived.Test.YtioinihlahnbfaaDoorCards
import Derived.Test.YtioinihlahnbfaaDoorTie
import Derived.Test.YtioinihlahnbfaaDoorTab
import Derived.Test.YtioinihlahnbfaaDoorNextK
import Derived.Lib.BufferRead
import Derived.Test.YtioinihlahnbfaaDoorMarks
import Derived.Test.YtioinihlahnbfaaDoorOpenS
namespace Go.Proofs.YtioinihlahnbfaaDoor.nextKeysOf
open Go.ChangeShapes Go.WideShapes Go.ChangeAt Go.RowKit
open Go.ChangeMaps (open_string shut_string)

def okB (ss : List ByteArray) (s : ByteArray) : Bool := dicB ss && (decide (s = ⟨#[]⟩) || spK s)
def nkV (ss : List ByteArray) (s : ByteArray) : ByteArray := if okB ss s then BsI (mdUp ss s 8) else ⟨#[]⟩
theorem okB_d {ss : List ByteArray} {s : ByteArray} (h : dicB ss = false) : okB ss s = false := by unfold okB; simp [h]
theorem okB_k {ss : List ByteArray} {s : ByteArray} (h : ¬ s = ⟨#[]⟩) (h2 : spK s = false) : okB ss s = false := by unfold okB; simp [h, h2]
theorem okB_e {ss : List ByteArray} {s : ByteArray} (h : dicB ss = true) (h2 : s = ⟨#[]⟩) : okB ss s = true := by unfold okB; simp [h, h2]
theorem okB_y {ss : List ByteArray} {s : ByteArray} (h : dicB ss = true) (h2 : spK s = true) : okB ss s = true := by unfold okB; simp [h, h2]
theorem nkV_no {ss : List ByteArray} {s : ByteArray} (h : okB ss s = false) : nkV ss s = ⟨#[]⟩ := by unfold nkV; simp [h]
theorem nkV_yes {ss : List ByteArray} {s : ByteArray} (h : okB ss s = true) : nkV ss s = BsI (mdUp ss s 8) := by unfold nkV; simp [h]
theorem ret_sb {a a' : ByteArray} {b b' : Bool} (h : a = a') (h2 : b = b') : Ending.returned (.tuple #[.string a, .bool b]) = .returned (.tuple #[.string a', .bool b']) := by rw [h, h2]
theorem okB_sz {ss : List ByteArray} {s : ByteArray} (h : okB ss s = true) : dicB ss = true ∧ s.size ≤ 20 := by
  unfold okB at h
  simp only [Bool.and_eq_true, Bool.or_eq_true, decide_eq_true_eq] at h
  refine ⟨h.1, ?_⟩
  rcases h.2 with e | e
  · rw [e]; decide
  · unfold spK at e
    simp only [Bool.and_eq_true, decide_eq_true_eq] at e
    exact e.2
theorem BsI_snoc (l : List Int) (c : Int) : BsI (l ++ [c]) = BsI l ++ bx c := by
  unfold BsI bx
  apply ByteArray.ext
  rw [ByteArray.data_append]
  simp
theorem mdUp_yes {ss : List ByteArray} {q : ByteArray} {k : Nat} (h : 0 < (begs ss (q ++ bx (50 + (k : Int)))).length) : BsI (mdUp ss q (k + 1)) = BsI (mdUp ss q k) ++ bx (50 + (k : Int)) := by
  rw [mdUp, show nkB ss q (50 + (k : Int)) = true from decide_eq_true h, if_pos rfl, BsI_snoc]
theorem mdUp_no {ss : List ByteArray} {q : ByteArray} {k : Nat} (h : ¬ 0 < (begs ss (q ++ bx (50 + (k : Int)))).length) : BsI (mdUp ss q (k + 1)) = BsI (mdUp ss q k) := by
  rw [mdUp, show nkB ss q (50 + (k : Int)) = false from decide_eq_false h]
  simp
theorem BsI_len (l : List Int) : (BsI l).size = l.length := by
  show (BsI l).data.size = _
  unfold BsI
  simp
theorem mdUp_len (ss : List ByteArray) (q : ByteArray) : ∀ n, (mdUp ss q n).length ≤ n
  | 0 => Nat.le_refl _
  | n + 1 => by
    have := mdUp_len ss q n
    rw [mdUp, List.length_append]
    split <;> simp <;> omega
theorem enc50 (k : Nat) (h : k < 8) : Utf8.encode (50 + (k : Int)) = bx (50 + (k : Int)) := by
  rcases (by omega : k = 0 ∨ k = 1 ∨ k = 2 ∨ k = 3 ∨ k = 4 ∨ k = 5 ∨ k = 6 ∨ k = 7) with rfl | rfl | rfl | rfl | rfl | rfl | rfl | rfl <;> kernel_rfl

theorem empty_yes {s : ByteArray} (h : s = ⟨#[]⟩) : s.toList.isEmpty = true := by rw [h, Lib.toList_data]; rfl
theorem empty_no {s : ByteArray} (h : ¬ s = ⟨#[]⟩) : s.toList.isEmpty = false := by
  cases he : s.toList.isEmpty
  · rfl
  · exfalso
    rw [Lib.toList_data] at he
    have : s.data.toList = [] := List.isEmpty_iff.1 he
    exact h (bytes_inj this)

set_option maxRecDepth 100000 in
set_option maxHeartbeats 4000000 in
theorem spec_any (v : Value) (ss : List ByteArray) (s : ByteArray) (w : World) (h : Strs w v ss) (hs : s.size ≤ maxLen) : Calls Tryd.prog 16 #[v, .string s] w fun e w' => e = .returned (.tuple #[.string (nkV ss s), .bool (okB ss s)]) ∧ Ext w w' := by
  have HS := Lib.hid h
  clear h
  cases hd : dicB ss
  · have H := Lib.hid (okB_d (s := s) hd)
    go_enter Tryd.func16, Tryd.ntmps16
    go_wp2_with (go_at_call 29; refine (wdGood_any _ _ _ HS.out).mono ?_; rintro e w1 ⟨rfl, x1⟩; rw [hd])
    go_ret2
    exact ⟨ret_sb (nkV_no H.out).symm H.out.symm, x1⟩
  have HD := Lib.hid hd
  by_cases hbad : ¬ s = ⟨#[]⟩ ∧ spK s = false
  · obtain ⟨he, hk⟩ := hbad
    have H := Lib.hid (okB_k (ss := ss) he hk)
    have t1 := empty_no he
    clear he
    go_enter Tryd.func16, Tryd.ntmps16
    go_wp2_with (first | (go_at_call 29; refine (wdGood_any _ _ _ HS.out).mono ?_; rintro e w1 ⟨rfl, x1⟩; rw [hd]) | (go_at_call 36; refine (wdKeys_any _ _ hs).mono ?_; rintro e w' ⟨rfl, rfl⟩; rw [hk]))
    go_ret2
    exact ⟨ret_sb (nkV_no H.out).symm H.out.symm, x1⟩
  have HOK := Lib.hid (show okB ss s = true by
    by_cases he : s = ⟨#[]⟩
    · exact okB_e hd he
    · exact okB_y hd (by cases hk : spK s; exact absurd ⟨he, hk⟩ hbad; rfl))
  have hsz := (okB_sz HOK.out).2
  have hcase : s.toList.isEmpty = true ∨ s.toList.isEmpty = false ∧ spK s = true := by
    by_cases he : s = ⟨#[]⟩
    · exact .inl (empty_yes he)
    · exact .inr ⟨empty_no he, by cases hk : spK s; exact absurd ⟨he, hk⟩ hbad; rfl⟩
  clear hbad
  have HML := Lib.hid (fun k => Nat.le_trans (Nat.le_of_eq (BsI_len (mdUp ss s k))) (mdUp_len ss s k))
  go_enter Tryd.func16, Tryd.ntmps16
  rcases hcase with t1 | ⟨t1, hk⟩
  all_goals
    go_wp2_with (first | (go_at_call 29; refine (wdGood_any _ _ _ HS.out).mono ?_; rintro e w1 ⟨rfl, x1⟩; rw [hd]) | (go_at_call 36; refine (wdKeys_any _ _ hs).mono ?_; rintro e w' ⟨rfl, rfl⟩; rw [hk]))
    go_loopw [6, 7] (fun o c wr => ∃ k : Nat, k ≤ 8 ∧ o = .string (BsI (mdUp ss s k)) ∧ c = .int .u8 (50 + (k : Int)) ∧ Ext w wr) (fun _ c _ => (58 - intOf c).toNat)
    case atStart => exact ⟨0, Nat.zero_le _, rfl, rfl, x1⟩
    case round =>
      obtain ⟨k, hk8, rfl, rfl, hx⟩ := hrel
      have HB := Lib.hid (HML.out k)
      obtain ⟨o, ho⟩ : ∃ o, o = BsI (mdUp ss s k) := ⟨_, rfl⟩
      have HO := Lib.hid ho
      have hoz : o.size ≤ 8 := by rw [ho]; have := HB.out; omega
      rw [← ho]
      clear ho
      by_cases hlt : k < 8
      · obtain ⟨x, hxx⟩ : ∃ x : Int, x = 50 + (k : Int) := ⟨_, rfl⟩
        have HX := Lib.hid hxx
        have hen : Utf8.encode x = bx x := by rw [hxx]; exact enc50 k hlt
        have hbz : (bx x).size = 1 := rfl
        have hxl : x ≤ 57 := by omega
        have hx0 : 50 ≤ x := by omega
        have HXN := Lib.hid (show x + 1 = 50 + ((k + 1 : Nat) : Int) by omega)
        rw [← hxx]
        clear hxx
        have HBZ := Lib.hid (show (s ++ bx x).size ≤ maxLen by rw [ByteArray.size_append]; have : (bx x).size = 1 := rfl; unfold maxLen; omega)
        by_cases hb : 0 < (begs ss (s ++ bx x)).length
        · have HN := Lib.hid (show BsI (mdUp ss s (k + 1)) = o ++ bx x by rw [HO.out, HX.out]; exact mdUp_yes (by rw [← HX.out]; exact hb))
          obtain ⟨L, hL⟩ : ∃ L, L = (begs ss (s ++ bx x)).length := ⟨_, rfl⟩
          have HL := Lib.hid hL
          have hLi : (0 : Int) < (L : Int) := by omega
          clear hL hb
          go_wp2_with (go_at_call 37; refine (wdBegins_any _ ss (s ++ bx x) _ (HS.out.ext hx) HD.out HBZ.out).mono ?_; rintro e w9 ⟨v9, rfl, r9, x9⟩; obtain ⟨a9, cap9, rfl⟩ := r9.shape; rw [← HL.out])
          go_roundw
          case rel => exact ⟨k + 1, by omega, by rw [HN.out], by rw [← HXN.out], hx.trans x9⟩
          case measure => simp [intOf]; omega
        · have HN := Lib.hid (show BsI (mdUp ss s (k + 1)) = o by rw [HO.out]; exact mdUp_no (by rw [← HX.out]; exact hb))
          obtain ⟨L, hL⟩ : ∃ L, L = (begs ss (s ++ bx x)).length := ⟨_, rfl⟩
          have HL := Lib.hid hL
          have hLi : ¬ (0 : Int) < (L : Int) := by omega
          clear hL hb
          go_wp2_with (go_at_call 37; refine (wdBegins_any _ ss (s ++ bx x) _ (HS.out.ext hx) HD.out HBZ.out).mono ?_; rintro e w9 ⟨v9, rfl, r9, x9⟩; obtain ⟨a9, cap9, rfl⟩ := r9.shape; rw [← HL.out])
          go_roundw
          case rel => exact ⟨k + 1, by omega, by rw [HN.out], by rw [← HXN.out], hx.trans x9⟩
          case measure => simp [intOf]; omega
      · obtain rfl : k = 8 := by omega
        have hgt : ¬ (50 + ((8 : Nat) : Int)) ≤ 57 := by omega
        go_wp2
        go_ret2
        exact ⟨ret_sb (by rw [HO.out]; exact (nkV_yes HOK.out).symm) HOK.out.symm, hx⟩

theorem nkZ_step (q : ByteArray) (l : List ByteArray) (k : Nat) (h : k < l.length) : nkZ q (l.take (k + 1)) = nkZ q (l.take k) ++ (if q.size < l[k].size then [nkC q l[k]] else []) := by
  unfold nkZ
  rw [takeS l k h, List.filter_append, List.map_append]
  by_cases hc : q.size < l[k].size
  · rw [if_pos hc, List.filter_cons_of_pos (by simp [hc])]; rfl
  · rw [if_neg hc, List.filter_cons_of_neg (by simp [hc])]; rfl
theorem nkZ_yes {q : ByteArray} {l : List ByteArray} {k : Nat} (h : k < l.length) (hc : q.size < l[k].size) : nkZ q (l.take (k + 1)) = nkZ q (l.take k) ++ [nkC q l[k]] := by rw [nkZ_step q l k h, if_pos hc]
theorem nkZ_no {q : ByteArray} {l : List ByteArray} {k : Nat} (h : k < l.length) (hc : ¬ q.size < l[k].size) : nkZ q (l.take (k + 1)) = nkZ q (l.take k) := by rw [nkZ_step q l k h, if_neg hc, List.append_nil]
theorem info_u8K : (Tryd.prog.info? 5).map (fun i => (i.zero, i.size, i.bytes)) = some (some (.int .u8 0), 1, 1) := by kernel_rfl
theorem infoK {P : Program} {t : TypeId} {z : Value} {n b : Nat} (h : (P.info? t).map (fun i => (i.zero, i.size, i.bytes)) = some (some z, n, b)) : ∃ i, P.info? t = some i ∧ i.zero = some z ∧ i.size = n ∧ i.bytes = b := by
  cases hi : P.info? t with
  | none => rw [hi] at h; cases h
  | some i =>
    rw [hi] at h
    simp only [Option.map_some, Option.some.injEq, Prod.mk.injEq] at h
    exact ⟨i, rfl, h.1, h.2.1, h.2.2⟩
theorem oneY (x : Int) : ∀ u ∈ [Value.int .u8 x], u.oneCell' = true := by intro u hu; simp at hu; subst hu; rfl
theorem nkC_at (q s : ByteArray) (h : q.size < (keysB s).size) : ((keysB s)[q.size].toNat : Int) = nkC q s := by
  unfold nkC
  have hl : q.size < (keysB s).data.toList.length := by rw [Array.length_toList]; exact h
  rw [List.getD_eq_getElem?_getD, List.getElem?_eq_getElem hl]
  rfl

set_option maxRecDepth 100000 in
theorem conv_M {M : List Int} {g cap N : Nat} {w : World} (hb : ∀ x ∈ M, 50 ≤ x ∧ x < 58) (hN : N = M.length) (hc : ∀ j (hj : j < M.length), w.cell? ⟨g, j, none⟩ = some (.int .u8 M[j])) : (convert 46 9 (.slice (some ⟨g, 0, none⟩) N cap)).run Tryd.prog w = .ok (.string (BsI M)) w := by
  have hl : N = (M.map fun c => c.toNat.toUInt8).length := by rw [List.length_map]; exact hN
  rw [hl]
  refine run_convert_bytes_back (P := Tryd.prog) w 46 9 5 ⟨g, 0, none⟩ cap (M.map fun c => c.toNat.toUInt8) Tryd.underlying46 Tryd.underlying5 Tryd.underlying9 (fun j hj => ?_)
  have hj' : j < M.length := by simpa using hj
  rw [show (Addr.add ⟨g, 0, none⟩ j) = ⟨g, j, none⟩ from by cases j <;> simp [Addr.add], hc j hj']
  have hx := hb M[j] (List.getElem_mem hj')
  have e : ((M[j].toNat.toUInt8).toNat : Int) = M[j] := by
    have : (M[j].toNat.toUInt8).toNat = M[j].toNat % 256 := rfl
    omega
  rw [List.getElem_map, e]

set_option maxRecDepth 100000 in
set_option maxHeartbeats 4000000 in
theorem impl_any (v : Value) (ss : List ByteArray) (s : ByteArray) (w : World) (h : Strs w v ss) (hs : s.size ≤ maxLen) (hp : PadIs w) : Calls Tryd.prog 17 #[v, .string s] w fun e w' => e = .returned (.tuple #[.string (nkV ss s), .bool (okB ss s)]) ∧ Ext w w' := by
  have HS := Lib.hid h
  have HP := Lib.hid hp
  clear h hp
  cases hd : dicB ss
  · have H := Lib.hid (okB_d (s := s) hd)
    go_enter Tryd.func17, Tryd.ntmps17
    go_wp2_with (go_at_call 32; refine (dict_any _ _ _ HS.out).mono ?_; rintro e w1 ⟨rfl, x1⟩; rw [hd])
    go_ret2
    exact ⟨ret_sb (nkV_no H.out).symm H.out.symm, x1⟩
  have HD := Lib.hid hd
  obtain ⟨hl1, hl2⟩ := dicB_len hd
  by_cases hbad : ¬ s = ⟨#[]⟩ ∧ spK s = false
  · obtain ⟨he, hk⟩ := hbad
    have H := Lib.hid (okB_k (ss := ss) he hk)
    have t1 := empty_no he
    clear he
    go_enter Tryd.func17, Tryd.ntmps17
    go_wp2_with (first | (go_at_call 32; refine (dict_any _ _ _ HS.out).mono ?_; rintro e w1 ⟨rfl, x1⟩; rw [hd]) | (go_at_call 38; refine (areSplit_any _ _ hs).mono ?_; rintro e w' ⟨rfl, rfl⟩; rw [hk]))
    go_ret2
    exact ⟨ret_sb (nkV_no H.out).symm H.out.symm, x1⟩
  have HOK := Lib.hid (show okB ss s = true by
    by_cases he : s = ⟨#[]⟩
    · exact okB_e hd he
    · exact okB_y hd (by cases hk : spK s; exact absurd ⟨he, hk⟩ hbad; rfl))
  have hsz := (okB_sz HOK.out).2
  have hcase : s.toList.isEmpty = true ∨ s.toList.isEmpty = false ∧ spK s = true := by
    by_cases he : s = ⟨#[]⟩
    · exact .inl (empty_yes he)
    · exact .inr ⟨empty_no he, by cases hk : spK s; exact absurd ⟨he, hk⟩ hbad; rfl⟩
  clear hbad
  obtain ⟨i0, hi, hz0, hzs, hzb⟩ := infoK info_u8K
  have HI := Lib.hid (show Tryd.prog.info? 5 = some i0 ∧ i0.zero = some (.int .u8 0) ∧ i0.size = 1 ∧ i0.bytes = 1 from ⟨hi, hz0, hzs, hzb⟩)
  clear hi hz0 hzs hzb
  obtain ⟨bs, hbs⟩ : ∃ bs, bs = begs ss s := ⟨_, rfl⟩
  have HBS := Lib.hid hbs
  have hb12 : bs.length ≤ 12 := by rw [hbs]; exact Nat.le_trans (begs_len _ _) hl2
  have HBW := Lib.hid (show ∀ t ∈ bs, wdW t = true from fun t ht => dicB_mem hd t (begs_mem (hbs ▸ ht)))
  have HWAY := Lib.hid (show Lib.compact (srtUp (nkZ s bs) (nkZ s bs).length) = mdUp ss s 8 by rw [hbs]; exact nk_way hd s)
  clear hbs
  go_enter Tryd.func17, Tryd.ntmps17
  rcases hcase with t1 | ⟨t1, hk⟩
  all_goals
    go_wp2_with (first | (go_at_call 32; refine (dict_any _ _ _ HS.out).mono ?_; rintro e w1 ⟨rfl, x1⟩; rw [hd]) | (go_at_call 38; refine (areSplit_any _ _ hs).mono ?_; rintro e w' ⟨rfl, rfl⟩; rw [hk]) | (go_at_call 39; refine (wordsFrom_any _ _ _ _ (HS.out.ext x1) HD.out hs (HP.out.ext x1)).mono ?_; rintro e w2 ⟨v2, rfl, r2, x2⟩; rw [← HBS.out] at r2; have R2 := Lib.hid r2; clear r2; obtain ⟨a2, cap2, rfl⟩ := R2.out.shape))
    have X2 : Ext w w2 := x1.trans x2
    go_loopw [6, 25] (fun o i wr => ∃ k : Nat, k ≤ bs.length ∧ i = .int .i64 k ∧ RowY w2.heap.size wr o (nkZ s (bs.take k)).length (nkZ s (bs.take k)) ∧ ((nkZ s (bs.take k)).length = 0 → o = .slice none 0 0) ∧ Ext w2 wr) (fun _ i _ => bs.length - (intOf i).toNat)
    case atStart => exact ⟨0, Nat.zero_le _, rfl, World.ownsRow_nil _ _ _ _, fun _ => rfl, Ext.refl _⟩
    case round =>
      obtain ⟨k, hk, rfl, hO, hZ0, hx⟩ := hrel
      have HO := Lib.hid hO
      have HZ := Lib.hid hZ0
      clear hO hZ0
      by_cases hlt : k < bs.length
      · obtain ⟨g2, rfl, _, hg2, c2, _⟩ := (R2.out.ext hx).at k hlt
        have HW := Lib.hid (wdW_isW (HBW.out _ (List.getElem_mem hlt)))
        have hz10 := wdW_size (HBW.out _ (List.getElem_mem hlt))
        have hln : (nkZ s (bs.take k)).length ≤ 12 := Nat.le_trans (nkZ_len _ _) (by rw [List.length_take]; omega)
        obtain ⟨t, ht⟩ : ∃ t, t = bs[k] := ⟨_, rfl⟩
        have HTT := Lib.hid ht
        rw [← ht] at c2 HW hz10
        clear ht
        by_cases hc : s.size < t.size
        · have HN := Lib.hid (nkZ_yes (q := s) hlt (by rw [← HTT.out]; exact hc))
          have hkz : (keysB t).size = t.size := keysB_size t
          have hkl : s.size < (keysB t).size := by omega
          have hci : (s.size : Int) < (t.size : Int) := by omega
          have hcv := nkC_at s t hkl
          go_wp2_with (first | (go_at_call 33; refine (keysL_any _ _ HW.out (HP.out.ext (X2.trans hx))).mono ?_; rintro e w9 ⟨rfl, x9⟩) | (at_builtin; refine wpList_append_own _ rfl _ _ 46 rfl w2.heap.size 5 i0 (.int .u8 0) 1 1 Tryd.underlying46 HI.out.1 HI.out.2.1 HI.out.2.2.1 HI.out.2.2.2 rfl (by decide) _ _ _ rfl (World.ownsRow.alloc (row_ext HO.out x9) _) ⟨_, 0, none⟩ 1 1 [.int .u8 (nkC s t)] rfl rfl (by rw [← hcv]; exact cell_one_new _ _ _) (oneY _) (by unfold maxLen; omega) (by omega) (by have := (hx.trans x9).size; simp; omega) ?_; intro v5 w5 own5 gr5 _))
          have X5 : Ext w2 w5 := ext_grown ((hx.trans x9).alloc _) gr5 (fun j hj => (World.ownsRow.lt HO.out j hj).1)
          have RN := Lib.hid (show RowY w2.heap.size w5 v5 (nkZ s (bs.take (k + 1))).length (nkZ s (bs.take (k + 1))) from by
            rw [HN.out, ← HTT.out]
            unfold RowY
            rw [List.length_append, List.map_append]
            exact own5)
          have HNZ := Lib.hid (show ¬ (nkZ s (bs.take (k + 1))).length = 0 by rw [HN.out, List.length_append]; simp)
          clear own5 gr5
          go_wp2
          go_roundw
          case rel => exact ⟨k + 1, by omega, by go_num, RN.out, fun h => absurd h HNZ.out, X5⟩
          case measure => simp [intOf]; omega
        · have HN := Lib.hid (nkZ_no (q := s) hlt (by rw [← HTT.out]; exact hc))
          have hci : ¬ (s.size : Int) < (t.size : Int) := by omega
          go_wp2
          go_roundw
          case rel => exact ⟨k + 1, by omega, by go_num, by rw [HN.out]; exact HO.out, by rw [HN.out]; exact HZ.out, hx⟩
          case measure => simp [intOf]; omega
      · have HT := Lib.hid (show bs.take k = bs from List.take_of_length_le (by omega))
        rw [HT.out] at HO HZ
        obtain ⟨Z, hZ⟩ : ∃ Z, Z = nkZ s bs := ⟨_, rfl⟩
        have HZE := Lib.hid hZ
        have hZ12 : Z.length ≤ 12 := by rw [hZ]; exact Nat.le_trans (nkZ_len _ _) hb12
        rw [← hZ] at HO HZ HWAY
        clear hZ HT
        obtain ⟨m, hm⟩ : ∃ m, m = Z.length := ⟨_, rfl⟩
        have HMM := Lib.hid hm
        rw [← hm] at HO HZ HWAY hZ12
        clear hm
        by_cases h0 : m = 0
        · obtain rfl := HZ.out h0
          have HE := Lib.hid (show nkV ss s = ⟨#[]⟩ by rw [nkV_yes HOK.out, ← HWAY.out]; rw [h0] at HMM HWAY ⊢; rw [show Z = [] from List.length_eq_zero_iff.1 HMM.out.symm]; rfl)
          have hcv := fun w' : World => Lib.run_convert_nil_bytes (P := Tryd.prog) w' 46 9 5 0 Tryd.underlying46 Tryd.underlying5 Tryd.underlying9
          subst h0
          go_wp2_with (first | (go_at_call 40; refine (sortY_any w2.heap.size w2 none 0 0 Z _ HMM.out.symm (by omega) HO.out hx (Nat.le_refl _)).mono ?_; rintro e w9 ⟨rfl, r9, x9⟩) | (go_at_call 41; refine (compactY_zero _ _ _).mono ?_; rintro e w' ⟨rfl, rfl⟩))
          go_ret2
          exact ⟨ret_sb HE.out.symm HOK.out.symm, X2.trans x9⟩
        · rcases HO.out.2 with ⟨_, hn0⟩ | ⟨g, cap, _, rfl, hg, _, _⟩
          · exact absurd hn0 h0
          obtain ⟨M, hM⟩ : ∃ M, M = mdUp ss s 8 := ⟨_, rfl⟩
          have HMB := Lib.hid (show ∀ x ∈ M, 50 ≤ x ∧ x < 58 from fun x hx => by
            rw [hM] at hx
            have := (mdUp_mem ss s 8 x).1 hx
            exact ⟨this.1, by omega⟩)
          have HE := Lib.hid (show nkV ss s = BsI M by rw [nkV_yes HOK.out, hM])
          rw [← hM] at HWAY
          clear hM
          have HSL := Lib.hid (show (srtUp Z m).length = m by rw [srtUp_len]; exact HMM.out.symm)
          obtain ⟨N, hN⟩ : ∃ N, N = M.length := ⟨_, rfl⟩
          have HNN := Lib.hid hN
          clear hN
          go_wp2_with (first | (go_at_call 40; refine (sortY_any w2.heap.size w2 (some ⟨g, 0, none⟩) m cap Z _ HMM.out.symm hZ12 HO.out hx (Nat.le_refl _)).mono ?_; rintro e w9 ⟨rfl, r9, x9⟩) | (go_at_call 41; refine (compactY_any w2.heap.size g m cap w2 (srtUp Z m) _ HSL.out hZ12 r9 x9 hg).mono ?_; rintro e w10 ⟨rfl, c10, x10⟩; rw [HWAY.out, ← HNN.out]; have hcv := conv_M (cap := cap) HMB.out HNN.out (fun j hj => by have := c10 j (by rw [HWAY.out]; exact hj); simp only [HWAY.out] at this; exact this)))
          go_ret2
          exact ⟨ret_sb HE.out.symm HOK.out.symm, X2.trans x10⟩

set_option maxHeartbeats 4000000 in
theorem walk (w : World) (v : Value) (ss : List ByteArray) (h : Strs w v ss) (s1 : ByteArray) (hs1 : s1.size ≤ maxLen) (hp : PadIs w) : Calls Tryd.prog 4 #[v, .string s1] w fun e w' => e = .returned (.bool true) ∧ Ext w w' := by
  have H := Lib.hid h
  clear h
  have h63_1 : s1.size ≤ 9223372036854775807 := hs1
  by_cases hbig1 : 1048576 < s1.size
  · go_enter Tryd.func4, Tryd.ntmps4
    go_wp2
    go_ret
    exact ⟨rfl, Ext.refl _⟩
  go_enter Tryd.func4, Tryd.ntmps4
  go_wp2_with (first | (go_at_call 9; refine (szS_any _ _ _ H.out).mono ?_; rintro e w' ⟨r, hr, rfl, rfl⟩))
  · go_ret
    exact ⟨rfl, Ext.refl _⟩
  · have hf := hr (by assumption)
    obtain ⟨hn, hb⟩ := hf
    clear hr
    refine (toS_any _ _ _ (H.out) hn).mono ?_
    rintro e w1 ⟨u1, rfl, hu1, x1, gx1, cx1, rfl, hgx1, hox1⟩
    have H1 := Lib.hid hu1
    have O1 := Lib.hid hox1
    have hg1 : gx1 < w1.heap.size := by
      rcases hox1.2 with ⟨h3, _⟩ | ⟨g', c, cur, h3, _, hg, _⟩
      · cases h3
      · cases h3
        exact heap_lt hg
    clear hu1 hox1
    have X1 : Ext w w1 := x1
    go_wp2_with fail
    refine (spec_any _ _ _ _ H1.out hs1).mono ?_
    rintro e w2 ⟨rfl, x2⟩
    have X2 : Ext w w2 := X1.trans x2
    go_wp2_with fail
    refine (toS_any _ _ _ (H.out.ext X2) hn).mono ?_
    rintro e w3 ⟨u3, rfl, hu3, x3, gx3, cx3, rfl, hgx3, hox3⟩
    have H3 := Lib.hid hu3
    have O3 := Lib.hid hox3
    have hg3 : gx3 < w3.heap.size := by
      rcases hox3.2 with ⟨h3, _⟩ | ⟨g', c, cur, h3, _, hg, _⟩
      · cases h3
      · cases h3
        exact heap_lt hg
    clear hu3 hox3
    have X3 : Ext w w3 := X2.trans x3
    go_wp2_with fail
    refine (impl_any _ _ _ _ H3.out hs1 (hp.ext X3)).mono ?_
    rintro e w4 ⟨rfl, x4⟩
    have X4 : Ext w w4 := X3.trans x4
    go_wp2_with fail
    refine (toS_any _ _ _ (H.out.ext X4) hn).mono ?_
    rintro e w5 ⟨u5, rfl, hu5, x5, gx5, cx5, rfl, hgx5, hox5⟩
    have H5 := Lib.hid hu5
    have O5 := Lib.hid hox5
    have hg5 : gx5 < w5.heap.size := by
      rcases hox5.2 with ⟨h3, _⟩ | ⟨g', c, cur, h3, _, hg, _⟩
      · cases h3
      · cases h3
        exact heap_lt hg
    clear hu5 hox5
    have X5 : Ext w w5 := X4.trans x5
    go_wp2_with fail
    refine (eqS_any _ _ _ _ (H3.out.ext (x4.trans x5)) (H5.out) hn).mono ?_
    rintro e w6 ⟨rfl, x6⟩
    have X6 : Ext w w6 := X5.trans x6
    go_wp2_with fail
    go_ret
    exact ⟨rfl, X6⟩

set_option maxRecDepth 100000 in
theorem contract (H : Type) (enc : TypeId × Value → H) (W : World) (base : Nat) (args : Array Value) (ds gs : List (DataW H)) (before : List MemPlace)
    (hval : ∀ (j : Nat) t v, Tryd.f4.params[j]? = some t → args[j]? = some v → Value.okWide Tryd.prog W .any base t v)
    (hW : DataW.Whole enc Tryd.prog Tryd.f4.params.toList Rows.fnExactNextKeysOfSpec.vars false W args.toList ds gs before) (hL : laidMetH Tryd.prog Rows.fnExactNextKeysOfRow.laid W) :
    Calls Tryd.prog 4 args W fun e W' => ∃ v, e = .returned v ∧ Rows.fnExactNextKeysOfSpec.post enc Tryd.prog Tryd.f4 false true false false W args v W' := by
  have hW' := hW
  obtain ⟨p, q, hA0, hV, rfl, hfz, hnd⟩ := hW
  have hA : DataW.TrodAll enc Tryd.prog W 0 (fun _ => true) true Tryd.f4.params.toList args.toList ds p := hA0
  rw [Tryd.params4] at hA hval
  obtain ⟨v0, vs0, d0, ds0, p0, q0, hargs0, rfl, rfl, h0, r0⟩ := trodAll_cons hA
  obtain ⟨v1, vs1, d1, ds1, p1, q1, hargs1, rfl, rfl, h1, r1⟩ := trodAll_cons r0
  obtain ⟨rfl, rfl, rfl⟩ := trodAll_nil r1
  subst hargs1
  obtain rfl : args = #[v0, v1] := Array.toList_inj.1 hargs0
  obtain ⟨s0, z0⟩ := strs_of (hval 0 22 v0 rfl rfl) h0
  obtain ⟨s1, rfl, rfl, rfl, z1⟩ := open_string Tryd.underlying9 (hval 1 9 v1 rfl rfl) h1
  clear hA0
  refine (walk W v0 s0 z0 s1 z1 (padIs_of_laid hL)).mono fun e W' ⟨he, hx⟩ => ?_
  subst he
  exact ⟨_, rfl, post_true (tb := 4) laidOut (by rw [Tryd.params4]; intro t ht; simp at ht; rcases ht with rfl | rfl <;> exact ⟨by kernel_rfl, of_decide_eq_true (by kernel_rfl)⟩) (by kernel_rfl) hW' hx (by obtain ⟨g, t, cs, fuel, d, p', rfl, _⟩ := trodVars_one hV; rfl) rfl Tryd.underlying4⟩

theorem reads (os : Os) {H : Type} (enc : TypeId × Value → H) : ∃ gs places, DataW.whole enc Tryd.prog ((laidWorld os).forCall (fun _ _ => 0) ⟨#[], #[.slice none 0 0, .string ByteArray.empty], []⟩).memory Tryd.f4.params.toList Rows.fnExactNextKeysOfSpec.vars false (#[.slice none 0 0, .string ByteArray.empty] : Array Value).toList 8 = some ([.nil, .lit (.string [])], gs, places) :=
  ⟨[Rows.laid_loop_example_g01350_impl_padKeys], MemPlace.row ⟨0, 0, none⟩ 16, by kernel_rfl⟩

set_option maxRecDepth 100000 in
theorem lifted (os : Os) (started : os.Started) (H : Type) (enc : TypeId × Value → H) (F : Stop.Interp) :
    ReturnsInHanded {} Tryd.checked os 4 .any ((OpenSpec.ofChange Rows.fnExactNextKeysOfSpec).preRow enc Tryd.prog Tryd.f4 Rows.fnExactNextKeysOfRow.domain false Rows.fnExactNextKeysOfRow.laid) (((OpenSpec.ofChange Rows.fnExactNextKeysOfSpec).at F).post enc Tryd.prog Tryd.f4 false true false false) := by
  obtain ⟨gs, places, hx⟩ := reads os enc
  refine returnsInHanded_of_row (C := Tryd.checked) (s := OpenSpec.ofChange Rows.fnExactNextKeysOfSpec) own started (by kernel_rfl) Tryd.func4
    (witness_row_at (enc := enc) (C := Tryd.checked) false (laidWorld os) #[.slice none 0 0, .string ByteArray.empty] rfl (by kernel_rfl) (by kernel_rfl) (by kernel_rfl)
      (OpenSpec.preRow_of_cond 8 hx (by kernel_rfl) (fun k hk => by cases hk) (by kernel_rfl) (laid_met os _))) ?_
  intro W base args ds gs before hval hW _ _ _ hL _ _
  exact contract H enc W base args ds gs before hval hW hL

theorem said : Rows.FnExactNextKeysOfSaid :=
  OpenClaim.holds_of_cond 4 Tryd.f4 rfl rfl rfl rfl rfl rfl rfl ⟨rfl, rfl, rfl, rfl, rfl⟩ rfl rfl rfl rfl rfl (by kernel_rfl) Tryd.func4 (by kernel_rfl)
    (of_decide_eq_true (by kernel_rfl)) (by unfold Func.isWrapper; first | (rw [if_pos (by decide +kernel)]; kernel_rfl) | (rw [if_neg (by decide +kernel)]; exact ⟨rfl, rfl⟩))
    (fun os started H enc _ F => by rw [OpenClaim.pre_eq_preRow]; exact lifted os started H enc F)

theorem plain (f : FuncId) (fn : Func) (hf : Tryd.pinned.checked.prog.funcNamed "loop.example/g01350/laws.FnExactNextKeysOf" = some f) (hfn : Tryd.pinned.checked.prog.funcs[f]? = some fn) :
    false = Tryd.pinned.checked.prog.looks [] ∧ ∀ (j : Nat) t, fn.params[j]? = some t → Tryd.pinned.checked.prog.wantsStandIn t = false := by
  obtain rfl : f = 4 := Option.some.inj ((show Tryd.prog.funcNamed "loop.example/g01350/laws.FnExactNextKeysOf" = some 4 by kernel_rfl).symm.trans hf) |>.symm
  obtain rfl : fn = Tryd.f4 := (Option.some.inj (Tryd.func4.symm.trans hfn)).symm
  refine ⟨by kernel_rfl, fun j t ht => ?_⟩
  rw [Tryd.params4] at ht
  have hm := Array.mem_of_getElem? ht
  have hall : (#[22, 9].toList.all fun u => !Tryd.prog.wantsStandIn u) = true := by kernel_rfl
  exact (show Tryd.prog.wantsStandIn t = false by simpa using List.all_eq_true.1 hall t (by simpa using hm))

/-- THE CARD -/
theorem card : Rows.FnExactNextKeysOfCardSaid :=
  Claim7.holds_tied_plain_at .later [] _ _ _ _ said (fun _ h => by cases h) (by kernel_rfl) (fun _ h => by cases h) fnExactNextKeysOf_row_tie rfl ⟨rfl, rfl⟩ (by kernel_rfl) rfl plain (by kernel_rfl)
end Go.Proofs.YtioinihlahnbfaaDoor.nextKeysOf
