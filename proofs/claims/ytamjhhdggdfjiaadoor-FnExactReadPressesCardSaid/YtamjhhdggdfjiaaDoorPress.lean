/- PressText of the program: the presses of a word, where the text is one. No conditions but the table's content. -/
import Derived.Test.YtamjhhdggdfjiaaDoorRead
import Derived.Test.YtamjhhdggdfjiaaDoorDigits
namespace Go.Proofs.YtamjhhdggdfjiaaDoor
open Go.RowKit

theorem ret_sb {a a' : ByteArray} {b b' : Bool} (h : a = a') (h2 : b = b') : Ending.returned (.tuple #[.string a, .bool b]) = .returned (.tuple #[.string a', .bool b']) := by rw [h, h2]
def ptV (s : ByteArray) : ByteArray := if isW s then Bs (txTo s s.size) else ⟨#[]⟩
theorem ptV_no {s : ByteArray} (h : isW s = false) : ptV s = ⟨#[]⟩ := by unfold ptV; simp [h]
theorem ptV_yes {s : ByteArray} (h : isW s = true) : ptV s = Bs (txTo s s.size) := by unfold ptV; simp [h]

theorem conv_txt {B : Nat} {w : World} {v : Value} {l : List UInt8} (h : Txt B w v l) (hl : l ≠ []) : ∃ a c, v = .slice (some a) l.length c ∧ (convert 44 9 v).run Tryd.prog w = .ok (.string (Bs l)) w := by
  rcases h.2 with ⟨_, hn⟩ | ⟨g, cap, cur, rfl, hb, hg, hnc, hcm, hcs, htake⟩
  · exact absurd (List.length_eq_zero_iff.1 hn) hl
  · refine ⟨_, _, rfl, ?_⟩
    exact run_convert_bytes_back (P := Tryd.prog) w 44 9 5 ⟨g, 0, none⟩ cap l Tryd.underlying44 Tryd.underlying5 Tryd.underlying9 (fun j hj => by
      have h2 := World.ownsRow.cellAt h j (by omega)
      rw [show (Addr.add ⟨g, 0, none⟩ j) = ⟨g, j, none⟩ from by cases j <;> simp [Addr.add], h2]
      simp [hj])

theorem presses_agg (c : Int) (w : World) (hc : isL c = true) : Calls Tryd.prog 58 #[.agg #[.int .u8 (dg c), .string (lt (grp c)), .int .i64 (pl c)]] w fun e w' => e = .returned (.int .i64 (pl c + 1)) ∧ Ext w w' := presses_any c w hc
def padO (c : Int) : Obj := .cells #[.int .u8 (dg c), .string (lt (grp c)), .int .i64 (pl c)] 57
theorem new_block (w : World) (o : Obj) : (w.alloc o).heap[w.heap.size]? = some o := (MapKept.heap_alloc w o).1
theorem ext_block {w w' : World} (hx : Ext w w') {k : Nat} {o : Obj} (h : w.heap[k]? = some o) : w'.heap[k]? = some o := by
  have hlt : k < w.heap.size := by
    rcases Nat.lt_or_ge k w.heap.size with h2 | h2
    · exact h2
    · rw [Array.getElem?_eq_none h2] at h; cases h
  exact (hx.block k hlt).trans h
theorem pad_cells {w : World} {k : Nat} {c : Int} (h : w.heap[k]? = some (padO c)) : w.cell? ⟨k, 0, none⟩ = some (.int .u8 (dg c)) ∧ w.cell? ⟨k, 1, none⟩ = some (.string (lt (grp c))) := by
  unfold padO at h
  constructor <;> simp [World.cell?, h]
theorem snoc_dg {B : Nat} {w : World} {v : Value} {l : List UInt8} {c : UInt8} (h : w.ownsRow B 5 1 v (l.length + 1) ((l.map fun b => Value.int .u8 b.toNat) ++ [.int .u8 (dg c.toNat)])) : Txt B w v (l ++ [dgB8 c]) := by
  refine Txt.snoc (b := dgB8 c) ?_
  rw [show ((dgB8 c).toNat : Int) = dg c.toNat from dgB c]
  exact h
theorem one1 (x : Int) : ∀ u ∈ [Value.int .u8 x], u.oneCell' = true := by intro u hu; simp at hu; subst hu; rfl
/-- What the round keeps of the text and of the letter's pad, where one sign is appended. -/
theorem step_sign {B : Nat} {w wr w4 w5 : World} {v v' : Value} {l : List UInt8} {c : UInt8} {b2 : Nat} {o : Obj} (hB : B = w.heap.size) (hO : Txt B wr v l) (hx : Ext w wr) (x4 : Ext wr w4) (hb : wr.heap[b2]? = some (padO c.toNat))
    (hown : w5.ownsRow B 5 1 v' (l.length + 1) ((l.map fun b => Value.int .u8 b.toNat) ++ [.int .u8 (dg c.toNat)])) (hg : (w4.alloc o).grownBy w5 v.ownBlock) :
    Txt B w5 v' (l ++ [dgB8 c]) ∧ Ext w w5 ∧ w5.heap[b2]? = some (padO c.toNat) := by
  have hb4 := ext_block ((x4.trans ((Ext.refl w4).alloc o))) hb
  have hO4 := hO.ext (x4.trans ((Ext.refl w4).alloc o))
  refine ⟨snoc_dg hown, ((hx.trans x4).alloc o).grown hg (fun k hk => hB ▸ hO.base k hk), kept_block hg hb4 ?_⟩
  exact hO4.own hb4 (by decide)

set_option maxRecDepth 100000 in
set_option maxHeartbeats 1000000 in
theorem pressText_any (s : ByteArray) (w : World) (hs : s.size ≤ maxLen) (hp : PadIs w) : Calls Tryd.prog 32 #[.string s] w fun e w' => e = .returned (.tuple #[.string (ptV s), .bool (isW s)]) ∧ Ext w w' := by
  cases h : isW s
  · have H := Lib.hid (ptV_no h)
    go_enter Tryd.func32, Tryd.ntmps32
    go_wp2_with (go_at_call 55; refine (isW_any _ _ hs).mono ?_; rintro e w' ⟨rfl, rfl⟩)
    go_ret2
    exact ⟨ret_sb H.out.symm rfl, Ext.refl _⟩
  · have H := Lib.hid (ptV_yes h)
    have h' := Lib.hid h
    obtain ⟨hz1, hz2⟩ := isW_size h
    obtain ⟨i0, hi, hz0, hzs, hzb⟩ := info_parts info_u8
    have HI := Lib.hid (show Tryd.prog.info? 5 = some i0 ∧ i0.zero = some (.int .u8 0) ∧ i0.size = 1 ∧ i0.bytes = 1 from ⟨hi, hz0, hzs, hzb⟩)
    clear hi hz0 hzs hzb
    go_enter Tryd.func32, Tryd.ntmps32
    go_wp2_with (go_at_call 55; refine (isW_any _ _ hs).mono ?_; rintro e w' ⟨rfl, rfl⟩)
    clear h
    go_loopw [4, 12] (fun v i wr => ∃ k : Nat, k ≤ s.size ∧ i = .int .i64 k ∧ Txt w.heap.size wr v (txTo s k) ∧ Ext w wr) (fun _ i _ => s.size - (intOf i).toNat)
    case atStart => exact ⟨0, by omega, rfl, Txt.nil _ _, Ext.refl _⟩
    case round =>
      rename_i v _ _
      obtain ⟨k, hk, rfl, hown, hx⟩ := hrel
      have HO := Lib.hid hown
      clear hown
      by_cases hlt : k < s.size
      · have HL := Lib.hid (isW_get h'.out k hlt)
        obtain ⟨hp1, hp2, _⟩ := pl_bd s[k].toNat HL.out
        have hT := txTo_len s h'.out k hk
        have HTX := Lib.hid (txTo_succ s k hlt)
        cases hq : wb s k
        · obtain ⟨bl, hbl⟩ : ∃ bl, bl = txTo s k := ⟨_, rfl⟩
          have hbn : bl.length ≤ 5 * k + 1 := by rw [hbl]; omega
          have HP := Lib.hid (preL_no hq)
          have HBL := Lib.hid (show bl = txTo s k ++ [] from by rw [List.append_nil]; exact hbl)
          rw [← hbl] at HO
          clear hbl
          go_wp2_with (first | (go_at_call 56; refine (mustWait_all s k _ rfl hlt _ h'.out (hp.ext hx)).mono ?_; rintro e w1 ⟨rfl, x1⟩; rw [hq]) | (go_at_call 57; refine (padOf_any _ _ (hp.ext (hx.trans x1)) HL.out).mono ?_; rintro e w2 ⟨rfl, x2⟩; unfold padV) | (go_at_call 58; refine (presses_agg _ _ HL.out).mono ?_; rintro e w3 ⟨rfl, x3⟩))
          have hb2 : w3.heap[w2.heap.size]? = some (padO s[k].toNat) := ext_block x3 (new_block w2 _)
          have hx3 := ((hx.trans x1).trans x2).trans (((Ext.refl w2).alloc (padO s[k].toNat)).trans x3)
          have HO3 := Lib.hid ((((HO.out.ext x1).ext x2).ext ((Ext.refl w2).alloc (padO s[k].toNat))).ext x3)
          have HX3 := Lib.hid (And.intro hb2 hx3)
          clear hb2
          obtain ⟨pn, hpn⟩ := Int.eq_ofNat_of_zero_le (show 0 ≤ pl s[k].toNat + 1 by omega)
          have HPN := Lib.hid hpn
          have hpn5 : pn ≤ 4 := by omega
          rw [hpn]
          clear hpn
          go_loopw [4, 27] (fun v i wz => ∃ j : Nat, j ≤ pn ∧ i = .int .i64 j ∧ Txt w.heap.size wz v (bl ++ List.replicate j (dgB8 s[k])) ∧ Ext w wz ∧ wz.heap[w2.heap.size]? = some (padO s[k].toNat)) (fun _ i _ => pn - (intOf i).toNat)
          case atStart => exact ⟨0, by omega, rfl, by rw [List.replicate_zero, List.append_nil]; exact HO3.out, HX3.out.2, HX3.out.1⟩
          case round =>
            obtain ⟨j, hj, rfl, hown, hxz, hbz⟩ := hrel
            have HOZ := Lib.hid hown
            have HBZ := Lib.hid hbz
            obtain ⟨c0, c1⟩ := pad_cells hbz
            clear hown hbz
            by_cases hjp : j < pn
            · have hlen : (bl ++ List.replicate j (dgB8 s[k])).length ≤ 250 := by rw [List.length_append, List.length_replicate]; omega
              go_wp2_with (first | (go_at_call 59; refine (sign_any _ _ _).mono ?_; rintro e w4 ⟨rfl, x4⟩) | (at_builtin; refine wpList_append_own _ rfl (.tmp 29) (.tmp 33) 44 rfl w.heap.size 5 i0 (.int .u8 0) 1 1 Tryd.underlying44 HI.out.1 HI.out.2.1 HI.out.2.2.1 HI.out.2.2.2 rfl (by decide) _ _ _ rfl (World.ownsRow.alloc (HOZ.out.ext x4) _) ⟨w4.heap.size, 0, none⟩ 1 1 [.int .u8 (dg s[k].toNat)] rfl rfl (cell_one_new _ _ _) (one1 _) (by unfold maxLen; omega) (by omega) (by have := (hxz.trans x4).size; simp; omega) ?_; intro v' w5 hown' hgr' _))
              have R := step_sign rfl HOZ.out hxz x4 HBZ.out hown' hgr'
              clear hown' hgr' c0 c1
              go_wp2
              go_roundw
              case rel => exact ⟨j + 1, by omega, by go_num, by rw [← rep_snoc, ← List.append_assoc]; exact R.1, R.2.1, R.2.2⟩
              case measure => simp [intOf]; omega
            · obtain rfl : j = pn := by omega
              clear c0 c1
              go_wp2
              go_roundw
              case rel => exact ⟨k + 1, by omega, by go_num, by rw [HTX.out, HP.out, ← HBL.out]; unfold prL; rw [HPN.out]; exact HOZ.out, hxz⟩
              case measure => simp [intOf]; omega
        · obtain ⟨bl, hbl⟩ : ∃ bl, bl = txTo s k ++ [32] := ⟨_, rfl⟩
          have hbn : bl.length ≤ 5 * k + 1 := by rw [hbl]; simp; omega
          have HP := Lib.hid (preL_yes hq)
          have HBL := Lib.hid hbl
          clear hbl
          go_wp2_with (first | (go_at_call 56; refine (mustWait_all s k _ rfl hlt _ h'.out (hp.ext hx)).mono ?_; rintro e w1 ⟨rfl, x1⟩; rw [hq]) | (at_builtin; refine wpList_append_own _ rfl (.tmp 18) (.tmp 19) 44 rfl w.heap.size 5 i0 (.int .u8 0) 1 1 Tryd.underlying44 HI.out.1 HI.out.2.1 HI.out.2.2.1 HI.out.2.2.2 rfl (by decide) _ _ _ rfl (World.ownsRow.alloc (HO.out.ext x1) _) ⟨w1.heap.size, 0, none⟩ 1 1 [.int .u8 32] rfl rfl (cell_one_new _ _ _) (one1 _) (by unfold maxLen; omega) (by omega) (by have := (hx.trans x1).size; simp; omega) ?_; intro v1 wa hown1 hgr1 _))
          have R1 : Txt w.heap.size wa v1 bl ∧ Ext w wa := ⟨by rw [HBL.out]; exact Txt.snoc (b := 32) hown1, ((hx.trans x1).alloc _).grown hgr1 (fun k hk => HO.out.base k hk)⟩
          clear hown1 hgr1
          go_wp2_with (first | (go_at_call 57; refine (padOf_any _ _ (hp.ext R1.2) HL.out).mono ?_; rintro e w2 ⟨rfl, x2⟩; unfold padV) | (go_at_call 58; refine (presses_agg _ _ HL.out).mono ?_; rintro e w3 ⟨rfl, x3⟩))
          have hb2 : w3.heap[w2.heap.size]? = some (padO s[k].toNat) := ext_block x3 (new_block w2 _)
          have hx3 := (R1.2.trans x2).trans (((Ext.refl w2).alloc (padO s[k].toNat)).trans x3)
          have HO3 := Lib.hid (((R1.1.ext x2).ext ((Ext.refl w2).alloc (padO s[k].toNat))).ext x3)
          have HX3 := Lib.hid (And.intro hb2 hx3)
          clear hb2
          obtain ⟨pn, hpn⟩ := Int.eq_ofNat_of_zero_le (show 0 ≤ pl s[k].toNat + 1 by omega)
          have HPN := Lib.hid hpn
          have hpn5 : pn ≤ 4 := by omega
          rw [hpn]
          clear hpn
          go_loopw [4, 27] (fun v i wz => ∃ j : Nat, j ≤ pn ∧ i = .int .i64 j ∧ Txt w.heap.size wz v (bl ++ List.replicate j (dgB8 s[k])) ∧ Ext w wz ∧ wz.heap[w2.heap.size]? = some (padO s[k].toNat)) (fun _ i _ => pn - (intOf i).toNat)
          case atStart => exact ⟨0, by omega, rfl, by rw [List.replicate_zero, List.append_nil]; exact HO3.out, HX3.out.2, HX3.out.1⟩
          case round =>
            obtain ⟨j, hj, rfl, hown, hxz, hbz⟩ := hrel
            have HOZ := Lib.hid hown
            have HBZ := Lib.hid hbz
            obtain ⟨c0, c1⟩ := pad_cells hbz
            clear hown hbz
            by_cases hjp : j < pn
            · have hlen : (bl ++ List.replicate j (dgB8 s[k])).length ≤ 250 := by rw [List.length_append, List.length_replicate]; omega
              go_wp2_with (first | (go_at_call 59; refine (sign_any _ _ _).mono ?_; rintro e w4 ⟨rfl, x4⟩) | (at_builtin; refine wpList_append_own _ rfl (.tmp 29) (.tmp 33) 44 rfl w.heap.size 5 i0 (.int .u8 0) 1 1 Tryd.underlying44 HI.out.1 HI.out.2.1 HI.out.2.2.1 HI.out.2.2.2 rfl (by decide) _ _ _ rfl (World.ownsRow.alloc (HOZ.out.ext x4) _) ⟨w4.heap.size, 0, none⟩ 1 1 [.int .u8 (dg s[k].toNat)] rfl rfl (cell_one_new _ _ _) (one1 _) (by unfold maxLen; omega) (by omega) (by have := (hxz.trans x4).size; simp; omega) ?_; intro v' w5 hown' hgr' _))
              have R := step_sign rfl HOZ.out hxz x4 HBZ.out hown' hgr'
              clear hown' hgr' c0 c1
              go_wp2
              go_roundw
              case rel => exact ⟨j + 1, by omega, by go_num, by rw [← rep_snoc, ← List.append_assoc]; exact R.1, R.2.1, R.2.2⟩
              case measure => simp [intOf]; omega
            · obtain rfl : j = pn := by omega
              clear c0 c1
              go_wp2
              go_roundw
              case rel => exact ⟨k + 1, by omega, by go_num, by rw [HTX.out, HP.out, ← HBL.out]; unfold prL; rw [HPN.out]; exact HOZ.out, hxz⟩
              case measure => simp [intOf]; omega
      · obtain rfl : k = s.size := by omega
        have hne : txTo s s.size ≠ [] := by
          obtain ⟨m, hm⟩ : ∃ m, s.size = m + 1 := ⟨s.size - 1, by omega⟩
          have hL := isW_get h'.out m (by omega)
          have hp := pl_bd s[m].toNat hL
          rw [hm, txTo_succ s m (by omega)]
          intro e
          have := congrArg List.length e
          simp only [List.length_append, prL, List.length_replicate, List.length_nil] at this
          omega
        obtain ⟨a, c, hv, hconv⟩ := conv_txt HO.out hne
        rw [hv] at hconv
        rw [hv]
        clear hv hne
        go_wp2
        go_ret2
        exact ⟨ret_sb H.out.symm rfl, hx⟩

end Go.Proofs.YtamjhhdggdfjiaaDoor
