/- For every list of texts the program's KeysOfAll answers as its model does, in memory of its own, and leaves the list alone, the pad's table being as the program lays it. -/
import Derived.Test.YtioinihlahnbfaaDoorCards
import Derived.Test.YtioinihlahnbfaaDoorTie
import Derived.Test.YtioinihlahnbfaaDoorTab
import Derived.Test.YtioinihlahnbfaaDoorOnce
import Derived.Test.YtioinihlahnbfaaDoorPutIn
import Derived.Test.YtioinihlahnbfaaDoorBegs
import Derived.Test.YtioinihlahnbfaaDoorMarks
import Derived.Test.YtioinihlahnbfaaDoorOpenS
namespace Go.Proofs.YtioinihlahnbfaaDoor.keysOfAll
open Go.ChangeShapes Go.WideShapes Go.ChangeAt Go.RowKit
open Go.ChangeMaps (open_string shut_string)

def kA (ss : List ByteArray) : List ByteArray := ss.map keysB
def wV (ss : List ByteArray) : List ByteArray := if dicB ss then putAll (kA ss) else []
theorem wV_no {ss : List ByteArray} (h : dicB ss = false) : wV ss = [] := by unfold wV; simp [h]
theorem wV_yes {ss : List ByteArray} (h : dicB ss = true) : wV ss = putAll (kA ss) := by unfold wV; simp [h]
theorem kA_len (ss : List ByteArray) : (kA ss).length = ss.length := List.length_map ..
theorem kA_take (ss : List ByteArray) (k : Nat) (h : k < ss.length) : (kA ss).take (k + 1) = (kA ss).take k ++ [keysB ss[k]] := by
  rw [takeS (kA ss) k (by rw [kA_len]; exact h)]
  simp [kA]
theorem all_len (l : List ByteArray) : (putAll l).length ≤ l.length := by
  have := putAll_len l []
  simpa [putAll] using this
theorem all_sz {ss : List ByteArray} (h : dicB ss = true) (k : Nat) : ∀ t ∈ putAll ((kA ss).take k), t.size ≤ maxLen := by
  intro t ht
  have h1 := List.mem_of_mem_take ((putAll_mem _ _).1 ht)
  unfold kA at h1
  obtain ⟨s, hs, rfl⟩ := List.mem_map.1 h1
  have := wdW_size (dicB_mem h s hs)
  rw [keysB_size]
  unfold maxLen
  omega
theorem all_pos {ss : List ByteArray} (k : Nat) (h0 : 0 < k) (hk : k ≤ ss.length) : 0 < (putAll ((kA ss).take k)).length := by
  have h1 : 0 < (kA ss).length := by rw [kA_len]; omega
  have hm : (kA ss)[0] ∈ putAll ((kA ss).take k) := (putAll_mem _ _).2 (List.mem_iff_getElem.2 ⟨0, by rw [List.length_take]; omega, by rw [List.getElem_take]⟩)
  exact List.length_pos_of_mem hm
theorem wV_len (ss : List ByteArray) : (wV ss).length ≤ 1048576 := by
  cases h : dicB ss
  · rw [wV_no h]; simp
  · rw [wV_yes h]
    have h1 := all_len (kA ss)
    rw [kA_len] at h1
    have := dicB_len h
    omega
theorem wV_mem (ss : List ByteArray) : ∀ t ∈ wV ss, t.size ≤ maxLen := by
  intro t ht
  cases h : dicB ss
  · rw [wV_no h] at ht; cases ht
  · rw [wV_yes h] at ht
    have := all_sz h ss.length t
    rw [← kA_len, List.take_length] at this
    exact this ht

set_option maxHeartbeats 2000000 in
theorem spec_any (v : Value) (ss : List ByteArray) (w : World) (h : Strs w v ss) : Calls Tryd.prog 10 #[v] w (ResS (wV ss) (dicB ss) w) := by
  have HS := Lib.hid h
  obtain ⟨a, cap, hv, hnil⟩ := h.at
  rw [hv] at HS ⊢
  clear hv hnil h v
  cases hd : dicB ss
  · have H := Lib.hid hd
    go_enter Tryd.func10, Tryd.ntmps10
    go_wp2_with (go_at_call 29; refine (wdGood_any _ _ _ HS.out).mono ?_; rintro e w1 ⟨rfl, x1⟩)
    go_ret2
    exact ⟨_, rfl, by rw [wV_no H.out]; exact RowS.nil _ _, x1⟩
  have HD := Lib.hid hd
  obtain ⟨hl1, hl2⟩ := dicB_len hd
  go_enter Tryd.func10, Tryd.ntmps10
  go_wp2_with (go_at_call 29; refine (wdGood_any _ _ _ HS.out).mono ?_; rintro e w1 ⟨rfl, x1⟩)
  clear hd
  go_loopw [4, 12] (fun o i wr => ∃ k : Nat, k ≤ ss.length ∧ i = .int .i64 k ∧ RowS w.heap.size wr o (putAll ((kA ss).take k)) ∧ (k = 0 → o = .slice none 0 0) ∧ Ext w wr) (fun _ i _ => ss.length - (intOf i).toNat)
  case atStart => exact ⟨0, Nat.zero_le _, rfl, RowS.nil _ _, fun _ => rfl, x1⟩
  case round =>
    obtain ⟨k, hk, rfl, hown, hz, hx⟩ := hrel
    have HO := Lib.hid hown
    have HZ := Lib.hid hz
    clear hown hz
    by_cases hlt : k < ss.length
    · rcases (HS.out.ext hx).2.2 with ⟨h3, _⟩ | ⟨b, off, cap', h4, hb, hc⟩
      · rw [h3] at hlt; exact absurd hlt (by simp)
      have ha : a = some ⟨b, off, none⟩ := by injection h4
      have e1 := hc k hlt
      have HW := Lib.hid (wdW_isW (dicB_at HD.out k hlt))
      have HN := Lib.hid (show putAll ((kA ss).take (k + 1)) = putL (putAll ((kA ss).take k)) (keysB ss[k]) by rw [kA_take ss k hlt, putAll_snoc])
      have hlen : (putAll ((kA ss).take k)).length ≤ 100 := Nat.le_trans (all_len _) (by rw [List.length_take]; omega)
      rw [ha]
      clear hc h4 ha hb
      by_cases h0 : k = 0
      · obtain rfl := HZ.out h0
        have HE := Lib.hid (show putAll ((kA ss).take k) = [] by rw [h0]; rfl)
        clear h0
        go_wp2_with (first | (go_at_call 31; refine (prKeys_any _ _ HW.out).mono ?_; rintro e w' ⟨rfl, rfl⟩) | (go_at_call 30; refine (wdPut_nil _ _).mono ?_; rintro e w9 ⟨v9, rfl, r9, x9⟩))
        go_roundw
        case rel => exact ⟨k + 1, by omega, by go_num, by rw [HN.out, HE.out]; exact r9.down hx.size, fun h => absurd h (by omega), hx.trans x9⟩
        case measure => simp [intOf]; omega
      · have HPOS := Lib.hid (all_pos k (by omega) hk)
        clear h0
        go_wp2_with (first | (go_at_call 31; refine (prKeys_any _ _ HW.out).mono ?_; rintro e w' ⟨rfl, rfl⟩) | (go_at_call 30; refine (wdPut_any w.heap.size _ _ _ _ HO.out hx.size hlen (all_sz HD.out k) HPOS.out).mono ?_; rintro e w9 ⟨v9, rfl, r9, x9, _⟩))
        go_roundw
        case rel => exact ⟨k + 1, by omega, by go_num, by rw [HN.out]; exact r9, fun h => absurd h (by omega), hx.trans x9⟩
        case measure => simp [intOf]; omega
    · have HT := Lib.hid (show (kA ss).take k = kA ss from List.take_of_length_le (by rw [kA_len]; omega))
      have HV := Lib.hid (wV_yes HD.out)
      go_wp2
      go_ret2
      exact ⟨_, rfl, by rw [HV.out, ← HT.out]; exact HO.out, hx⟩

set_option maxHeartbeats 4000000 in
theorem impl_any (v : Value) (ss : List ByteArray) (w : World) (h : Strs w v ss) (hp : PadIs w) : Calls Tryd.prog 12 #[v] w (ResS (wV ss) (dicB ss) w) := by
  have HS := Lib.hid h
  obtain ⟨a, cap, hv, hnil⟩ := h.at
  rw [hv] at HS ⊢
  clear hv hnil h v
  cases hd : dicB ss
  · have H := Lib.hid hd
    go_enter Tryd.func12, Tryd.ntmps12
    go_wp2_with (go_at_call 32; refine (dict_any _ _ _ HS.out).mono ?_; rintro e w1 ⟨rfl, x1⟩)
    go_ret2
    exact ⟨_, rfl, by rw [wV_no H.out]; exact RowS.nil _ _, x1⟩
  have HD := Lib.hid hd
  obtain ⟨hl1, hl2⟩ := dicB_len hd
  obtain ⟨i0, hi, hz0, hzs, hzb⟩ := info_parts info_strN
  have HI := Lib.hid (show Tryd.prog.info? 9 = some i0 ∧ i0.zero = some (.string ⟨#[]⟩) ∧ i0.size = 1 ∧ i0.bytes = 16 from ⟨hi, hz0, hzs, hzb⟩)
  clear hi hz0 hzs hzb
  go_enter Tryd.func12, Tryd.ntmps12
  go_wp2_with (first | (go_at_call 32; refine (dict_any _ _ _ HS.out).mono ?_; rintro e w1 ⟨rfl, x1⟩) | (at_make; refine wpList_make_full _ rfl _ _ 22 rfl w1.heap.size 9 i0 (.string ⟨#[]⟩) 1 Tryd.underlying22 HI.out.1 HI.out.2.1 HI.out.2.2.1 .i64 .i64 _ _ ss.length rfl rfl rfl rfl (by rw [HI.out.2.2.2]; omega) (by unfold maxLen; omega) (Nat.le_refl _) ?_; intro w2 hown hgr))
  clear hd
  have X1 : Ext w w2 := ext_grown x1 hgr (by intro k hk; cases hk)
  obtain ⟨xs1, hxs1⟩ : ∃ xs, xs = (madeCells (Value.string ⟨#[]⟩).cells (ss.length * 1)).toList := ⟨_, rfl⟩
  rw [← hxs1] at hown
  have HOW := Lib.hid (show w2.ownsRow w.heap.size 9 1 (.slice (some ⟨w1.heap.size, 0, none⟩) ss.length ss.length) ss.length xs1 from ⟨hown.1, hown.2.imp id fun ⟨g, c, cur, a1, a2, a3⟩ => ⟨g, c, cur, a1, Nat.le_trans x1.size a2, a3⟩⟩)
  clear hxs1 hgr hown
  go_loopw [15] (fun i wr => ∃ k : Nat, k ≤ ss.length ∧ i = .int .i64 k ∧ ∃ xs : List Value, wr.ownsRow w.heap.size 9 1 (.slice (some ⟨w1.heap.size, 0, none⟩) ss.length ss.length) ss.length xs ∧ (∀ j (hj : j < ss.length), j < k → xs[j]? = some (.string (keysB ss[j]))) ∧ Ext w wr) (fun i _ => ss.length - (intOf i).toNat)
  case atStart => exact ⟨0, Nat.zero_le _, rfl, xs1, HOW.out, fun j _ h => absurd h (by omega), X1⟩
  case round =>
    obtain ⟨k, hk, rfl, xs, hown, hxs, hx⟩ := hrel
    have HO := Lib.hid hown
    have HX := Lib.hid hxs
    clear hown hxs
    by_cases hlt : k < ss.length
    · have hlen : xs.length = ss.length := by have := HO.out.1; omega
      obtain ⟨u, hu⟩ : ∃ u, xs[k]? = some u := ⟨xs[k]'(by omega), List.getElem?_eq_getElem _⟩
      have HU := Lib.hid hu
      have HW := Lib.hid (wdW_isW (dicB_at HD.out k hlt))
      clear hu hlen
      rcases (HS.out.ext hx).2.2 with ⟨h2, _⟩ | ⟨b, off, cap', h1, hb, hc⟩
      · rw [h2] at hlt; exact absurd hlt (by simp)
      have ha : a = some ⟨b, off, none⟩ := by injection h1
      have hcell := hc k hlt
      rw [ha]
      clear hc h1 ha hb
      go_wp2_with (go_at_call 33; refine (keysL_any _ _ HW.out (hp.ext hx)).mono ?_; rintro e w3 ⟨rfl, x3⟩; have hc3 := ((row_ext HO.out x3).cellAt k (by omega)).trans HU.out; have hf3 := (row_ext HO.out x3).frozenAt k)
      have O3 := (row_ext HO.out x3).stored k (.string (keysB ss[k]))
      go_roundw
      case rel =>
        refine ⟨k + 1, by omega, by go_num, xs.set k (.string (keysB ss[k])), O3.1, ?_, (hx.trans x3).setCell x1.size _⟩
        intro j hj hjk
        by_cases e : j = k
        · subst e
          rw [List.getElem?_set_self (by have := HO.out.1; omega)]
        · rw [List.getElem?_set_ne (by omega)]
          exact HX.out j hj (by omega)
      case measure => simp [intOf]; omega
    · have hk' : k = ss.length := by omega
      have e : xs = (kA ss).map Value.string := by
        apply List.ext_getElem?
        intro j
        by_cases hj : j < ss.length
        · rw [HX.out j hj (by omega)]; simp [kA, hj]
        · rw [List.getElem?_eq_none (by have := HO.out.1; omega), List.getElem?_eq_none (by simp [kA]; omega)]
      have HR := Lib.hid (e ▸ HO.out)
      have HV := Lib.hid (wV_yes HD.out)
      clear e hk'
      go_wp2_with (go_at_call 34; refine (once_any w.heap.size w1.heap.size ss.length ss.length (kA ss) _ (kA_len ss) (by omega) HR.out).mono ?_; rintro e w5 ⟨v5, rfl, r5, x5⟩; have R5 := Lib.hid r5; have X5 : Ext w w5 := x5 w hx x1.size; clear r5 x5)
      go_ret2
      exact ⟨_, rfl, by rw [HV.out]; exact R5.out, X5⟩

set_option maxHeartbeats 4000000 in
theorem walk (w : World) (v : Value) (ss : List ByteArray) (h : Strs w v ss) (hp : PadIs w) : Calls Tryd.prog 3 #[v] w fun e w' => e = .returned (.bool true) ∧ Ext w w' := by
  have H := Lib.hid h
  clear h
  have hzl : (wV ss).length ≤ 1048576 := wV_len ss
  have hzm := Lib.hid (wV_mem ss)
  obtain ⟨zs, hzs⟩ : ∃ zs, zs = wV ss := ⟨_, rfl⟩
  have HZ := Lib.hid hzs
  rw [← hzs] at hzl hzm
  clear hzs
  go_enter Tryd.func3, Tryd.ntmps3
  go_wp2_with (first | (go_at_call 9; refine (szS_any _ _ _ H.out).mono ?_; rintro e w' ⟨r, hr, rfl, rfl⟩))
  · go_ret
    exact ⟨rfl, Ext.refl _⟩
  · have hf := hr (by assumption)
    obtain ⟨hn, hb⟩ := hf
    clear hr
    refine (toS_any _ _ _ (H.out) hn).mono ?_
    rintro e w1 ⟨u1, rfl, hu1, x1, gx1, cx1, rfl, hgx1, hox1⟩
    have H1 := Lib.hid hu1
    have O1 := Lib.hid hox1
    have hg1 : gx1 < w1.heap.size := by
      rcases hox1.2 with ⟨h3, _⟩ | ⟨g', c, cur, h3, _, hg, _⟩
      · cases h3
      · cases h3
        exact heap_lt hg
    clear hu1 hox1
    have X1 : Ext w w1 := x1
    go_wp2_with fail
    refine (spec_any _ _ _ H1.out).mono ?_
    rintro e w2 ⟨g2, rfl, r2, x2⟩
    rw [← HZ.out] at r2
    have R2 := Lib.hid r2
    clear r2
    have X2 : Ext w w2 := X1.trans x2
    go_wp2_with fail
    refine (toS_any _ _ _ (H.out.ext X2) hn).mono ?_
    rintro e w3 ⟨u3, rfl, hu3, x3, gx3, cx3, rfl, hgx3, hox3⟩
    have H3 := Lib.hid hu3
    have O3 := Lib.hid hox3
    have hg3 : gx3 < w3.heap.size := by
      rcases hox3.2 with ⟨h3, _⟩ | ⟨g', c, cur, h3, _, hg, _⟩
      · cases h3
      · cases h3
        exact heap_lt hg
    clear hu3 hox3
    have X3 : Ext w w3 := X2.trans x3
    go_wp2_with fail
    refine (impl_any _ _ _ H3.out (hp.ext X3)).mono ?_
    rintro e w4 ⟨g4, rfl, r4, x4⟩
    rw [← HZ.out] at r4
    have R4 := Lib.hid r4
    clear r4
    have X4 : Ext w w4 := X3.trans x4
    go_wp2_with fail
    refine (eqS_any _ _ _ _ ((R4.out).strs (by unfold maxLen; omega) hzm.out) ((R2.out.ext (x3.trans x4)).strs (by unfold maxLen; omega) hzm.out) hzl).mono ?_
    rintro e w5 ⟨rfl, x5⟩
    have X5 : Ext w w5 := X4.trans x5
    go_wp2_with fail
    refine (toS_any _ _ _ (H.out.ext X5) hn).mono ?_
    rintro e w6 ⟨u6, rfl, hu6, x6, gx6, cx6, rfl, hgx6, hox6⟩
    have H6 := Lib.hid hu6
    have O6 := Lib.hid hox6
    have hg6 : gx6 < w6.heap.size := by
      rcases hox6.2 with ⟨h3, _⟩ | ⟨g', c, cur, h3, _, hg, _⟩
      · cases h3
      · cases h3
        exact heap_lt hg
    clear hu6 hox6
    have X6 : Ext w w6 := X5.trans x6
    go_wp2_with fail
    refine (eqS_any _ _ _ _ (H3.out.ext ((x4.trans x5).trans x6)) (H6.out) hn).mono ?_
    rintro e w7 ⟨rfl, x7⟩
    have X7 : Ext w w7 := X6.trans x7
    go_wp2_with fail
    refine (markS_any _ _ _ gx3 _ _ _ rfl (row_ext O3.out (((x4.trans x5).trans x6).trans x7)) hn).mono ?_
    rintro e w8 ⟨rfl, hg8⟩
    have X8 : Ext w w8 := ext_grown X7 hg8 (fun j hj => by cases hj; exact Nat.le_trans X2.size hgx3)
    have S8 := Lib.hid (RowS.kept (R2.out.ext ((((x3.trans x4).trans x5).trans x6).trans x7)) hg8 (R2.out.apart gx3 (.inr (Nat.le_trans (Nat.le_refl _) hgx3))))
    have G8 := Lib.hid (RowS.kept (R4.out.ext ((x5.trans x6).trans x7)) hg8 (R4.out.apart gx3 (.inl hg3)))
    clear hg8
    go_wp2_with fail
    refine (eqS_any _ _ _ _ ((G8.out).strs (by unfold maxLen; omega) hzm.out) ((S8.out).strs (by unfold maxLen; omega) hzm.out) hzl).mono ?_
    rintro e w9 ⟨rfl, x9⟩
    have X9 : Ext w w9 := X8.trans x9
    go_wp2_with fail
    refine (markR_any _ _ _ _ (G8.out.ext x9) hzl).mono ?_
    rintro e w10 ⟨rfl, m10, hg10⟩
    have M10 := Lib.hid m10
    have X10 : Ext w w10 := ext_grown X9 hg10 (fun j hj => Nat.le_trans X3.size (R4.out.own_le j hj))
    have S10 := Lib.hid (RowS.kept (S8.out.ext x9) hg10 (R2.out.apart2 (w2 := w4) R4.out (x3).size))
    clear m10 hg10
    go_wp2_with fail
    refine (heldR_any _ _ _ _ M10.out hzl).mono ?_
    rintro e w11 ⟨rfl, x11⟩
    have X11 : Ext w w11 := X10.trans x11
    go_wp2_with fail
    refine (toS_any _ _ _ (H.out.ext X11) hn).mono ?_
    rintro e w12 ⟨u12, rfl, hu12, x12, gx12, cx12, rfl, hgx12, hox12⟩
    have H12 := Lib.hid hu12
    have O12 := Lib.hid hox12
    have hg12 : gx12 < w12.heap.size := by
      rcases hox12.2 with ⟨h3, _⟩ | ⟨g', c, cur, h3, _, hg, _⟩
      · cases h3
      · cases h3
        exact heap_lt hg
    clear hu12 hox12
    have X12 : Ext w w12 := X11.trans x12
    go_wp2_with fail
    refine (impl_any _ _ _ H12.out (hp.ext X12)).mono ?_
    rintro e w13 ⟨g13, rfl, r13, x13⟩
    rw [← HZ.out] at r13
    have R13 := Lib.hid r13
    clear r13
    have X13 : Ext w w13 := X12.trans x13
    go_wp2_with fail
    refine (eqS_any _ _ _ _ ((R13.out).strs (by unfold maxLen; omega) hzm.out) ((S10.out.ext ((x11.trans x12).trans x13)).strs (by unfold maxLen; omega) hzm.out) hzl).mono ?_
    rintro e w14 ⟨rfl, x14⟩
    have X14 : Ext w w14 := X13.trans x14
    go_wp2_with fail
    refine (heldR_any _ _ _ _ (M10.out.ext (((x11.trans x12).trans x13).trans x14)) hzl).mono ?_
    rintro e w15 ⟨rfl, x15⟩
    have X15 : Ext w w15 := X14.trans x15
    go_wp2_with fail
    go_ret
    exact ⟨rfl, X15⟩

set_option maxRecDepth 100000 in
theorem contract (H : Type) (enc : TypeId × Value → H) (W : World) (base : Nat) (args : Array Value) (ds gs : List (DataW H)) (before : List MemPlace)
    (hval : ∀ (j : Nat) t v, Tryd.f3.params[j]? = some t → args[j]? = some v → Value.okWide Tryd.prog W .any base t v)
    (hW : DataW.Whole enc Tryd.prog Tryd.f3.params.toList Rows.fnExactKeysOfAllSpec.vars false W args.toList ds gs before) (hL : laidMetH Tryd.prog Rows.fnExactKeysOfAllRow.laid W) :
    Calls Tryd.prog 3 args W fun e W' => ∃ v, e = .returned v ∧ Rows.fnExactKeysOfAllSpec.post enc Tryd.prog Tryd.f3 false true false false W args v W' := by
  have hW' := hW
  obtain ⟨p, q, hA0, hV, rfl, hfz, hnd⟩ := hW
  have hA : DataW.TrodAll enc Tryd.prog W 0 (fun _ => true) true Tryd.f3.params.toList args.toList ds p := hA0
  rw [Tryd.params3] at hA hval
  obtain ⟨v0, vs0, d0, ds0, p0, q0, hargs0, rfl, rfl, h0, r0⟩ := trodAll_cons hA
  obtain ⟨rfl, rfl, rfl⟩ := trodAll_nil r0
  obtain rfl : args = #[v0] := Array.toList_inj.1 hargs0
  obtain ⟨s0, z0⟩ := strs_of (hval 0 22 v0 rfl rfl) h0
  clear hA0
  refine (walk W v0 s0 z0 (padIs_of_laid hL)).mono fun e W' ⟨he, hx⟩ => ?_
  subst he
  exact ⟨_, rfl, post_true (tb := 4) laidOut (by rw [Tryd.params3]; intro t ht; simp at ht; subst ht; exact ⟨by kernel_rfl, of_decide_eq_true (by kernel_rfl)⟩) (by kernel_rfl) hW' hx (by obtain ⟨g, t, cs, fuel, d, p', rfl, _⟩ := trodVars_one hV; rfl) rfl Tryd.underlying4⟩

theorem reads (os : Os) {H : Type} (enc : TypeId × Value → H) : ∃ gs places, DataW.whole enc Tryd.prog ((laidWorld os).forCall (fun _ _ => 0) ⟨#[], #[.slice none 0 0], []⟩).memory Tryd.f3.params.toList Rows.fnExactKeysOfAllSpec.vars false (#[.slice none 0 0] : Array Value).toList 8 = some ([.nil], gs, places) :=
  ⟨[Rows.laid_loop_example_g01350_impl_padKeys], MemPlace.row ⟨0, 0, none⟩ 16, by kernel_rfl⟩

set_option maxRecDepth 100000 in
theorem lifted (os : Os) (started : os.Started) (H : Type) (enc : TypeId × Value → H) (F : Stop.Interp) :
    ReturnsInHanded {} Tryd.checked os 3 .any ((OpenSpec.ofChange Rows.fnExactKeysOfAllSpec).preRow enc Tryd.prog Tryd.f3 Rows.fnExactKeysOfAllRow.domain false Rows.fnExactKeysOfAllRow.laid) (((OpenSpec.ofChange Rows.fnExactKeysOfAllSpec).at F).post enc Tryd.prog Tryd.f3 false true false false) := by
  obtain ⟨gs, places, hx⟩ := reads os enc
  refine returnsInHanded_of_row (C := Tryd.checked) (s := OpenSpec.ofChange Rows.fnExactKeysOfAllSpec) own started (by kernel_rfl) Tryd.func3
    (witness_row_at (enc := enc) (C := Tryd.checked) false (laidWorld os) #[.slice none 0 0] rfl (by kernel_rfl) (by kernel_rfl) (by kernel_rfl)
      (OpenSpec.preRow_of_cond 8 hx (by kernel_rfl) (fun k hk => by cases hk) (by kernel_rfl) (laid_met os _))) ?_
  intro W base args ds gs before hval hW _ _ _ hL _ _
  exact contract H enc W base args ds gs before hval hW hL

theorem said : Rows.FnExactKeysOfAllSaid :=
  OpenClaim.holds_of_cond 3 Tryd.f3 rfl rfl rfl rfl rfl rfl rfl ⟨rfl, rfl, rfl, rfl, rfl⟩ rfl rfl rfl rfl rfl (by kernel_rfl) Tryd.func3 (by kernel_rfl)
    (of_decide_eq_true (by kernel_rfl)) (by unfold Func.isWrapper; first | (rw [if_pos (by decide +kernel)]; kernel_rfl) | (rw [if_neg (by decide +kernel)]; exact ⟨rfl, rfl⟩))
    (fun os started H enc _ F => by rw [OpenClaim.pre_eq_preRow]; exact lifted os started H enc F)

theorem plain (f : FuncId) (fn : Func) (hf : Tryd.pinned.checked.prog.funcNamed "loop.example/g01350/laws.FnExactKeysOfAll" = some f) (hfn : Tryd.pinned.checked.prog.funcs[f]? = some fn) :
    false = Tryd.pinned.checked.prog.looks [] ∧ ∀ (j : Nat) t, fn.params[j]? = some t → Tryd.pinned.checked.prog.wantsStandIn t = false := by
  obtain rfl : f = 3 := Option.some.inj ((show Tryd.prog.funcNamed "loop.example/g01350/laws.FnExactKeysOfAll" = some 3 by kernel_rfl).symm.trans hf) |>.symm
  obtain rfl : fn = Tryd.f3 := (Option.some.inj (Tryd.func3.symm.trans hfn)).symm
  refine ⟨by kernel_rfl, fun j t ht => ?_⟩
  rw [Tryd.params3] at ht
  have hm := Array.mem_of_getElem? ht
  have hall : (#[22].toList.all fun u => !Tryd.prog.wantsStandIn u) = true := by kernel_rfl
  exact (show Tryd.prog.wantsStandIn t = false by simpa using List.all_eq_true.1 hall t (by simpa using hm))

/-- THE CARD -/
theorem card : Rows.FnExactKeysOfAllCardSaid :=
  Claim7.holds_tied_plain_at .later [] _ _ _ _ said (fun _ h => by cases h) (by kernel_rfl) (fun _ h => by cases h) fnExactKeysOfAll_row_tie rfl ⟨rfl, rfl⟩ (by kernel_rfl) rfl plain (by kernel_rfl)
end Go.Proofs.YtioinihlahnbfaaDoor.keysOfAll
