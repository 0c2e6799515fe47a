/- The digits of which solutions are sure: the program. No conditions. -/
import Derived.Test.YtpdnpphjlnlneaaGreatDoorSur
import Derived.Test.YtpdnpphjlnlneaaGreatDoorSlP
import Derived.Lib.ConvBytes
import Derived.Lib.BufferMore
namespace Go.Proofs.YtpdnpphjlnlneaaGreatDoor
open Go.RowKit

/-- A row of a text's bytes: its mark lies behind it. -/
def RowZ (w : World) (g n : Nat) (l : List UInt8) : Prop := l.length = n ∧ ∃ (cur : Array Value) (m : Nat), w.heap[g]? = some (.cells cur 5 (m, m + 1)) ∧ n ≤ m ∧ ∀ j, j < n → cur[j]? = some (.int .u8 ((l.getD j 0).toNat : Int))
theorem RowZ.conv (w : World) (s : ByteArray) : RowZ (Lib.bytesWorld w 5 s) w.heap.size s.size s.data.toList := by
  refine ⟨by simp, _, _, Lib.bytesWorld_at_new w _ s, by simp [Lib.bytesCells], fun j hj => ?_⟩
  have := Lib.bytesWorld_cell w 5 s j hj
  simpa [World.cell?, Lib.bytesWorld_at_new] using this
theorem RowZ.at {w : World} {g n : Nat} {l : List UInt8} (h : RowZ w g n l) (j : Nat) (hj : j < n) : w.cell? ⟨g, j, none⟩ = some (.int .u8 ((l.getD j 0).toNat : Int)) ∧ w.frozen? ⟨g, j, none⟩ = false := by
  obtain ⟨_, cur, m, hc, hm, ha⟩ := h
  refine ⟨?_, ?_⟩
  · simp [World.cell?, hc, ha j hj]
  · simp [World.frozen?, hc]; omega
theorem RowZ.ext {w w' : World} {g n : Nat} {l : List UInt8} (h : RowZ w g n l) (hx : Ext w w') : RowZ w' g n l := by
  obtain ⟨hl, cur, m, hc, hm, ha⟩ := h
  exact ⟨hl, cur, m, by exact (hx.block _ (heap_lt hc)).trans hc, hm, ha⟩
theorem RowZ.put {w : World} {g n : Nat} {l : List UInt8} (h : RowZ w g n l) (j : Nat) (c : UInt8) : RowZ (w.setCell ⟨g, j, none⟩ (.int .u8 (c.toNat : Int))) g n (l.set j c) := by
  obtain ⟨hl, cur, m, hc, hm, ha⟩ := h
  refine ⟨by simpa using hl, _, m, Lib.heap_setCell_same hc _, hm, fun i hi => ?_⟩
  have := ha i hi
  by_cases e : i = j
  · subst e
    have hlt : i < cur.size := by
      rcases Nat.lt_or_ge i cur.size with h | h
      · exact h
      · rw [Array.getElem?_eq_none h] at this; cases this
    simp [hlt, List.getD, hl, hi]
  · rw [Array.getElem?_setIfInBounds]
    simp [Ne.symm e, List.getD, this]
theorem RowZ.text {w : World} {g cap : Nat} {l : List UInt8} (h : RowZ w g l.length l) : (convert 77 9 (.slice (some ⟨g, 0, none⟩) l.length cap)).run Tryz.prog w = .ok (.string ⟨l.toArray⟩) w := by
  refine run_convert_bytes_back (P := Tryz.prog) w 77 9 5 ⟨g, 0, none⟩ cap l Tryz.underlying77 Tryz.underlying5 Tryz.underlying9 (fun j hj => ?_)
  rw [show (Addr.add ⟨g, 0, none⟩ j) = ⟨g, j, none⟩ from by cases j <;> simp [Addr.add], (h.at j hj).1]
  simp [hj]

theorem sgK_step (ss : List ByteArray) (k i : Nat) (h : k < ss.length) : sgK ss (k + 1) i = if at0 ss[k] i = sgK ss k i then sgK ss k i else 63 := by
  unfold sgK
  rw [sgA_succ ss i k h]
  cases sgA ss i k
  · simp
  · simp
def mxZ (ss : List ByteArray) (D k i : Nat) : List UInt8 := (List.range D).map fun p => if p < i then sgK ss (k + 1) p else sgK ss k p
theorem mx_len (ss : List ByteArray) (D k i : Nat) : (mxZ ss D k i).length = D := by unfold mxZ; simp
theorem mx_at (ss : List ByteArray) (D k i p : Nat) (h : p < D) : (mxZ ss D k i).getD p 0 = if p < i then sgK ss (k + 1) p else sgK ss k p := by
  unfold mxZ
  simp [List.getD, h]
theorem mx_0 (s0 : ByteArray) (l : List ByteArray) {D : Nat} (h : s0.size = D) : mxZ (s0 :: l) D 0 0 = s0.data.toList := by
  subst h
  apply List.ext_getElem (by rw [mx_len]; simp)
  intro p h1 h2
  simp at h2
  simp [mxZ, sgK, sgA, at0, h2]
theorem mx_next (ss : List ByteArray) (D k : Nat) : mxZ ss D k D = mxZ ss D (k + 1) 0 := by
  unfold mxZ
  apply List.map_congr_left
  intro p hp
  rw [List.mem_range] at hp
  rw [if_pos hp, if_neg (Nat.not_lt_zero p)]
theorem mx_end (ss : List ByteArray) (D : Nat) : (⟨(mxZ ss D ss.length 0).toArray⟩ : ByteArray) = surT ss D := by
  unfold mxZ surT
  rfl
theorem mx_keep (ss : List ByteArray) (D k i : Nat) (h : sgK ss (k + 1) i = sgK ss k i) : mxZ ss D k (i + 1) = mxZ ss D k i := by
  unfold mxZ
  apply List.map_congr_left
  intro p hp
  by_cases e : p = i
  · subst e
    rw [if_pos (Nat.lt_succ_self p), if_neg (Nat.lt_irrefl p), h]
  · by_cases e2 : p < i
    · rw [if_pos (by omega), if_pos e2]
    · rw [if_neg (by omega), if_neg e2]
theorem mx_set (ss : List ByteArray) (D k i : Nat) (h : sgK ss (k + 1) i = 63) : mxZ ss D k (i + 1) = (mxZ ss D k i).set i 63 := by
  apply List.ext_getElem (by rw [mx_len, List.length_set, mx_len])
  intro p h1 h2
  rw [mx_len] at h1
  rw [List.getElem_set]
  by_cases e : i = p
  · subst e
    simp [mxZ, h]
  · rw [if_neg e]
    simp only [mxZ, List.getElem_map, List.getElem_range]
    by_cases e2 : p < i
    · rw [if_pos (by omega), if_pos e2]
    · rw [if_neg (by omega), if_neg e2]

set_option maxRecDepth 100000 in
set_option maxHeartbeats 4000000 in
theorem suP_any (d : Int) (v : Value) (gs : List Cl) (w : World) (h : Cls w v gs) : Calls Tryz.prog 42 #[.agg #[.int .i64 d, v]] w fun e w' => e = .returned (.tuple #[.string (surV d gs), .bool (surOk d gs)]) ∧ Ext w w' := by
  have X0 := Lib.hid (show Ext w (w.alloc (.cells #[.int .i64 d, v] 37)) from (Ext.refl w).alloc _)
  have H := Lib.hid h
  have HQ := Lib.hid (fun w h => soP_any d v gs w h)
  have HLN := Lib.hid (solV_len d gs)
  rcases hs : solV d gs with _ | ⟨s0, l⟩
  · obtain ⟨e1, e2⟩ := sur_nil hs
    have E1 := Lib.hid e1
    have E2 := Lib.hid e2
    rw [hs] at HQ
    clear hs h e1 e2
    go_enter Tryz.func42, Tryz.ntmps42
    go_wp2_with fail
    refine (HQ.out _ (H.out.ext X0.out)).mono ?_
    rintro e w2 ⟨u, rfl, hr, x2⟩
    obtain ⟨ua, uc, rfl⟩ := hr.shape
    go_wp2
    go_ret2
    exact ⟨by rw [E1.out, E2.out]; rfl, X0.out.trans x2⟩
  obtain ⟨e1, e2⟩ := sur_cons hs
  have E1 := Lib.hid e1
  have E2 := Lib.hid e2
  have hp : isPz d gs = true := by
    cases hp : isPz d gs
    · rw [solV_no hp] at hs; cases hs
    · rfl
  have HMM := Lib.hid (fun (s : ByteArray) (hs : s ∈ solV d gs) => (show s.size = d.toNat from by
    rw [solV_yes hp] at hs
    exact solK_mem _ _ _ s hs))
  have hd1 := (isPz_bd hp).d1
  have hd2 := (isPz_bd hp).d2
  rw [hs] at HQ HMM HLN
  obtain ⟨D, rfl⟩ := Int.eq_ofNat_of_zero_le (show 0 ≤ d by omega)
  clear hs hp h e1 e2
  have hD3 : D ≤ 3 := by omega
  have hD2 : 2 ≤ D := by omega
  have hz0 : s0.size = D := by
    have := HMM.out s0 (by simp)
    simpa using this
  have HM0 := Lib.hid (mx_0 s0 l hz0)
  obtain ⟨ss, hss⟩ : ∃ ss, ss = s0 :: l := ⟨_, rfl⟩
  have HSS := Lib.hid hss
  rw [← hss] at HQ HMM HLN E1 HM0
  have HL1 := Lib.hid (show 0 < ss.length by rw [hss]; simp)
  go_enter Tryz.func42, Tryz.ntmps42
  go_wp2_with fail
  refine (HQ.out _ (H.out.ext X0.out)).mono ?_
  rintro e w2 ⟨u, rfl, hr, x2⟩
  obtain ⟨ua, uc, rfl⟩ := hr.shape
  obtain ⟨g, rfl, hB0, hg0, hc0, _⟩ := RowS.at hr 0 HL1.out
  have HR := Lib.hid hr
  have X2 := Lib.hid (X0.out.trans x2)
  have HGW := Lib.hid hg0
  have HC0 := Lib.hid (show w2.cell? ⟨g, 0, none⟩ = some (.string s0) by rw [hc0]; subst hss; rfl)
  have hc1 := HC0.out
  have hlz : ((ss.length : Int) == 0) = false := beq_eq_false_iff_ne.2 (by have := HL1.out; omega)
  have hlp : (0 : Int) < (ss.length : Int) := by have := HL1.out; omega
  have hcv : ∀ w, (convert 9 77 (.string s0)).run Tryz.prog w = .ok (.slice (some ⟨w.heap.size, 0, none⟩) s0.size (grownCap w s0.size 0 5)) (Lib.bytesWorld w 5 s0) := fun w => Lib.run_convert_string_bytes w 9 77 5 s0 Tryz.underlying9 Tryz.underlying77 Tryz.underlying5
  clear hr x2 hss hc0 hB0 hg0
  go_wp2
  go_loopw [24] (fun i wr => ∃ k : Nat, k ≤ ss.length ∧ i = .int .i64 k ∧ RowZ wr w2.heap.size s0.size (mxZ ss D k 0) ∧ Ext w2 wr) (fun i _ => ss.length - (intOf i).toNat)
  case atStart => exact ⟨0, Nat.zero_le _, rfl, by rw [HM0.out]; exact RowZ.conv w2 s0, Lib.bytesWorld_below _ _ _⟩
  case round =>
    obtain ⟨k, hk, rfl, hrz, hx⟩ := hrel
    have HRZ := Lib.hid hrz
    have HX := Lib.hid hx
    clear hrz hx
    by_cases hlt : k < ss.length
    · obtain ⟨g', e9, hB1, hg1, hc2, _⟩ := RowS.at HR.out k hlt
      injection e9 with e9
      injection e9 with e9
      subst e9
      have hc3 : wr.cell? ⟨g, k, none⟩ = some (.string ss[k]) := by
        rw [HX.out.cell (p := ⟨g, k, none⟩) hg1]
        exact hc2
      have hzk : ss[k].size = D := by
        have := HMM.out ss[k] (List.getElem_mem hlt)
        simpa using this
      have HST := Lib.hid (fun i => sgK_step ss k i hlt)
      have hkb : k < 1000 := by have := HLN.out; omega
      obtain ⟨t, ht⟩ : ∃ t, t = ss[k] := ⟨_, rfl⟩
      rw [← ht] at hc3 hzk HST
      clear ht hc2 hB1 hg1
      go_wp2
      go_loopw [30] (fun i wr2 => ∃ m : Nat, m ≤ D ∧ i = .int .i64 m ∧ RowZ wr2 w2.heap.size s0.size (mxZ ss D k m) ∧ Ext w2 wr2) (fun i _ => D - (intOf i).toNat)
      case atStart => exact ⟨0, Nat.zero_le _, rfl, HRZ.out, HX.out⟩
      case round =>
        obtain ⟨m, hm, rfl, hrz2, hx2⟩ := hrel
        have HRZ2 := Lib.hid hrz2
        have HX2 := Lib.hid hx2
        clear hrz2 hx2
        by_cases hml : m < D
        · obtain ⟨c1, c2⟩ := HRZ2.out.at m (by omega)
          rw [mx_at ss D k m m hml, if_neg (Nat.lt_irrefl m)] at c1
          have ix : ∀ w, (Instr.index 9 (.string t) (.int .i64 (m : Int))).run Tryz.prog w = .ok (.int .u8 ((at0 t m).toNat : Int)) w := fun w => by
            exact ixB t m (by omega) w
          have HSM := Lib.hid (HST.out m)
          obtain ⟨x, hx⟩ : ∃ x, x = at0 t m := ⟨_, rfl⟩
          obtain ⟨y, hy⟩ : ∃ y, y = sgK ss k m := ⟨_, rfl⟩
          rw [← hx] at ix HSM
          have HY := Lib.hid hy
          rw [← hy] at c1 HSM
          clear hx hy
          by_cases he : x = y
          · subst he
            rw [if_pos rfl] at HSM
            have HKP := Lib.hid (mx_keep ss D k m (by rw [HSM.out, HY.out]))
            go_wp2
            go_quiet (fail)
            go_wp2
            exact ⟨⟨m + 1, by omega, by go_num, by rw [HKP.out]; exact HRZ2.out.ext (ext_drewN (Ext.refl _) _), ext_drewN HX2.out _⟩, by simp [intOf]; omega⟩
          · have hne : (((x.toNat : Nat) : Int) == ((y.toNat : Nat) : Int)) = false := beq_eq_false_iff_ne.2 (fun h => he (UInt8.toNat_inj.1 (by omega)))
            rw [if_neg he] at HSM
            have HSE := Lib.hid (mx_set ss D k m HSM.out)
            have hug : w2.heap.size ≤ w2.heap.size := Nat.le_refl _
            have HPU := Lib.hid (fun (wz : World) (hz : Ext wr wz) => (show RowZ (wz.setCell ⟨w2.heap.size, m, none⟩ (.int .u8 63)) w2.heap.size s0.size (mxZ ss D k (m + 1)) ∧ Ext w2 (wz.setCell ⟨w2.heap.size, m, none⟩ (.int .u8 63)) from ⟨by rw [HSE.out]; exact (HRZ2.out.ext hz).put m 63, (HX2.out.trans hz).setCell (p := ⟨w2.heap.size, m, none⟩) hug _⟩))
            go_wp2
            go_quiet (fail)
            go_wp2
            exact ⟨⟨m + 1, by omega, by go_num, (HPU.out _ (ext_drewN (Ext.refl _) _)).1, (HPU.out _ (ext_drewN (Ext.refl _) _)).2⟩, by simp [intOf]; omega⟩
        · have hme : m = D := by omega
          subst hme
          go_wp2
          exact ⟨⟨k + 1, by omega, by go_num, by rw [← mx_next]; exact HRZ2.out, HX2.out⟩, by simp [intOf]; omega⟩
    · have hke : k = ss.length := by omega
      subst hke
      have hcb : (convert 77 9 (.slice (some ⟨w2.heap.size, 0, none⟩) D (grownCap w2 D 0 5))).run Tryz.prog wr = .ok (.string (surT ss D)) wr := by
        have h1 := HRZ.out
        have h2 := mx_len ss D ss.length 0
        rw [show s0.size = (mxZ ss D ss.length 0).length by rw [h2, hz0]] at h1
        have h3 := h1.text (cap := grownCap w2 D 0 5)
        rw [h2, mx_end] at h3
        exact h3
      go_wp2
      go_ret2
      exact ⟨by rw [E1.out, E2.out]; rfl, X2.out.trans HX.out⟩
end Go.Proofs.YtpdnpphjlnlneaaGreatDoor
