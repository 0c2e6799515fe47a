/- The model's marks of the places that splits reach, in its own list. No conditions but the dictionary's. -/
import Derived.Test.YtamjhhdggdfjiabDoorReach
import Derived.Lib.OthersKept
import Derived.Deep.QuietTactic
import Derived.BigQuiet
namespace Go.Proofs.YtamjhhdggdfjiabDoor
open Go.RowKit

def marksN (t : Nat → Bool) (N : Nat) : List Value := (List.range N).map fun j => .bool (t j)
theorem marksN_len (t : Nat → Bool) (N : Nat) : (marksN t N).length = N := by simp [marksN]
theorem marksN_at (t : Nat → Bool) (N j : Nat) (h : j < N) : (marksN t N)[j]? = some (.bool (t j)) := by
  unfold marksN
  rw [List.getElem?_map, List.getElem?_range h]
  rfl
theorem marksN_set (t : Nat → Bool) (N i : Nat) (x : Bool) : (marksN t N).set i (.bool x) = marksN (fun j => if j = i then x else t j) N := by
  apply List.ext_getElem?
  intro j
  by_cases hj : j < N
  · by_cases e : j = i
    · subst e
      rw [List.getElem?_set_self (by rw [marksN_len]; exact hj), marksN_at _ _ _ hj]
      simp
    · rw [List.getElem?_set_ne (fun h => e h.symm), marksN_at _ _ _ hj, marksN_at _ _ _ hj, if_neg e]
  · rw [List.getElem?_eq_none (by rw [List.length_set, marksN_len]; omega), List.getElem?_eq_none (by rw [marksN_len]; omega)]
theorem marksN_congr {t t' : Nat → Bool} {N : Nat} (h : ∀ j, j < N → t j = t' j) : marksN t N = marksN t' N := by
  unfold marksN
  apply List.map_congr_left
  intro j hj
  rw [h j (List.mem_range.1 hj)]
/-- A list of so many marks in a block of the call's own. -/
def RowM (B : Nat) (w : World) (g N : Nat) (t : Nat → Bool) : Prop := w.ownsRow B 4 1 (.slice (some ⟨g, 0, none⟩) N N) N (marksN t N)
theorem RowM.ext {B : Nat} {w w' : World} {g N : Nat} {t : Nat → Bool} (h : RowM B w g N t) (hx : Ext w w') : RowM B w' g N t := row_ext h hx
theorem RowM.at {B : Nat} {w : World} {g N : Nat} {t : Nat → Bool} (h : RowM B w g N t) (j : Nat) (hj : j < N) : w.cell? ⟨g, j, none⟩ = some (.bool (t j)) := (World.ownsRow.cellAt h j (by omega)).trans (marksN_at t N j hj)
theorem RowM.fr {B : Nat} {w : World} {g N : Nat} {t : Nat → Bool} (h : RowM B w g N t) (j : Nat) : w.frozen? ⟨g, j, none⟩ = false := World.ownsRow.frozenAt h j
theorem RowM.set {B : Nat} {w : World} {g N : Nat} {t : Nat → Bool} (h : RowM B w g N t) (i : Nat) (x : Bool) : RowM B (w.setCell ⟨g, i, none⟩ (.bool x)) g N (fun j => if j = i then x else t j) := by
  have := (World.ownsRow.stored h i (.bool x)).1
  rw [marksN_set] at this
  exact this
theorem RowM.congr {B : Nat} {w : World} {g N : Nat} {t t' : Nat → Bool} (h : RowM B w g N t) (he : ∀ j, j < N → t j = t' j) : RowM B w g N t' := by unfold RowM; rw [← marksN_congr he]; exact h
theorem RowM.lt {B : Nat} {w : World} {g N : Nat} {t : Nat → Bool} (h : RowM B w g N t) : B ≤ g ∧ g < w.heap.size := World.ownsRow.lt h g rfl
theorem RowM.iterAt {B : Nat} {w : World} {g N k : Nat} {t : Nat → Bool} {q : ByteArray} {p : Nat} (h : RowM B w g N t) (hk : w.heap[k]? = some (.stringIter q p)) (p' : Nat) : RowM B (w.iterAt k q p') g N t := by
  refine ⟨h.1, h.2.imp id fun ⟨a, c, cur, h1, h2, h3, h4⟩ => ⟨a, c, cur, h1, h2, ?_, h4⟩⟩
  have hne : a ≠ k := by
    intro e
    subst e
    rw [hk] at h3
    cases h3
  exact (Lib.iterAt_other w k a q p' hne).trans h3
theorem RowM.some {B : Nat} {w : World} {g N : Nat} {xs : List Value} (h : w.ownsRow B 4 1 (.slice (some ⟨g, 0, none⟩) N N) N xs) (hz : xs = (madeCells (Value.bool false).cells (N * 1)).toList) : RowM B w g N (fun _ => false) := by
  have e : xs = marksN (fun _ => false) N := by
    rw [hz, Nat.mul_one]
    apply List.ext_getElem?
    intro j
    by_cases hj : j < N
    · rw [marksN_at _ _ _ hj]
      simp [madeCells, Value.cells, hj, Nat.mod_one]
    · rw [List.getElem?_eq_none (by simp [madeCells]; omega), List.getElem?_eq_none (by rw [marksN_len]; omega)]
  unfold RowM
  rw [← e]
  exact h
/-- An iterator's block is kept. -/
theorem iter_ext {w w' : World} {k : Nat} {q : ByteArray} {p : Nat} (h : w.heap[k]? = some (.stringIter q p)) (hx : Ext w w') : w'.heap[k]? = some (.stringIter q p) := (hx.block k (Array.getElem?_eq_some_iff.1 h).1).trans h
theorem ext_iterAt {a w : World} (h : Ext a w) {k : Nat} (hk : a.heap.size ≤ k) (q : ByteArray) (p : Nat) : Ext a (w.iterAt k q p) := Lib.below_iterAt h hk q p
theorem mark_same {q : ByteArray} {i : Nat} {t : Nat → Bool} {ss : List ByteArray} {m : Nat} (h : m < ss.length) (hn : ¬ (markW q i t (ss.take m) i = true ∧ fits q i ss[m])) (j : Nat) : markW q i t (ss.take m) j = markW q i t (ss.take (m + 1)) j := by
  rw [takeS ss m h, markW_snoc]
  unfold mark1
  rw [if_neg (fun hc => hn hc.2)]
theorem mark_more {q : ByteArray} {i : Nat} {t : Nat → Bool} {ss : List ByteArray} {m : Nat} (h : m < ss.length) (h1 : markW q i t (ss.take m) i = true) (h2 : fits q i ss[m]) (j : Nat) : (if j = i + ss[m].size then true else markW q i t (ss.take m) j) = markW q i t (ss.take (m + 1)) j := by
  rw [takeS ss m h, markW_snoc]
  unfold mark1
  by_cases e : j = i + ss[m].size
  · rw [if_pos e, if_pos ⟨e, h1, h2⟩]
  · rw [if_neg e, if_neg (fun hc => e hc.1)]
theorem last_next (t : Nat → Bool) (k : Nat) : (if t k then k else lastT t (k - 1)) = lastT t k := by
  cases k with
  | zero => show (if t 0 then 0 else 0) = 0; split <;> rfl
  | succ k => rfl
theorem last_next1 {t : Nat → Bool} {k : Nat} (h : t k = true) : lastT t (k + 1 - 1) = k := by rw [Nat.add_sub_cancel, ← last_next, if_pos h]
theorem last_next0 {t : Nat → Bool} {k : Nat} (h : t k = false) : lastT t (k + 1 - 1) = lastT t (k - 1) := by rw [Nat.add_sub_cancel, ← last_next, h]; rfl
theorem ret_lb {a a' : Nat} (h : a = a') : Ending.returned (.tuple #[.int .i64 (a : Int), .bool true]) = .returned (.tuple #[.int .i64 (a' : Int), .bool true]) := by rw [h]
theorem set_other {w : World} {g K E : Nat} {v : Value} (h : ¬ g = K) {o : Obj} (hk : w.heap[K]? = some o) : (w.setCell ⟨g, E, none⟩ v).heap[K]? = some o := (Below.heap_setCell w ⟨g, E, none⟩ v K (fun e => h e.symm)).trans hk
theorem info_boolM : (Tryd.prog.info? 4).map (fun i => (i.zero, i.size, i.bytes)) = some (some (.bool false), 1, 1) := by kernel_rfl

set_option maxRecDepth 100000 in
set_option maxHeartbeats 4000000 in
theorem specLong_any (v : Value) (ss : List ByteArray) (q : ByteArray) (w : World) (h : Strs w v ss) (hd : dicB ss = true) (hq : q.size ≤ 20) (hk : spK q = true) (hqs : q.size ≤ maxLen) (hasc : ∀ i (h : i < q.size), (q[i]'h).toNat < 128) : Calls Tryd.prog 27 #[v, .string q] w fun e w' => e = .returned (.tuple #[.int .i64 (longV ss q : Int), .bool true]) ∧ Ext w w' := by
  have HS := Lib.hid h
  obtain ⟨hl1, hl2⟩ := dicB_len hd
  have HD := Lib.hid hd
  have hand : (dicB ss && spK q) = true := by rw [hd, hk]; rfl
  have HA := Lib.hid hasc
  obtain ⟨a, cap, hv, hnil⟩ := h.at
  rw [hv] at HS ⊢
  clear hv hnil h v hd hk hasc
  obtain ⟨i0, hi, hz0, hzs, hzb⟩ := info_parts info_boolM
  have HI := Lib.hid (show Tryd.prog.info? 4 = some i0 ∧ i0.zero = some (.bool false) ∧ i0.size = 1 ∧ i0.bytes = 1 from ⟨hi, hz0, hzs, hzb⟩)
  clear hi hz0 hzs hzb
  obtain ⟨N, hN⟩ : ∃ N, N = q.size + 1 := ⟨_, rfl⟩
  have HN := Lib.hid hN
  have hNI : (q.size : Int) + 1 = (N : Int) := by omega
  have hN21 : N ≤ 21 := by omega
  have hN0 : 0 < N := by omega
  have hN0i : (0 : Int) < (N : Int) := by omega
  clear hN
  go_enter Tryd.func27, Tryd.ntmps27
  go_wp2_with (first | (go_at_call 38; refine (wdAsked_any _ _ _ _ HS.out hqs).mono ?_; rintro e w1 ⟨rfl, x1⟩; rw [hand]) | (at_make; refine wpList_make_full _ rfl _ _ 55 rfl w1.heap.size 4 i0 (.bool false) 1 Tryd.underlying55 HI.out.1 HI.out.2.1 HI.out.2.2.1 .i64 .i64 _ _ N rfl rfl rfl rfl (by rw [HI.out.2.2.2]; omega) (by unfold maxLen; omega) (Nat.le_refl _) ?_; intro w2 hown2 hgr2; have X12 : Ext w1 w2 := ext_grown (Ext.refl w1) hgr2 (by intro k hk; cases hk); have hR2 := RowM.some hown2 rfl; have c0 := hR2.at 0 hN0; have f0 := hR2.fr 0; have R2 := Lib.hid hR2; clear hR2 hown2 hgr2))
  have X2 : Ext w w2 := x1.trans X12
  obtain ⟨g, hg⟩ : ∃ g, g = w1.heap.size := ⟨_, rfl⟩
  obtain ⟨K, hK⟩ : ∃ K, K = w2.heap.size := ⟨_, rfl⟩
  have hgK : ¬ g = K := by have := R2.out.lt; omega
  have hgw : w.heap.size ≤ g := by rw [hg]; exact x1.size
  have hKw : w.heap.size ≤ K := by rw [hK]; exact X2.size
  have hit0 : ((w2.setCell ⟨g, 0, none⟩ (.bool true)).iter q 0).heap[K]? = some (.stringIter q 0) := by
    rw [hK]
    have := World.iter_heap (w2.setCell ⟨g, 0, none⟩ (.bool true)) q 0
    rwa [World.size_setCell] at this
  have R3 := Lib.hid (show RowM g w2 g N (fun _ => false) by rw [hg]; exact R2.out)
  rw [← hg, ← hK]
  clear c0 f0 hg hK
  go_loopw [8] (fun _ wr => ∃ p : Nat, p ≤ q.size ∧ wr.heap[K]? = some (.stringIter q p) ∧ RowM g wr g N (markAll ss q p) ∧ Ext w wr) (fun _ wr => q.size - wr.iterPos K)
  case atStart =>
    refine ⟨0, Nat.zero_le _, hit0, ?_, ((X2.setCell hgw _).alloc _)⟩
    refine ((R3.out.set 0 true).ext ((Ext.refl _).alloc _)).congr fun j _ => ?_
    show (if j = 0 then true else false) = decide (j = 0)
    by_cases e : j = 0 <;> simp [e]
  case round =>
    obtain ⟨p, hp, hit, hT, hx⟩ := hrel
    have HT := Lib.hid hT
    clear hT
    by_cases hlt : p < q.size
    · have hnx := fun ty => Lib.run_next_ascii_at (P := Tryd.prog) wr K q p ty hit hlt (HA.out p hlt)
      have hit2 := Lib.iterAt_heap wr K q p (p + 1) hit
      have HT1 := Lib.hid (HT.out.iterAt hit (p + 1))
      have hx1 := ext_iterAt hx hKw q (p + 1)
      go_wp2
      go_loopw [31] (fun c wx => ∃ m : Nat, m ≤ ss.length ∧ c = .int .i64 m ∧ wx.heap[K]? = some (.stringIter q (p + 1)) ∧ RowM g wx g N (markW q p (markAll ss q p) (ss.take m)) ∧ Ext w wx) (fun c _ => ss.length - (intOf c).toNat)
      case atStart => exact ⟨0, Nat.zero_le _, rfl, hit2, HT1.out, hx1⟩
      case round =>
        obtain ⟨m, hm, rfl, hit3, hT2, hx2⟩ := hrel
        have HT2 := Lib.hid hT2
        clear hT2
        by_cases hlm : m < ss.length
        · rcases (HS.out.ext hx2).2.2 with ⟨h3, _⟩ | ⟨b, off, cap', h4, hb, hc⟩
          · rw [h3] at hlm; exact absurd hlm (by simp)
          have ha : a = some ⟨b, off, none⟩ := by injection h4
          have e1 := hc m hlm
          have HW := Lib.hid (wdW_isW (dicB_at HD.out m hlm))
          have hz10 := wdW_size (dicB_at HD.out m hlm)
          obtain ⟨T, hTm⟩ : ∃ T, T = markW q p (markAll ss q p) (ss.take m) := ⟨_, rfl⟩
          have HTm := Lib.hid hTm
          rw [← hTm] at HT2
          obtain ⟨kk, hkk⟩ : ∃ p, p = keysB ss[m] := ⟨_, rfl⟩
          have HQ := Lib.hid hkk
          rw [ha]
          clear hc h4 ha hb hTm hkk
          have hpN : p < N := by omega
          have hpi : (p : Int) < (N : Int) := by omega
          have c1 := HT2.out.at p hpN
          have HSM := Lib.hid (fun (hn : ¬ (T p = true ∧ fits q p ss[m])) => show RowM g wr g N (markW q p (markAll ss q p) (ss.take (m + 1))) from HT2.out.congr (fun j _ => by rw [← mark_same (q := q) (i := p) (t := markAll ss q p) hlm (by rw [← HTm.out]; exact hn) j, HTm.out]))
          cases hTp : T p
          · rw [hTp] at c1
            have HTS := Lib.hid (HSM.out (fun hc => by rw [hTp] at hc; cases hc.1))
            clear hTp
            go_wp2
            go_quiet (fail)
            go_wp2
            exact ⟨⟨m + 1, by omega, by go_num, iter_ext hit3 (ext_drewN (Ext.refl _) _), HTS.out.ext (ext_drewN (Ext.refl _) _), ext_drewN hx2 _⟩, by simp [intOf]; omega⟩
          · rw [hTp] at c1
            obtain ⟨E, hE⟩ : ∃ E, E = p + ss[m].size := ⟨_, rfl⟩
            have HEE := Lib.hid hE
            have hEi : (p : Int) + (ss[m].size : Int) = (E : Int) := by omega
            by_cases hE1 : q.size < E
            · have HTS := Lib.hid (HSM.out (fun hc => by have := hc.2.1; omega))
              have hE1i : ¬ E ≤ q.size := by omega
              have hE1d : decide (E ≤ q.size) = false := decide_eq_false hE1i
              clear hTp hE
              go_wp2
              go_quiet (fail)
              go_wp2
              exact ⟨⟨m + 1, by omega, by go_num, iter_ext hit3 (ext_drewN (Ext.refl _) _), HTS.out.ext (ext_drewN (Ext.refl _) _), ext_drewN hx2 _⟩, by simp [intOf]; omega⟩
            have hEle : E ≤ q.size := by omega
            have hEq : (E : Int) ≤ (q.size : Int) := by omega
            have hEN : E < N := by omega
            have hENi : (E : Int) < (N : Int) := by omega
            have hpE : p ≤ E := by omega
            have hpEi : (p : Int) ≤ (E : Int) := by omega
            clear hE hE1
            by_cases hE2 : kk = q.extract p E
            · have t1 : (kk.toList == (q.extract p E).toList) = true := by rw [beqS, decide_eq_true hE2]
              have HTS := Lib.hid (show RowM g (wr.setCell ⟨g, E, none⟩ (.bool true)) g N (markW q p (markAll ss q p) (ss.take (m + 1))) from (HT2.out.set E true).congr (fun j _ => by
                rw [← mark_more (q := q) (i := p) (t := markAll ss q p) hlm (by rw [← HTm.out]; exact hTp) ⟨by rw [← HEE.out]; exact hEle, by rw [← HQ.out, ← HEE.out]; exact hE2⟩ j, ← HEE.out, HTm.out]))
              have f1 := HT2.out.fr E
              have c2 := HT2.out.at E hEN
              clear hE2 hTp
              go_wp2
              go_quiet (first | (exact Calls.quiet_of_same ((prKeys_any _ _ HW.out).mono fun e w' h => ⟨(h.1.trans (by rw [← HQ.out]) : e = Ending.returned (.string kk)), h.2.symm⟩)))
              go_wp2
              exact ⟨⟨m + 1, by omega, by go_num, set_other hgK (iter_ext hit3 (ext_drewN (Ext.refl _) _)), HTS.out.ext (ext_drewN (Ext.refl _) _), (ext_drewN hx2 _).setCell hgw _⟩, by simp [intOf]; omega⟩
            · have t1 : (kk.toList == (q.extract p E).toList) = false := by rw [beqS, decide_eq_false hE2]
              have HTS := Lib.hid (HSM.out (fun hc => hE2 (by rw [HQ.out, HEE.out]; exact hc.2.2)))
              clear hE2 hTp
              go_wp2
              go_quiet (first | (exact Calls.quiet_of_same ((prKeys_any _ _ HW.out).mono fun e w' h => ⟨(h.1.trans (by rw [← HQ.out]) : e = Ending.returned (.string kk)), h.2.symm⟩)))
              go_wp2
              exact ⟨⟨m + 1, by omega, by go_num, iter_ext hit3 (ext_drewN (Ext.refl _) _), HTS.out.ext (ext_drewN (Ext.refl _) _), ext_drewN hx2 _⟩, by simp [intOf]; omega⟩
        · have HM := Lib.hid (show RowM g wr g N (markAll ss q (p + 1)) from HT2.out.congr (fun j _ => by rw [show ss.take m = ss from List.take_of_length_le (by omega)]; rfl))
          go_wp2
          refine ⟨⟨p + 1, by omega, hit3, HM.out, hx2⟩, ?_⟩
          simp only [World.iterPos, hit3, hit]
          omega
    · have hnx := fun ty => Lib.run_next_end_at (P := Tryd.prog) wr K q p ty hit hlt
      obtain rfl : p = q.size := by omega
      go_wp2
      go_loopw [64, 7] (fun c l wx => ∃ k : Nat, k ≤ N ∧ c = .int .i64 k ∧ l = .int .i64 (lastT (markAll ss q q.size) (k - 1) : Nat) ∧ Ext wr wx) (fun c _ _ => N - (intOf c).toNat)
      case atStart => exact ⟨0, Nat.zero_le _, rfl, rfl, Ext.refl _⟩
      case round =>
        obtain ⟨k, hk, rfl, rfl, hx3⟩ := hrel
        by_cases hlk : k < N
        · have c1 := (HT.out.ext hx3).at k hlk
          have hki : (k : Int) < (N : Int) := by omega
          cases hTk : markAll ss q q.size k
          · rw [hTk] at c1
            have HL := Lib.hid (last_next0 hTk)
            clear hTk
            go_wp2
            exact ⟨⟨k + 1, by omega, by go_num, by rw [HL.out], hx3⟩, by simp [intOf]; omega⟩
          · rw [hTk] at c1
            have HL := Lib.hid (last_next1 hTk)
            clear hTk
            go_wp2
            exact ⟨⟨k + 1, by omega, by go_num, by rw [HL.out], hx3⟩, by simp [intOf]; omega⟩
        · obtain rfl : k = N := by omega
          have HL := Lib.hid (show k - 1 = q.size by have := HN.out; omega)
          go_wp2
          go_ret2
          exact ⟨ret_lb (by unfold longV; rw [HL.out]), hx.trans hx3⟩

end Go.Proofs.YtamjhhdggdfjiabDoor
