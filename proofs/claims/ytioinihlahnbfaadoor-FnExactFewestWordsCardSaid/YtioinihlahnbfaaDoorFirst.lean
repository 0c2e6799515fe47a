/- The first split: at each place the first word by which one may go on; the model's. No conditions but the dictionary's. -/
import Derived.Test.YtioinihlahnbfaaDoorReach
import Derived.Deep.QuietTactic
import Derived.BigQuiet
namespace Go.Proofs.YtioinihlahnbfaaDoor
open Go.RowKit

/-- From a place on, the first word each time by which one may go on. -/
def path (ss : List ByteArray) (P : Nat → ByteArray → Bool) (n : Nat) : Nat → Nat → List ByteArray
  | 0, _ => []
  | f + 1, i => if i < n then (match ss.find? (P i) with | some s => s :: path ss P n f (i + s.size) | none => []) else []
theorem path_end (ss : List ByteArray) (P : Nat → ByteArray → Bool) (n f i : Nat) (h : n ≤ i) : path ss P n f i = [] := by
  cases f with
  | zero => rfl
  | succ f => rw [path, if_neg (by omega)]
theorem path_step {ss : List ByteArray} {P : Nat → ByteArray → Bool} {n f i : Nat} {s : ByteArray} (h : i < n) (hs : ss.find? (P i) = some s) : path ss P n (f + 1) i = s :: path ss P n f (i + s.size) := by
  rw [path, if_pos h, hs]
theorem find_no {ss : List ByteArray} {P : ByteArray → Bool} {m : Nat} (h : m < ss.length) (h0 : (ss.take m).find? P = none) (h1 : P ss[m] = false) : (ss.take (m + 1)).find? P = none := by
  rw [takeS ss m h, List.find?_append, h0]
  simp [h1]
theorem find_yes {ss : List ByteArray} {P : ByteArray → Bool} {m : Nat} (h : m < ss.length) (h0 : (ss.take m).find? P = none) (h1 : P ss[m] = true) : ss.find? P = some ss[m] := by
  have e : ss = ss.take m ++ ss[m] :: ss.drop (m + 1) := by rw [List.getElem_cons_drop, List.take_append_drop]
  have e2 : ss.find? P = (ss.take m ++ ss[m] :: ss.drop (m + 1)).find? P := by rw [← e]
  rw [e2, List.find?_append, h0, Option.none_or, List.find?_cons_of_pos h1]
theorem path_len (ss : List ByteArray) (P : Nat → ByteArray → Bool) (n : Nat) : ∀ f i, (path ss P n f i).length ≤ f
  | 0, _ => by simp [path]
  | f + 1, i => by
    rw [path]
    split
    · split
      · rw [List.length_cons]; have := path_len ss P n f; rename_i s _; have := this (i + s.size); omega
      · simp
    · simp
theorem path_mem (ss : List ByteArray) (P : Nat → ByteArray → Bool) (n : Nat) : ∀ f i, ∀ t ∈ path ss P n f i, t ∈ ss
  | 0, _, t, h => by simp [path] at h
  | f + 1, i, t, h => by
    rw [path] at h
    split at h
    · split at h
      · rename_i s hs
        rcases List.mem_cons.1 h with rfl | h
        · exact List.mem_of_find?_eq_some hs
        · exact path_mem ss P n f _ t h
      · cases h
    · cases h
/-- By a word one may go on: it fits, and the keys behind it have a split. -/
def goOn (ss : List ByteArray) (q : ByteArray) (i : Nat) (s : ByteArray) : Bool := decide (fits q i s ∧ ¬ tq ss q (i + s.size) = 0)
theorem goOn_no1 {ss : List ByteArray} {q : ByteArray} {i : Nat} {s : ByteArray} (h : ¬ fits q i s) : goOn ss q i s = false := decide_eq_false fun hc => h hc.1
theorem goOn_no2 {ss : List ByteArray} {q : ByteArray} {i : Nat} {s : ByteArray} (h : tq ss q (i + s.size) = 0) : goOn ss q i s = false := decide_eq_false fun hc => hc.2 h
theorem goOn_yes {ss : List ByteArray} {q : ByteArray} {i : Nat} {s : ByteArray} (h : fits q i s) (h2 : ¬ tq ss q (i + s.size) = 0) : goOn ss q i s = true := decide_eq_true ⟨h, h2⟩
theorem goOn_some {ss : List ByteArray} (h : dicB ss = true) (q : ByteArray) (hq : q.size ≤ 20) (i : Nat) (hi : i < q.size) (hn : ¬ tq ss q i = 0) : ¬ ss.find? (goOn ss q i) = none := by
  intro h0
  have hp : 0 < tq ss q i := by have := tq_nn h q hq i (by omega); omega
  obtain ⟨s, hs, hf, h2⟩ := (tq_pos h q hq i hi).1 hp
  have := List.find?_eq_none.1 h0 s hs
  exact this (goOn_yes hf (by omega))
/-- The first split. -/
def firstV (ss : List ByteArray) (q : ByteArray) : List ByteArray := path ss (goOn ss q) q.size q.size 0

set_option maxRecDepth 100000 in
set_option maxHeartbeats 8000000 in
theorem wdFirst_any (v : Value) (ss : List ByteArray) (q : ByteArray) (w : World) (h : Strs w v ss) (hd : dicB ss = true) (hq : q.size ≤ 20) (hq1 : 1 ≤ q.size) : Calls Tryd.prog 46 #[v, .string q, .bool false] w (ResS (if tq ss q 0 = 0 then [] else firstV ss q) (decide (¬ tq ss q 0 = 0)) w) := by
  have HS := Lib.hid h
  obtain ⟨hl1, hl2⟩ := dicB_len hd
  have HD := Lib.hid hd
  obtain ⟨a, cap, hv, hnil⟩ := h.at
  rw [hv] at HS ⊢
  clear hv hnil h v hd
  obtain ⟨i0, hi, hz0, hzs, hzb⟩ := info_parts info_strN
  have HI := Lib.hid (show Tryd.prog.info? 9 = some i0 ∧ i0.zero = some (.string ⟨#[]⟩) ∧ i0.size = 1 ∧ i0.bytes = 16 from ⟨hi, hz0, hzs, hzb⟩)
  clear hi hz0 hzs hzb
  obtain ⟨N, hN⟩ : ∃ N, N = q.size + 1 := ⟨_, rfl⟩
  have HN := Lib.hid hN
  have hN0 : 0 < N := by omega
  have hN0i : (0 : Int) < (N : Int) := by omega
  have hqN : q.size < N := by omega
  clear hN
  obtain ⟨c, hc⟩ : ∃ c, c = tq ss q 0 := ⟨_, rfl⟩
  have HC := Lib.hid hc
  rw [← hc]
  clear hc
  by_cases hc0 : c = 0
  · have t1 : (c == 0) = true := by simp [hc0]
    rw [if_pos hc0, decide_eq_false (fun h => h hc0)]
    clear hc0
    go_enter Tryd.func46, Tryd.ntmps46
    go_wp2_with (go_at_call 45; refine (wdTables_any _ _ _ _ HS.out HD.out hq).mono ?_; rintro e w2 ⟨g1, g2, t2, rfl, r1, r2, x2⟩; rw [← HN.out] at r1 r2 ⊢; have c0 := (r1.at 0 hN0).trans (congrArg (fun i => some (Value.int .i64 i)) (show tFrom ss q 0 0 = c by rw [HC.out]; unfold tFrom; rw [if_pos (by omega)])); clear r1 r2)
    go_ret2
    exact ⟨_, rfl, RowS.nil _ _, x2⟩
  have t1 : (c == 0) = false := by simp [hc0]
  have HC0 := Lib.hid (show ¬ tq ss q 0 = 0 by rw [← HC.out]; exact hc0)
  rw [if_neg hc0, decide_eq_true hc0]
  clear hc0
  go_enter Tryd.func46, Tryd.ntmps46
  go_wp2_with (go_at_call 45; refine (wdTables_any _ _ _ _ HS.out HD.out hq).mono ?_; rintro e w2 ⟨g1, g2, t2, rfl, r1, r2, x2⟩; rw [← HN.out] at r1 r2 ⊢; have c0 := (r1.at 0 hN0).trans (congrArg (fun i => some (Value.int .i64 i)) (show tFrom ss q 0 0 = c by rw [HC.out]; unfold tFrom; rw [if_pos (by omega)])); have R1 := Lib.hid r1; clear r1 r2)
  have HLEN := Lib.hid (show (firstV ss q).length ≤ 20 from Nat.le_trans (path_len _ _ _ _ _) hq)
  go_loopw [10, 11] (fun o i wr => ∃ (p : Nat) (f : Nat) (ts : List ByteArray), p ≤ q.size ∧ q.size ≤ p + f ∧ i = .int .i64 p ∧ ts ++ path ss (goOn ss q) q.size f p = firstV ss q ∧ ¬ tq ss q p = 0 ∧ RowS w2.heap.size wr o ts ∧ Ext w2 wr) (fun _ i _ => q.size - (intOf i).toNat)
  case atStart => exact ⟨0, q.size, [], Nat.zero_le _, by omega, rfl, rfl, HC0.out, RowS.nil _ _, Ext.refl _⟩
  case round =>
    obtain ⟨p, f, ts, hp, hf, rfl, hG, hnz, hO, hx⟩ := hrel
    have HG := Lib.hid hG
    have HNZ := Lib.hid hnz
    have HO := Lib.hid hO
    clear hG hnz hO
    by_cases hlt : p < q.size
    · obtain ⟨f, rfl⟩ : ∃ f', f = f' + 1 := ⟨f - 1, by omega⟩
      have HT := Lib.hid (R1.out.ext hx)
      go_wp2
      go_loopw [10, 11, 31] (fun o j c wx => ∃ m : Nat, m ≤ ss.length ∧ c = .int .i64 m ∧ j = .int .i64 p ∧ (ss.take m).find? (goOn ss q p) = none ∧ RowS w2.heap.size wx o ts ∧ Ext wr wx) (fun _ _ c _ => ss.length - (intOf c).toNat)
      case atStart => exact ⟨0, Nat.zero_le _, rfl, rfl, rfl, HO.out, Ext.refl _⟩
      case round =>
        obtain ⟨m, hm, rfl, rfl, hno, ho2, hx2⟩ := hrel
        have HNO := Lib.hid hno
        have HO2 := Lib.hid ho2
        clear hno ho2
        by_cases hlm : m < ss.length
        · rcases (HS.out.ext ((x2.trans hx).trans hx2)).2.2 with ⟨h3, _⟩ | ⟨b, off, cap', h4, hb, hc⟩
          · rw [h3] at hlm; exact absurd hlm (by simp)
          have ha : a = some ⟨b, off, none⟩ := by injection h4
          have e1 := hc m hlm
          have HW := Lib.hid (wdW_isW (dicB_at HD.out m hlm))
          have hz10 := wdW_size (dicB_at HD.out m hlm)
          have hz1 := (isW_size HW.out).1
          obtain ⟨kk, hkk⟩ : ∃ p, p = keysB ss[m] := ⟨_, rfl⟩
          have HQ := Lib.hid hkk
          obtain ⟨E, hE⟩ : ∃ E, E = p + ss[m].size := ⟨_, rfl⟩
          have HEE := Lib.hid hE
          have hEi : (p : Int) + (ss[m].size : Int) = (E : Int) := by omega
          clear hc h4 hb hkk
          subst ha
          by_cases hE1 : q.size < E
          · have HNN := Lib.hid (find_no hlm HNO.out (goOn_no1 (fun hc => by have := hc.1; omega)))
            have hE1d : decide (q.size < E) = true := decide_eq_true hE1
            clear hE
            go_wp2
            go_quiet (fail)
            go_wp2
            exact ⟨⟨m + 1, by omega, by go_num, rfl, HNN.out, HO2.out.ext (ext_drewN (Ext.refl _) _), ext_drewN hx2 _⟩, by simp [intOf]; omega⟩
          have hE1d : decide (q.size < E) = false := decide_eq_false hE1
          have hEle : E ≤ q.size := by omega
          have hEq : (E : Int) ≤ (q.size : Int) := by omega
          have hEN : E < N := by omega
          have hENi : (E : Int) < (N : Int) := by omega
          have hpE : p ≤ E := by omega
          have hpEi : (p : Int) ≤ (E : Int) := by omega
          have hpE2 : p < E := by omega
          by_cases hE2 : kk = q.extract p E
          · have t2 : (kk.toList == (q.extract p E).toList) = true := by rw [beqS, decide_eq_true hE2]
            have HF := Lib.hid (show fits q p ss[m] from ⟨by omega, by rw [← HQ.out, ← HEE.out]; exact hE2⟩)
            obtain ⟨T, hT⟩ : ∃ T, T = tq ss q E := ⟨_, rfl⟩
            have c2 := (HT.out.ext hx2).at E hEN
            rw [show tFrom ss q 0 E = T by unfold tFrom; rw [if_pos (by omega), hT]] at c2
            have HTT := Lib.hid hT
            clear hE2 hT hE
            by_cases hT0 : T = 0
            · have t3 : (T == 0) = true := by simp [hT0]
              have HNN := Lib.hid (find_no hlm HNO.out (goOn_no2 (by rw [← HEE.out, ← HTT.out]; exact hT0)))
              clear hT0
              go_wp2
              go_quiet (first | (exact Calls.quiet_of_same ((prKeys_any _ _ HW.out).mono fun e w' h => ⟨(h.1.trans (by rw [← HQ.out]) : e = Ending.returned (.string kk)), h.2.symm⟩)))
              go_wp2
              exact ⟨⟨m + 1, by omega, by go_num, rfl, HNN.out, HO2.out.ext (ext_drewN (Ext.refl _) _), ext_drewN hx2 _⟩, by simp [intOf]; omega⟩
            · have t3 : (T == 0) = false := by simp [hT0]
              have HTN := Lib.hid (show ¬ tq ss q E = 0 by rw [← HTT.out]; exact hT0)
              have hts : ts.length ≤ 20 := by have e := congrArg List.length HG.out; rw [List.length_append] at e; have := HLEN.out; omega
              have HFY := Lib.hid (find_yes hlm HNO.out (goOn_yes HF.out (by rw [← HEE.out, ← HTT.out]; exact hT0)))
              clear hT0
              go_wp2
              go_quiet (first | (exact Calls.quiet_of_same ((prKeys_any _ _ HW.out).mono fun e w' h => ⟨(h.1.trans (by rw [← HQ.out]) : e = Ending.returned (.string kk)), h.2.symm⟩)))
              go_wp2_with (at_builtin; refine wpList_append_own _ rfl _ _ 22 rfl w2.heap.size 9 i0 (.string ⟨#[]⟩) 1 16 Tryd.underlying22 HI.out.1 HI.out.2.1 HI.out.2.2.1 HI.out.2.2.2 rfl (by decide) _ _ _ rfl (World.ownsRow.alloc (HO2.out.ext (ext_drewN (Ext.refl _) _)) _) ⟨_, 0, none⟩ 1 1 [.string ss[m]] rfl rfl (cell_one_new _ _ _) (oneS _) (by unfold maxLen; omega) (by omega) (by have := (hx.trans hx2).size; simp; omega) ?_; intro v' w5 hown' hgr' _)
              have R : RowS w2.heap.size w5 v' (ts ++ [ss[m]]) := by
                unfold RowS
                rw [List.length_append, List.map_append]
                exact hown'
              have X : Ext w2 w5 := ext_grown ((ext_drewN (hx.trans hx2) _).alloc _) hgr' (fun j hj => HO2.out.own_le j hj)
              clear hown' hgr'
              go_wp2
              go_roundw
              case rel =>
                refine ⟨E, f, ts ++ [ss[m]], hEle, by omega, rfl, ?_, HTN.out, R, X⟩
                have e := HG.out
                rw [path_step hlt HFY.out, ← HEE.out] at e
                rw [List.append_assoc]
                exact e
              case measure => simp [intOf]; omega
          · have t2 : (kk.toList == (q.extract p E).toList) = false := by rw [beqS, decide_eq_false hE2]
            have HNN := Lib.hid (find_no hlm HNO.out (goOn_no1 (fun hc => hE2 (by rw [HQ.out, HEE.out]; exact hc.2))))
            clear hE2 hE
            go_wp2
            go_quiet (first | (exact Calls.quiet_of_same ((prKeys_any _ _ HW.out).mono fun e w' h => ⟨(h.1.trans (by rw [← HQ.out]) : e = Ending.returned (.string kk)), h.2.symm⟩)))
            go_wp2
            exact ⟨⟨m + 1, by omega, by go_num, rfl, HNN.out, HO2.out.ext (ext_drewN (Ext.refl _) _), ext_drewN hx2 _⟩, by simp [intOf]; omega⟩
        · exact absurd (by have := HNO.out; rwa [List.take_of_length_le (by omega)] at this) (goOn_some HD.out q hq p hlt HNZ.out)
    · obtain rfl : p = q.size := by omega
      go_wp2
      go_ret2
      have e : ts = firstV ss q := by have := HG.out; rwa [path_end _ _ _ _ _ (Nat.le_refl _), List.append_nil] at this
      exact ⟨_, rfl, by rw [← e]; exact HO.out.down x2.size, x2.trans hx⟩

end Go.Proofs.YtioinihlahnbfaaDoor
