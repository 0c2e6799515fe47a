/- For every text the program's ParseCodePlan answers as its model does, in memory of its own. No conditions but the library's own: its tables are as Go lays them. -/
import Derived.Test.YthooedmlnonadaaDoorCards
import Derived.Test.YthooedmlnonadaaDoorTie
import Derived.Test.YthooedmlnonadaaDoorLaw
import Derived.Lay
import Derived.MakeChecks
import Derived.LaidMore
import Derived.SevenTiedAt
import Derived.Stop.Joined
import Derived.Deep.DeepHandedRow
import Derived.Test.YthooedmlnonadaaDoorParts3
import Derived.Test.YthooedmlnonadaaDoorPlI
import Derived.Test.YthooedmlnonadaaDoorPutIn
import Derived.Test.YthooedmlnonadaaDoorShelfS
import Derived.Test.YthooedmlnonadaaDoorMarks
import Derived.Test.YthooedmlnonadaaDoorOpenS
namespace Go.Proofs.YthooedmlnonadaaDoor.parseCodePlan
open Go.ChangeShapes Go.WideShapes Go.ChangeAt Go.RowKit
open Go.ChangeMaps (open_string shut_string)

def ResS (ts : List ByteArray) (ok : Bool) (w : World) (e : Ending) (w' : World) : Prop := ∃ v, e = .returned (.tuple #[v, .bool ok]) ∧ RowS w.heap.size w' v ts ∧ Ext w w'
theorem ret_vb {v : Value} {b b' : Bool} (h : b = b') : Ending.returned (.tuple #[v, .bool b]) = .returned (.tuple #[v, .bool b']) := by rw [h]

set_option maxHeartbeats 4000000 in
theorem split_any (s : ByteArray) (w : World) (hs : s.size ≤ 140) : Calls Tryd.prog 20 #[.string s, .int .u8 44] w (ResP (sp2 s) w) := by
  obtain ⟨i0, hi, hz0, hzs, hzb⟩ := info_parts info_strC
  have HI := Lib.hid (show Tryd.prog.info? 9 = some i0 ∧ i0.zero = some (.string ⟨#[]⟩) ∧ i0.size = 1 ∧ i0.bytes = 16 from ⟨hi, hz0, hzs, hzb⟩)
  clear hi hz0 hzs hzb
  go_enter Tryd.func20, Tryd.ntmps20
  go_wp2
  go_loopw [5, 6, 7] (fun o fr i wr => ∃ k f : Nat, ∃ n : Nat, ∃ ts : List ByteArray, k ≤ s.size ∧ f ≤ k ∧ s.size ≤ f + n ∧ i = .int .i64 k ∧ fr = .int .i64 f ∧ (∀ j (hj : j < s.size), f ≤ j → j < k → ¬ s[j] = 44) ∧ ts ++ Lib.splitB comma 0 n (s.extract f s.size) = sp2 s ∧ ts.length ≤ k ∧ RowS w.heap.size wr o ts ∧ Ext w wr) (fun _ _ i _ => s.size - (intOf i).toNat)
  case atStart => exact ⟨0, 0, s.size, [], Nat.zero_le _, Nat.le_refl _, by omega, rfl, rfl, fun j _ _ h => absurd h (by omega), by rw [ex_all]; rfl, Nat.zero_le _, RowS.nil _ _, Ext.refl _⟩
  case round =>
    obtain ⟨k, f, n, ts, hk, hfk, hfn, rfl, rfl, hno, hG, htl, hO, hx⟩ := hrel
    have HNO := Lib.hid hno
    have HG := Lib.hid hG
    have HO := Lib.hid hO
    clear hno hG hO
    have hf1 : (f : Int) ≤ (k : Int) := by omega
    have hkz : (k : Int) ≤ (s.size : Int) := by omega
    have hfz : f ≤ s.size := by omega
    have hfzi : (f : Int) ≤ (s.size : Int) := by omega
    by_cases hlt : k < s.size
    · have hlti : (k : Int) < (s.size : Int) := by omega
      by_cases h44 : s[k] = 44
      · have t1 : ((s[k].toNat : Int) == 44) = true := by rw [h44]; rfl
        obtain ⟨n, rfl⟩ : ∃ n', n = n' + 1 := ⟨n - 1, by omega⟩
        have HST := Lib.hid (step_hit s f k n HNO.out hfk hlt h44)
        clear h44
        go_wp2_with (at_builtin; refine wpList_append_own _ rfl _ _ 22 rfl w.heap.size 9 i0 (.string ⟨#[]⟩) 1 16 Tryd.underlying22 HI.out.1 HI.out.2.1 HI.out.2.2.1 HI.out.2.2.2 rfl (by decide) _ _ _ rfl (World.ownsRow.alloc HO.out _) ⟨_, 0, none⟩ 1 1 [.string (s.extract f k)] rfl rfl (cell_one_new _ _ _) (oneSS _) (by unfold maxLen; omega) (by omega) (by have := hx.size; simp; omega) ?_; intro v5 w5 hown' hgr' _)
        have R : RowS w.heap.size w5 v5 (ts ++ [s.extract f k]) := by
          unfold RowS
          rw [List.length_append, List.map_append]
          exact hown'
        have X : Ext w w5 := ext_grown (hx.alloc _) hgr' (fun j hj => HO.out.own_le j hj)
        clear hown' hgr'
        go_wp2
        go_roundw
        case rel => exact ⟨k + 1, k + 1, n, ts ++ [s.extract f k], by omega, Nat.le_refl _, by omega, by go_num, by go_num, fun j _ h1 h2 => absurd h1 (by omega), by rw [← HG.out, HST.out, List.append_assoc]; rfl, by rw [List.length_append]; show ts.length + 1 ≤ k + 1; omega, R, X⟩
        case measure => simp [intOf]; omega
      · have t1 : ((s[k].toNat : Int) == 44) = false := by
          rw [beq_eq_false_iff_ne]
          intro e
          exact h44 (UInt8.toNat_inj.1 (by show s[k].toNat = 44; omega))
        have HNN := Lib.hid (show ∀ j (hj : j < s.size), f ≤ j → j < k + 1 → ¬ s[j] = 44 from fun j hj h1 h2 => by
          by_cases e : j = k
          · subst e; exact h44
          · exact HNO.out j hj h1 (by omega))
        clear h44
        go_wp2
        go_roundw
        case rel => exact ⟨k + 1, f, n, ts, by omega, by omega, hfn, by go_num, rfl, HNN.out, HG.out, by omega, HO.out, hx⟩
        case measure => simp [intOf]; omega
    · obtain rfl : k = s.size := by omega
      have HST := Lib.hid (step_end s f n (fun j hj h1 => HNO.out j hj h1 hj) hfz)
      have HE := Lib.hid (show ts ++ [s.extract f s.size] = sp2 s by rw [← HG.out, HST.out])
      go_wp2_with (at_builtin; refine wpList_append_own _ rfl _ _ 22 rfl w.heap.size 9 i0 (.string ⟨#[]⟩) 1 16 Tryd.underlying22 HI.out.1 HI.out.2.1 HI.out.2.2.1 HI.out.2.2.2 rfl (by decide) _ _ _ rfl (World.ownsRow.alloc HO.out _) ⟨_, 0, none⟩ 1 1 [.string (s.extract f s.size)] rfl rfl (cell_one_new _ _ _) (oneSS _) (by unfold maxLen; omega) (by omega) (by have := hx.size; simp; omega) ?_; intro v5 w5 hown' hgr' _)
      have R : RowS w.heap.size w5 v5 (ts ++ [s.extract f s.size]) := by
        unfold RowS
        rw [List.length_append, List.map_append]
        exact hown'
      have X : Ext w w5 := ext_grown (hx.alloc _) hgr' (fun j hj => HO.out.own_le j hj)
      clear hown' hgr'
      go_wp2
      go_ret
      exact ⟨_, rfl, by rw [← HE.out]; exact R, X⟩

theorem sp2_len (s : ByteArray) : (sp2 s).length ≤ s.size + 1 := Lib.splitB_length_le comma 0 s.size s

set_option maxHeartbeats 2000000 in
theorem spec_any (s : ByteArray) (w : World) (hs : s.size ≤ maxLen) : Calls Tryd.prog 6 #[.string s] w (ResS (pV s) (pOk s) w) := by
  have h63 : s.size ≤ 9223372036854775807 := hs
  by_cases h1 : 140 < s.size
  · have H := Lib.hid (pOk_long h1)
    have h1i : (140 : Int) < (s.size : Int) := by omega
    clear h1
    go_enter Tryd.func6, Tryd.ntmps6
    go_wp2
    go_ret2
    exact ⟨_, ret_vb H.out.symm, by rw [pV_no H.out]; exact RowS.nil _ _, Ext.refl _⟩
  have HSZ := Lib.hid (show ∀ t ∈ sp2 s, t.size ≤ maxLen from fun t ht => Nat.le_trans (part_sz s.size s t ht) hs)
  have HLN := Lib.hid (show (sp2 s).length ≤ maxLen by have := sp2_len s; unfold maxLen; omega)
  have h1i : ¬ (140 : Int) < (s.size : Int) := by omega
  have hs140 : s.size ≤ 140 := by omega
  clear h1
  cases hp : pOk s
  all_goals
    have H := Lib.hid hp
    have HD := Lib.hid (show plB (sp2 s) = _ from hp)
    clear hp
    go_enter Tryd.func6, Tryd.ntmps6
    go_wp2_with (first | (go_at_call 20; refine (split_any s _ hs140).mono ?_; rintro e w1 ⟨v1, rfl, r1, x1⟩; have R1 := Lib.hid r1; clear r1) | (go_at_call 21; refine (plGood_any _ _ _ (R1.out.strs HLN.out HSZ.out)).mono ?_; rintro e w2 ⟨rfl, x2⟩; rw [HD.out]))
    go_ret2
    first
      | exact ⟨_, ret_vb H.out.symm, by rw [pV_no H.out]; exact RowS.nil _ _, x1.trans x2⟩
      | exact ⟨_, rfl, by rw [pV_no H.out]; exact RowS.nil _ _, x1.trans x2⟩
      | exact ⟨_, rfl, by rw [pV_yes H.out]; exact R1.out.ext x2, x1.trans x2⟩

theorem row_cells (w : World) (l : List ByteArray) (N : Nat) (hl : l.length ≤ N) (hN : N ≤ 1048576) : RowS w.heap.size (w.alloc (.cells (Lib.cellsOf l N) 9)) (.slice (some ⟨w.heap.size, 0, none⟩) l.length N) l := by
  refine ⟨by rw [List.length_map, Nat.mul_one], .inr ⟨w.heap.size, N, Lib.cellsOf l N, rfl, Nat.le_refl _, by show (w.heap.push _)[w.heap.size]? = _; simp, hl, by unfold maxLen; omega, by rw [Lib.cellsOf_size hl, Nat.mul_one], ?_⟩⟩
  unfold Lib.cellsOf
  rw [List.toList_toArray, Nat.mul_one]
  have e : l.length = (l.map Value.string).length := (List.length_map ..).symm
  rw [e, List.take_left]

theorem cell_lt {w : World} {g j : Nat} {v : Value} (h : w.cell? ⟨g, j, none⟩ = some v) : g < w.heap.size := by
  rcases Nat.lt_or_ge g w.heap.size with k | k
  · exact k
  · have e : w.heap[g]? = none := Array.getElem?_eq_none k
    unfold World.cell? at h
    simp [e] at h
/-- The library's bound on short searches, whatever it is. -/
def MaxL (m : Int) (w : World) : Prop := w.cell? ⟨0, 0, none⟩ = some (.int .i64 m) ∧ 0 < w.heap.size
theorem MaxL.ext {m : Int} {w w' : World} (h : MaxL m w) (hx : Ext w w') : MaxL m w' := ⟨(hx.cell h.2).trans h.1, Nat.lt_of_lt_of_le h.2 hx.size⟩

set_option maxHeartbeats 2000000 in
theorem impl_any (s : ByteArray) (w : World) (hs : s.size ≤ 1048576) (m : Int) (hp : MaxL m w) : Calls Tryd.prog 7 #[.string s] w (ResS (pV s) (pOk s) w) := by
  have HM := Lib.hid hp.1
  clear hp
  have HF := Lib.hid (few_parts s)
  have HLE := Lib.hid (Lib.splitB_length_le comma 0 (min 21 (s.size + 1) - 1) s)
  have HSZ := Lib.hid (show ∀ t ∈ Lib.splitB comma 0 (min 21 (s.size + 1) - 1) s, t.size ≤ maxLen from fun t ht => by have := part_sz _ s t ht; unfold maxLen; omega)
  obtain ⟨N, hN⟩ : ∃ N, N = min 21 (s.size + 1) := ⟨_, rfl⟩
  have hN13 : N ≤ 21 := by omega
  have hN1 : 1 ≤ N := by omega
  have HN := Lib.hid hN
  rw [← hN] at HF HLE HSZ
  obtain ⟨l, hl⟩ : ∃ l, l = Lib.splitB comma 0 (N - 1) s := ⟨_, rfl⟩
  rw [← hl] at HF HLE HSZ
  have HLL := Lib.hid hl
  have hlN : l.length ≤ N := by have := HLE.out; omega
  clear hN hl
  have HR := Lib.hid (row_cells w l N hlN (by omega))
  cases hp : pOk s
  all_goals
    have H := Lib.hid hp
    rw [hp] at HF
    clear hp
    go_enter Tryd.func7, Tryd.ntmps7
    go_wp2_with (first | (go_at_call 22; refine (Go.Proofs.Tryd.strings_SplitN s comma 21 m _ (by omega) HM.out (by decide) (by decide) (by decide)).mono ?_; rw [← HN.out, ← HLL.out]; rintro e w1 ⟨rfl, rfl⟩; have x1 : Ext w (w.alloc (.cells (Lib.cellsOf l N) 9)) := (Ext.refl _).alloc _) | (go_at_call 23; refine (isPl_any _ l _ (HR.out.strs (by unfold maxLen; omega) HSZ.out) (own_cap HR.out)).mono ?_; rintro e w5 ⟨rfl, x5⟩; rw [HF.out.1]))
    go_ret2
    first
      | exact ⟨_, rfl, by rw [pV_no H.out]; exact RowS.nil _ _, x1.trans x5⟩
      | exact ⟨_, rfl, by rw [pV_yes H.out, ← HF.out.2 (by first | rfl | trivial)]; exact HR.out.ext x5, x1.trans x5⟩

set_option maxHeartbeats 4000000 in
theorem walk (w : World) (s0 : ByteArray) (hs0 : s0.size ≤ maxLen) (m : Int) (hp : MaxL m w) : Calls Tryd.prog 3 #[.string s0] w fun e w' => e = .returned (.bool true) ∧ Ext w w' := by
  have h63_0 : s0.size ≤ 9223372036854775807 := hs0
  have hzl : (pV s0).length ≤ 1048576 := pV_len s0
  have hzm := Lib.hid (pV_mem s0)
  obtain ⟨zs, hzs⟩ : ∃ zs, zs = pV s0 := ⟨_, rfl⟩
  have HZ := Lib.hid hzs
  rw [← hzs] at hzl hzm
  clear hzs
  by_cases hbig0 : 1048576 < s0.size
  · go_enter Tryd.func3, Tryd.ntmps3
    go_wp2
    go_ret
    exact ⟨rfl, Ext.refl _⟩
  go_enter Tryd.func3, Tryd.ntmps3
  go_wp2_with fail
  refine (spec_any _ _ hs0).mono ?_
  rintro e w1 ⟨g1, rfl, r1, x1⟩
  rw [← HZ.out] at r1
  have R1 := Lib.hid r1
  clear r1
  have X1 : Ext w w1 := x1
  go_wp2_with fail
  refine (impl_any _ _ (by omega) m (hp.ext X1)).mono ?_
  rintro e w2 ⟨g2, rfl, r2, x2⟩
  rw [← HZ.out] at r2
  have R2 := Lib.hid r2
  clear r2
  have X2 : Ext w w2 := X1.trans x2
  go_wp2_with fail
  refine (eqS_any _ _ _ _ ((R2.out).strs (by unfold maxLen; omega) hzm.out) ((R1.out.ext x2).strs (by unfold maxLen; omega) hzm.out) hzl).mono ?_
  rintro e w3 ⟨rfl, x3⟩
  have X3 : Ext w w3 := X2.trans x3
  go_wp2_with fail
  refine (markR_any _ _ _ _ (R2.out.ext x3) hzl).mono ?_
  rintro e w4 ⟨rfl, m10, hg10⟩
  have M10 := Lib.hid m10
  have X4 : Ext w w4 := ext_grown X3 hg10 (fun j hj => Nat.le_trans X1.size (R2.out.own_le j hj))
  have S10 := Lib.hid (RowS.kept (R1.out.ext (x2.trans x3)) hg10 (R1.out.apart2 (w2 := w2) R2.out (Nat.le_refl _)))
  clear m10 hg10
  go_wp2_with fail
  refine (heldR_any _ _ _ _ M10.out hzl).mono ?_
  rintro e w5 ⟨rfl, x5⟩
  have X5 : Ext w w5 := X4.trans x5
  go_wp2_with fail
  refine (impl_any _ _ (by omega) m (hp.ext X5)).mono ?_
  rintro e w6 ⟨g6, rfl, r6, x6⟩
  rw [← HZ.out] at r6
  have R6 := Lib.hid r6
  clear r6
  have X6 : Ext w w6 := X5.trans x6
  go_wp2_with fail
  refine (eqS_any _ _ _ _ ((R6.out).strs (by unfold maxLen; omega) hzm.out) ((S10.out.ext (x5.trans x6)).strs (by unfold maxLen; omega) hzm.out) hzl).mono ?_
  rintro e w7 ⟨rfl, x7⟩
  have X7 : Ext w w7 := X6.trans x7
  go_wp2_with fail
  refine (heldR_any _ _ _ _ (M10.out.ext ((x5.trans x6).trans x7)) hzl).mono ?_
  rintro e w8 ⟨rfl, x8⟩
  have X8 : Ext w w8 := X7.trans x8
  go_wp2_with fail
  go_ret
  exact ⟨rfl, X8⟩

set_option maxRecDepth 100000 in
theorem contract (H : Type) (enc : TypeId × Value → H) (W : World) (base : Nat) (args : Array Value) (ds gs : List (DataW H)) (before : List MemPlace)
    (hval : ∀ (j : Nat) t v, Tryd.f3.params[j]? = some t → args[j]? = some v → Value.okWide Tryd.prog W .any base t v)
    (hW : DataW.Whole enc Tryd.prog Tryd.f3.params.toList Rows.fnExactParseCodePlanSpec.vars false W args.toList ds gs before) (hS : W.ShapedOpen Tryd.prog) :
    Calls Tryd.prog 3 args W fun e W' => ∃ v, e = .returned v ∧ Rows.fnExactParseCodePlanSpec.post enc Tryd.prog Tryd.f3 false true false false W args v W' := by
  have hW' := hW
  obtain ⟨p, q, hA0, hV, rfl, hfz, hnd⟩ := hW
  have hA : DataW.TrodAll enc Tryd.prog W 0 (fun _ => true) true Tryd.f3.params.toList args.toList ds p := hA0
  rw [Tryd.params3] at hA hval
  obtain ⟨v0, vs0, d0, ds0, p0, q0, hargs0, rfl, rfl, h0, r0⟩ := trodAll_cons hA
  obtain ⟨rfl, rfl, rfl⟩ := trodAll_nil r0
  obtain rfl : args = #[v0] := Array.toList_inj.1 hargs0
  obtain ⟨s0, rfl, rfl, rfl, z0⟩ := open_string Tryd.underlying9 (hval 0 9 v0 rfl rfl) h0
  clear hA0
  obtain ⟨m, hm⟩ := Go.Proofs.Tryd.laysM147.s1_3 W hS
  refine (walk W s0 z0 m ⟨hm, cell_lt hm⟩).mono fun e W' ⟨he, hx⟩ => ?_
  subst he
  exact ⟨_, rfl, post_true (tb := 4) laidOut (by rw [Tryd.params3]; intro t ht; simp at ht; subst ht; exact ⟨by kernel_rfl, of_decide_eq_true (by kernel_rfl)⟩) (by kernel_rfl) hW' hx (by obtain ⟨rfl, rfl⟩ := trodVars_none hV; rfl) rfl Tryd.underlying4⟩

theorem laid_met (os : Os) (args : Array Value) : laidMetH Tryd.prog Rows.fnExactParseCodePlanRow.laid ((World.laidAll Tryd.prog os Rows.fnExactParseCodePlanRow.laid).forCall (fun _ _ => 0) ⟨#[], args, []⟩).memory := by
  rw [MakeChecks.laidMetH_plain _ _ _ (by kernel_rfl)]
  exact laidMet_laidAll _ (by kernel_rfl) (by kernel_rfl)
theorem reads (os : Os) {H : Type} (enc : TypeId × Value → H) : DataW.whole enc Tryd.prog ((World.laidAll Tryd.prog os Rows.fnExactParseCodePlanRow.laid).forCall (fun _ _ => 0) ⟨#[], #[.string ByteArray.empty], []⟩).memory Tryd.f3.params.toList Rows.fnExactParseCodePlanSpec.vars false (#[.string ByteArray.empty] : Array Value).toList 8 = some ([.lit (.string [])], [], []) := by kernel_rfl

set_option maxRecDepth 100000 in
theorem lifted (os : Os) (started : os.Started) (H : Type) (enc : TypeId × Value → H) (F : Stop.Interp) :
    ReturnsInHanded {} Tryd.checked os 3 .any ((OpenSpec.ofChange Rows.fnExactParseCodePlanSpec).preRow enc Tryd.prog Tryd.f3 Rows.fnExactParseCodePlanRow.domain false Rows.fnExactParseCodePlanRow.laid) (((OpenSpec.ofChange Rows.fnExactParseCodePlanSpec).at F).post enc Tryd.prog Tryd.f3 false true false false) := by
  have hx := reads os enc (H := H)
  have hok : Input.okWideB Tryd.prog ((World.laidAll Tryd.prog os Rows.fnExactParseCodePlanRow.laid).forCall (fun _ _ => 0) ⟨#[], #[.string ByteArray.empty], []⟩) 3 ⟨#[], #[.string ByteArray.empty], []⟩ = true := by kernel_rfl
  refine returnsInHanded_of_row (C := Tryd.checked) (s := OpenSpec.ofChange Rows.fnExactParseCodePlanSpec) own started (by kernel_rfl) Tryd.func3
    ⟨World.laidAll Tryd.prog os Rows.fnExactParseCodePlanRow.laid, fun _ _ => 0, ⟨#[], #[.string ByteArray.empty], []⟩, World.laidAll_os _ _ _, World.shaped_of_ZipB (by kernel_rfl) (by kernel_rfl), (Input.okWide_of_okWideB (base := 0) hok).1, (Input.okWide_of_okWideB hok).2,
      OpenSpec.preRow_of_cond 8 hx (by kernel_rfl) (fun k hk => by cases hk) (by kernel_rfl) (laid_met os _), by
        simp only [Assume.holds]
        exact ⟨by simp, by simp, fun _ => Modest.zero, by simp, by simp⟩⟩ ?_
  intro W base args ds gs before hval hW _ _ _ _ hS _
  exact contract H enc W base args ds gs before hval hW hS

theorem said : Rows.FnExactParseCodePlanSaid :=
  OpenClaim.holds_of_cond 3 Tryd.f3 rfl rfl rfl rfl rfl rfl rfl ⟨rfl, rfl, rfl, rfl, rfl⟩ rfl rfl rfl rfl rfl (by kernel_rfl) Tryd.func3 (by kernel_rfl)
    (of_decide_eq_true (by kernel_rfl)) (by unfold Func.isWrapper; first | (rw [if_pos (by decide +kernel)]; kernel_rfl) | (rw [if_neg (by decide +kernel)]; exact ⟨rfl, rfl⟩))
    (fun os started H enc _ F => by rw [OpenClaim.pre_eq_preRow]; exact lifted os started H enc F)

theorem plain (f : FuncId) (fn : Func) (hf : Tryd.pinned.checked.prog.funcNamed "loop.example/g01350/laws.FnExactParseCodePlan" = some f) (hfn : Tryd.pinned.checked.prog.funcs[f]? = some fn) :
    true = Tryd.pinned.checked.prog.looks [] ∧ ∀ (j : Nat) t, fn.params[j]? = some t → Tryd.pinned.checked.prog.wantsStandIn t = false := by
  obtain rfl : f = 3 := Option.some.inj ((show Tryd.prog.funcNamed "loop.example/g01350/laws.FnExactParseCodePlan" = some 3 by kernel_rfl).symm.trans hf) |>.symm
  obtain rfl : fn = Tryd.f3 := (Option.some.inj (Tryd.func3.symm.trans hfn)).symm
  refine ⟨by kernel_rfl, fun j t ht => ?_⟩
  rw [Tryd.params3] at ht
  have hm := Array.mem_of_getElem? ht
  have hall : (#[9].toList.all fun u => !Tryd.prog.wantsStandIn u) = true := by kernel_rfl
  exact (show Tryd.prog.wantsStandIn t = false by simpa using List.all_eq_true.1 hall t (by simpa using hm))

/-- THE CARD -/
theorem card : Rows.FnExactParseCodePlanCardSaid :=
  Claim7.holds_tied_plain_at .later [] _ _ _ _ said (fun _ h => by cases h) (by kernel_rfl) (fun _ h => by cases h) fnExactParseCodePlan_row_tie rfl ⟨rfl, rfl⟩ (by kernel_rfl) rfl plain (by kernel_rfl)
end Go.Proofs.YthooedmlnonadaaDoor.parseCodePlan
