/- For every text and every two numbers, MakePuzzle returns the same values as the reference model, in memory of its own. Conditions: the package variables read as the program's text lays them. -/
import Derived.Test.YtpdnpphjlnlneaaGreatDoorCards
import Derived.Test.YtpdnpphjlnlneaaGreatDoorTie
import Derived.Test.YtpdnpphjlnlneaaGreatDoorLaw
import Derived.Lay
import Derived.MakeChecks
import Derived.LaidMore
import Derived.SevenTiedAt
import Derived.Stop.Joined
import Derived.Deep.DeepHandedRow
import Derived.Test.YtpdnpphjlnlneaaGreatDoorMkq
import Derived.Test.YtpdnpphjlnlneaaGreatDoorApo
namespace Go.Proofs.YtpdnpphjlnlneaaGreatDoor.makePuzzle
open Go.ChangeShapes Go.WideShapes Go.ChangeAt Go.RowKit
open Go.ChangeMaps (open_string shut_string)

theorem tv_i64 {k a : Int} {n : ByteArray} (h : isDg 2 3 n = true) : isI64 (tv k a n) := by
  obtain ⟨z1, z2⟩ := isHid_bd h
  have hw := isHid_wk h
  have hd := dgs_lt hw
  have hl := dgs_len n
  have hs := sumT_le (dgs n) hd (dgs n).length (Nat.le_refl _)
  rw [List.take_length] at hs
  have hf := difN_le (dgs n) (dgs n).length
  have hwk := wlk_le false (plcs n) 4 (by omega) (plcs_lt n)
  have hpl := plcs_len n
  have hg : dgt n a.toNat ≤ 255 := by unfold dgt; have := UInt8.toNat_lt (n.data.toList.getD a.toNat 0); omega
  unfold tv isI64
  split
  · omega
  · split
    · omega
    · split
      · omega
      · split
        · split <;> omega
        · split
          · split <;> omega
          · unfold difT; omega
theorem mkCl_ok {k y : Nat} {n : ByteArray} (h : isDg 2 3 n = true) (hk : k < 6) : (mkCl k y n).ok := by
  obtain ⟨z1, z2⟩ := isHid_bd h
  refine ⟨?_, ?_, tv_i64 h⟩
  · show isI64 (k : Int)
    unfold isI64; omega
  · show isI64 (mkA k y n)
    unfold mkA isI64
    have h1 := Int.emod_nonneg (y : Int) (show (n.size : Int) ≠ 0 by omega)
    have h2 := Int.emod_lt_of_pos (y : Int) (show (0 : Int) < (n.size : Int) by omega)
    split
    · omega
    · split <;> omega
theorem mks_ok {s : Nat} {n : ByteArray} (h : isDg 2 3 n = true) : ∀ t, ∀ g ∈ mks s n t, g.ok
  | 0 => fun g hg => by cases hg
  | t + 1 => fun g hg => by
    rw [mks] at hg
    rcases List.mem_append.1 hg with h2 | h2
    · exact mks_ok h t g h2
    · rw [List.mem_singleton.1 h2]
      exact mkCl_ok h (Nat.mod_lt _ (by omega))
theorem mpV_ok (n : ByteArray) (c s : Int) : (∀ g ∈ mpV n c s, g.ok) ∧ (mpV n c s).length ≤ 1048576 := by
  cases h : mpOk n c s
  · rw [(mp_no h).2]; exact ⟨fun g hg => (by cases hg), by simp⟩
  · rw [(mp_yes h).2]
    unfold mpOk at h
    rw [Bool.and_eq_true, Bool.and_eq_true] at h
    have := inW_bd' h.2.1
    exact ⟨mks_ok h.1 _, by rw [mks_len]; omega⟩

theorem apC_hi {B n : Nat} {w : World} {v : Value} {ts : List Cl} (h : OwnR B w v ts) {ob : Option Nat} (ho : ob = none ∨ ∃ g, ob = some g ∧ w.heap.size ≤ g ∧ g < n) : v.ownBlock = none ∨ v.ownBlock ≠ ob := by
  rcases ho with e | ⟨g, e, h1, _⟩
  · exact ob_no e
  · rcases h.own with h0 | ⟨g', h0, _, h2⟩
    · exact .inl h0
    · refine .inr (fun e2 => ?_)
      rw [h0, e] at e2
      cases e2
      omega
theorem ob_ne {n m : Nat} {ob : Option Nat} (ho : ob = none ∨ ∃ g, ob = some g ∧ n ≤ g ∧ g < m) (k : Nat) (hk : m ≤ k) : some k ≠ ob := by
  rcases ho with e | ⟨g, e, _, h1⟩
  · rw [e]; intro h; cases h
  · rw [e]; intro h; cases h; omega

set_option maxRecDepth 100000 in
set_option maxHeartbeats 4000000 in
theorem walk (w : World) (n : ByteArray) (hn : n.size ≤ maxLen) (c : Int) (_hc : (Lit.int .i64 c).wf = true) (s : Int) (_hs : (Lit.int .i64 s).wf = true) : Calls Tryz.prog 13 #[.string n, .int .i64 c, .int .i64 s] w fun e w' => e = .returned (.bool true) ∧ Ext w w' := by
  have h63 : n.size ≤ 9223372036854775807 := hn
  by_cases hbig : 1048576 < n.size
  · go_enter Tryz.func13, Tryz.ntmps13
    go_wp2
    go_ret
    exact ⟨rfl, Ext.refl _⟩
  have HS := Lib.hid (fun w => mpS_any n c s w hn)
  have HM := Lib.hid (fun w => mpP_any n c s w hn)
  obtain ⟨hok, hlen⟩ := mpV_ok n c s
  obtain ⟨D, hD⟩ : ∃ X, X = mpD n c s := ⟨_, rfl⟩
  obtain ⟨gs, hgs⟩ : ∃ X, X = mpV n c s := ⟨_, rfl⟩
  obtain ⟨ok, hk⟩ : ∃ X, X = mpOk n c s := ⟨_, rfl⟩
  rw [← hD, ← hgs, ← hk] at HS HM
  rw [← hgs] at hok hlen
  have HOK := Lib.hid hok
  have HML := Lib.hid (show gs.length ≤ maxLen by unfold maxLen; omega)
  clear hD hgs hk hok
  go_enter Tryz.func13, Tryz.ntmps13
  go_wp2_with fail
  refine (HS.out _).mono ?_
  rintro e w1 ⟨u1, rfl, r1, x1⟩
  obtain ⟨a1, k1, rfl⟩ := r1.shape
  have R1 := Lib.hid (r1.ext ((Ext.refl w1).alloc (.cells #[.int .i64 D, .slice a1 gs.length k1] 37)))
  have X1 := Lib.hid (x1.trans ((Ext.refl w1).alloc (.cells #[.int .i64 D, .slice a1 gs.length k1] 37)))
  clear r1 x1
  go_wp2_with fail
  refine (HM.out _).mono ?_
  rintro e w2 ⟨u2, rfl, r2, x2⟩
  obtain ⟨a2, k2, rfl⟩ := r2.shape
  have HOB := Lib.hid r2.own
  have R2 := Lib.hid r2
  have X2 := Lib.hid x2
  have XB := Lib.hid (x2.trans ((Ext.refl w2).alloc (.cells #[.int .i64 D, .slice a2 gs.length k2] 37)))
  have R2B := Lib.hid (r2.ext ((Ext.refl w2).alloc (.cells #[.int .i64 D, .slice a2 gs.length k2] 37)))
  obtain ⟨p1, p2⟩ := pz_cells XB.out
  clear r2 x2
  go_wp2_with fail
  refine (eqPz_any D _ _ gs _ (R2B.out.cls HML.out HOK.out) ((R1.out.ext XB.out).cls HML.out HOK.out) hlen).mono ?_
  rintro e w3 ⟨rfl, x3⟩
  have X3 := Lib.hid x3
  have XA3 := Lib.hid (XB.out.trans x3)
  clear x3 p1 p2
  obtain ⟨q1, q2⟩ := pz_cells X3.out
  go_wp2_with fail
  refine (markPz_any D _ gs _ w3 (R2B.out.ext X3.out) hlen).mono ?_
  rintro e w4 ⟨rfl, r4, g4⟩
  have Y3 := Lib.hid (X3.out.trans ((Ext.refl w3).alloc (.cells #[.int .i64 D, .slice a2 gs.length k2] 37)))
  have XA4 := Lib.hid (ext_grown (XB.out.trans Y3.out) g4 (fun j hj => ob_ge HOB.out j hj))
  have XW4 := Lib.hid (X1.out.trans XA4.out)
  have R14 := Lib.hid (OwnR.kept (R1.out.ext (XB.out.trans Y3.out)) g4 (apC_hi R1.out HOB.out))
  have HBX := Lib.hid ((g4.block w2.heap.size (Nat.lt_of_lt_of_le (by simp) Y3.out.size) (ob_ne HOB.out _ (Nat.le_refl _))).trans ((Y3.out.block w2.heap.size (by simp)).trans (heap_alloc_new w2 _)))
  have R4 := Lib.hid r4
  clear r4 g4 q1 q2
  obtain ⟨b1, b2⟩ := (show w4.cell? ⟨w2.heap.size, 0, none⟩ = some (.int .i64 D) ∧ w4.cell? ⟨w2.heap.size, 1, none⟩ = some (.slice a2 gs.length k2) from ⟨(cell_of HBX.out (j := 0) rfl).1, (cell_of HBX.out (j := 1) rfl).1⟩)
  go_wp2_with fail
  refine (heldPz_any D _ gs.length _ w4 R4.out hlen).mono ?_
  rintro e w5 ⟨rfl, x5⟩
  have X5 := Lib.hid x5
  clear x5 b1 b2
  go_wp2_with fail
  refine (HM.out _).mono ?_
  rintro e w6 ⟨u6, rfl, r6, x6⟩
  obtain ⟨a6, k6, rfl⟩ := r6.shape
  have R6 := Lib.hid (r6.ext ((Ext.refl w6).alloc (.cells #[.int .i64 D, .slice a6 gs.length k6] 37)))
  have X6 := Lib.hid (X5.out.trans (x6.trans ((Ext.refl w6).alloc (.cells #[.int .i64 D, .slice a6 gs.length k6] 37))))
  obtain ⟨p1, p2⟩ := pz_cells (XA4.out.trans X6.out)
  clear r6 x6
  go_wp2_with fail
  refine (eqPz_any D _ _ gs _ (R6.out.cls HML.out HOK.out) ((R14.out.ext X6.out).cls HML.out HOK.out) hlen).mono ?_
  rintro e w7 ⟨rfl, x7⟩
  have X7 := Lib.hid (X6.out.trans x7)
  have HB7 := Lib.hid ((X7.out.block w2.heap.size (heapLt HBX.out)).trans HBX.out)
  obtain ⟨b1, b2⟩ := (show w7.cell? ⟨w2.heap.size, 0, none⟩ = some (.int .i64 D) ∧ w7.cell? ⟨w2.heap.size, 1, none⟩ = some (.slice a2 gs.length k2) from ⟨(cell_of HB7.out (j := 0) rfl).1, (cell_of HB7.out (j := 1) rfl).1⟩)
  clear x7 p1 p2
  go_wp2_with fail
  refine (heldPz_any D _ gs.length _ w7 (R4.out.ext X7.out) hlen).mono ?_
  rintro e w8 ⟨rfl, x8⟩
  go_wp2
  go_ret
  exact ⟨rfl, XW4.out.trans (X7.out.trans x8)⟩

set_option maxRecDepth 100000 in
theorem contract (H : Type) (enc : TypeId × Value → H) (W : World) (base : Nat) (args : Array Value) (ds gs : List (DataW H)) (before : List MemPlace)
    (hval : ∀ (j : Nat) t v, Tryz.f13.params[j]? = some t → args[j]? = some v → Value.okWide Tryz.prog W .any base t v)
    (hW : DataW.Whole enc Tryz.prog Tryz.f13.params.toList Rows.fnExactMakePuzzleSpec.vars false W args.toList ds gs before) (_hS : W.ShapedOpen Tryz.prog) :
    Calls Tryz.prog 13 args W fun e W' => ∃ v, e = .returned v ∧ Rows.fnExactMakePuzzleSpec.post enc Tryz.prog Tryz.f13 false true false false W args v W' := by
  have hW' := hW
  obtain ⟨p, q, hA0, hV, rfl, hfz, hnd⟩ := hW
  have hA : DataW.TrodAll enc Tryz.prog W 0 (fun _ => true) true Tryz.f13.params.toList args.toList ds p := hA0
  rw [Tryz.params13] at hA hval
  obtain ⟨v0, vs0, d0, ds0, p0, q0, hargs0, rfl, rfl, h0, r0⟩ := trodAll_cons hA
  obtain ⟨v1, vs1, d1, ds1, p1, q1, hargs1, rfl, rfl, h1, r1⟩ := trodAll_cons r0
  obtain ⟨v2, vs2, d2, ds2, p2, q2, hargs2, rfl, rfl, h2, r2⟩ := trodAll_cons r1
  obtain ⟨rfl, rfl, rfl⟩ := trodAll_nil r2
  subst hargs2
  subst hargs1
  obtain rfl : args = #[v0, v1, v2] := Array.toList_inj.1 hargs0
  obtain ⟨s0, rfl, rfl, rfl, z0⟩ := open_string Tryz.underlying9 (hval 0 9 v0 rfl rfl) h0
  obtain ⟨s1, rfl, rfl, rfl, z1⟩ := open_int Tryz.underlying3 (hval 1 3 v1 rfl rfl) h1
  obtain ⟨s2, rfl, rfl, rfl, z2⟩ := open_int Tryz.underlying3 (hval 2 3 v2 rfl rfl) h2
  clear hA0
  refine (walk W s0 z0 s1 z1 s2 z2).mono fun e W' ⟨he, hx⟩ => ?_
  subst he
  exact ⟨_, rfl, post_true (tb := 4) laidOut (by rw [Tryz.params13]; intro t ht; simp at ht; rcases ht with rfl | rfl <;> exact ⟨by kernel_rfl, of_decide_eq_true (by kernel_rfl)⟩) (by kernel_rfl) hW' hx (by obtain ⟨rfl, rfl⟩ := trodVars_none hV; rfl) rfl Tryz.underlying4⟩

theorem laid_met (os : Os) (args : Array Value) : laidMetH Tryz.prog Rows.fnExactMakePuzzleRow.laid ((World.laidAll Tryz.prog os Rows.fnExactMakePuzzleRow.laid).forCall (fun _ _ => 0) ⟨#[], args, []⟩).memory := by
  rw [MakeChecks.laidMetH_plain _ _ _ (by kernel_rfl)]
  exact laidMet_laidAll _ (by kernel_rfl) (by kernel_rfl)
theorem reads (os : Os) {H : Type} (enc : TypeId × Value → H) : DataW.whole enc Tryz.prog ((World.laidAll Tryz.prog os Rows.fnExactMakePuzzleRow.laid).forCall (fun _ _ => 0) ⟨#[], #[.string ByteArray.empty, .int .i64 0, .int .i64 0], []⟩).memory Tryz.f13.params.toList Rows.fnExactMakePuzzleSpec.vars false (#[.string ByteArray.empty, .int .i64 0, .int .i64 0] : Array Value).toList 8 = some ([.lit (.string []), .lit (.int .i64 0), .lit (.int .i64 0)], [], []) := by kernel_rfl

set_option maxRecDepth 100000 in
theorem lifted (os : Os) (started : os.Started) (H : Type) (enc : TypeId × Value → H) (F : Stop.Interp) :
    ReturnsInHanded {} Tryz.checked os 13 .any ((OpenSpec.ofChange Rows.fnExactMakePuzzleSpec).preRow enc Tryz.prog Tryz.f13 Rows.fnExactMakePuzzleRow.domain false Rows.fnExactMakePuzzleRow.laid) (((OpenSpec.ofChange Rows.fnExactMakePuzzleSpec).at F).post enc Tryz.prog Tryz.f13 false true false false) := by
  have hx := reads os enc (H := H)
  have hok : Input.okWideB Tryz.prog ((World.laidAll Tryz.prog os Rows.fnExactMakePuzzleRow.laid).forCall (fun _ _ => 0) ⟨#[], #[.string ByteArray.empty, .int .i64 0, .int .i64 0], []⟩) 13 ⟨#[], #[.string ByteArray.empty, .int .i64 0, .int .i64 0], []⟩ = true := by kernel_rfl
  refine returnsInHanded_of_row (C := Tryz.checked) (s := OpenSpec.ofChange Rows.fnExactMakePuzzleSpec) own started (by kernel_rfl) Tryz.func13
    ⟨World.laidAll Tryz.prog os Rows.fnExactMakePuzzleRow.laid, fun _ _ => 0, ⟨#[], #[.string ByteArray.empty, .int .i64 0, .int .i64 0], []⟩, World.laidAll_os _ _ _, World.shaped_of_ZipB (by kernel_rfl) (by kernel_rfl), (Input.okWide_of_okWideB (base := 0) hok).1, (Input.okWide_of_okWideB hok).2,
      OpenSpec.preRow_of_cond 8 hx (by kernel_rfl) (fun k hk => by cases hk) (by kernel_rfl) (laid_met os _), by
        simp only [Assume.holds]
        exact ⟨by simp, by simp, fun _ => Modest.zero, by simp, by simp⟩⟩ ?_
  intro W base args ds gs before hval hW _ _ _ _ hS _
  exact contract H enc W base args ds gs before hval hW hS

theorem said : Rows.FnExactMakePuzzleSaid :=
  OpenClaim.holds_of_cond 13 Tryz.f13 rfl rfl rfl rfl rfl rfl rfl ⟨rfl, rfl, rfl, rfl, rfl⟩ rfl rfl rfl rfl rfl (by kernel_rfl) Tryz.func13 (by kernel_rfl)
    (of_decide_eq_true (by kernel_rfl)) (by unfold Func.isWrapper; first | (rw [if_pos (by decide +kernel)]; kernel_rfl) | (rw [if_neg (by decide +kernel)]; exact ⟨rfl, rfl⟩))
    (fun os started H enc _ F => by rw [OpenClaim.pre_eq_preRow]; exact lifted os started H enc F)

theorem plain (f : FuncId) (fn : Func) (hf : Tryz.pinned.checked.prog.funcNamed "loop.example/g01350/laws.FnExactMakePuzzle" = some f) (hfn : Tryz.pinned.checked.prog.funcs[f]? = some fn) :
    true = Tryz.pinned.checked.prog.looks [] ∧ ∀ (j : Nat) t, fn.params[j]? = some t → Tryz.pinned.checked.prog.wantsStandIn t = false := by
  obtain rfl : f = 13 := Option.some.inj ((show Tryz.prog.funcNamed "loop.example/g01350/laws.FnExactMakePuzzle" = some 13 by kernel_rfl).symm.trans hf) |>.symm
  obtain rfl : fn = Tryz.f13 := (Option.some.inj (Tryz.func13.symm.trans hfn)).symm
  refine ⟨by kernel_rfl, fun j t ht => ?_⟩
  rw [Tryz.params13] at ht
  have hm := Array.mem_of_getElem? ht
  have hall : (#[9, 3, 3].toList.all fun u => !Tryz.prog.wantsStandIn u) = true := by kernel_rfl
  exact (show Tryz.prog.wantsStandIn t = false by simpa using List.all_eq_true.1 hall t (by simpa using hm))

/-- THE CARD -/
theorem card : Rows.FnExactMakePuzzleCardSaid :=
  Claim7.holds_tied_plain_at .later [] _ _ _ _ said (fun _ h => by cases h) (by kernel_rfl) (fun _ h => by cases h) fnExactMakePuzzle_row_tie rfl ⟨rfl, rfl⟩ (by kernel_rfl) rfl plain (by kernel_rfl)
end Go.Proofs.YtpdnpphjlnlneaaGreatDoor.makePuzzle
