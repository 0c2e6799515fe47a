/- For every text the program's RankOfWord answers as its model does, the pad's table being as the program lays it. -/
import Derived.Test.YtfekamknnmhgpaaDoorCards
import Derived.Test.YtfekamknnmhgpaaDoorTie
import Derived.Test.YtfekamknnmhgpaaDoorTab
import Derived.Test.YtfekamknnmhgpaaDoorSums
import Derived.Deep.RegionHeld3
import Derived.IntWalk
namespace Go.Proofs.YtfekamknnmhgpaaDoor.rankOfWord
open Go.ChangeShapes Go.WideShapes Go.ChangeAt Go.RowKit
open Go.ChangeMaps (open_string shut_string)

def lst (a b : Int) : Int := if a < b then a else b
theorem lst_any (a b : Int) (w : World) : Calls Tryd.prog 51 #[.int .i64 a, .int .i64 b] w fun e w' => e = .returned (.int .i64 (lst a b)) ∧ w = w' := by
  by_cases h : a < b
  · have H := Lib.hid (show lst a b = a from if_pos h)
    go_enter Tryd.func51, Tryd.ntmps51
    go_wp2
    go_ret
    exact ⟨ret_int H.out.symm, rfl⟩
  · have H := Lib.hid (show lst a b = b from if_neg h)
    go_enter Tryd.func51, Tryd.ntmps51
    go_wp2
    go_ret
    exact ⟨ret_int H.out.symm, rfl⟩
theorem lst_bd (a b : Int) (h : 0 ≤ a) (h2 : 0 ≤ b) : 0 ≤ lst a b ∧ lst a b ≤ b := by unfold lst; split <;> omega

/-- How many letters the key of a letter has. -/
def sz (c : Int) : Int := (lt (grp c)).size
theorem sz_bd (c : Int) : 3 ≤ sz c ∧ sz c ≤ 4 := by have := lt_size (grp c) (grp_lt c); unfold sz; omega
/-- The rank of the first k letters, or one more than the most. -/
def rkL : List UInt8 → Int → Int
  | [], r => r
  | c :: l, r => rkL l (lst (r * sz c.toNat + pl c.toNat) 1000000000000001)
def rkTo (s : ByteArray) (k : Nat) : Int := rkL (s.data.toList.take k) 0
theorem rkL_snoc : ∀ (l : List UInt8) (c : UInt8) (r : Int), rkL (l ++ [c]) r = lst (rkL l r * sz c.toNat + pl c.toNat) 1000000000000001
  | [], _, _ => rfl
  | _ :: l, c, _ => by simp only [List.cons_append, rkL]; exact rkL_snoc l c _
theorem rkTo_succ (s : ByteArray) (k : Nat) (h : k < s.size) : rkTo s (k + 1) = lst (rkTo s k * sz s[k].toNat + pl s[k].toNat) 1000000000000001 := by
  unfold rkTo; rw [take_snoc s k h, rkL_snoc]
theorem mul_bd {r z : Int} (h0 : 0 ≤ r) (h1 : r ≤ 1000000000000001) (h2 : 3 ≤ z) (h3 : z ≤ 4) : r ≤ r * z ∧ r * z ≤ 4000000000000004 := by
  obtain rfl | rfl : z = 3 ∨ z = 4 := by omega
  all_goals omega
theorem rkTo_bd (s : ByteArray) (hw : isW s = true) : ∀ k, k ≤ s.size → 0 ≤ rkTo s k ∧ rkTo s k ≤ 1000000000000001
  | 0, _ => by simp [rkTo, rkL]
  | k + 1, h => by
    have ih := rkTo_bd s hw k (by omega)
    have hp := pl_bd s[k].toNat (isW_get hw k h)
    have hz := sz_bd s[k].toNat
    have hm := mul_bd ih.1 ih.2 hz.1 hz.2
    rw [rkTo_succ s k h]
    exact lst_bd _ _ (by omega) (by decide)
/-- What is above the most stays so. -/
theorem rkTo_up (s : ByteArray) (hw : isW s = true) (k : Nat) : ∀ j, k + j ≤ s.size → 1000000000000000 < rkTo s k → 1000000000000000 < rkTo s (k + j)
  | 0, _, h => h
  | j + 1, hj, h => by
    have ih := rkTo_up s hw k j (by omega) h
    have hb := rkTo_bd s hw (k + j) (by omega)
    have hp := pl_bd s[k + j].toNat (isW_get hw (k + j) (by omega))
    have hz := sz_bd s[k + j].toNat
    have hm := mul_bd hb.1 hb.2 hz.1 hz.2
    rw [show k + (j + 1) = k + j + 1 from rfl, rkTo_succ s (k + j) (by omega)]
    unfold lst
    split <;> omega
def okR (s : ByteArray) : Bool := isW s && decide (rkTo s s.size ≤ 1000000000000000)
def rkV (s : ByteArray) : Int := if okR s then rkTo s s.size else 0
theorem okR_W {s : ByteArray} (h : isW s = false) : okR s = false := by unfold okR; simp [h]
theorem okR_no {s : ByteArray} (h : 1000000000000000 < rkTo s s.size) : okR s = false := by unfold okR; simp; intro; omega
theorem okR_yes {s : ByteArray} (h : isW s = true) (h2 : rkTo s s.size ≤ 1000000000000000) : okR s = true := by unfold okR; simp [h, h2]
theorem rkV_no {s : ByteArray} (h : okR s = false) : rkV s = 0 := by unfold rkV; simp [h]
theorem rkV_yes {s : ByteArray} (h : okR s = true) : rkV s = rkTo s s.size := by unfold rkV; simp [h]

set_option maxHeartbeats 800000 in
theorem spec_any (s : ByteArray) (w : World) (hs : s.size ≤ maxLen) : Calls Tryd.prog 30 #[.string s] w fun e w' => e = .returned (.tuple #[.int .i64 (rkV s), .bool (okR s)]) ∧ w = w' := by
  cases h : isW s
  · have H := Lib.hid (okR_W h)
    go_enter Tryd.func30, Tryd.ntmps30
    go_wp2_with (go_at_call 36; refine (prW_any _ _ hs).mono ?_; rintro e w' ⟨rfl, rfl⟩)
    go_ret2
    exact ⟨ret_ib (rkV_no H.out).symm H.out.symm, rfl⟩
  · have h' := Lib.hid h
    obtain ⟨hz1, hz2⟩ := isW_size h
    go_enter Tryd.func30, Tryd.ntmps30
    go_wp2_with (go_at_call 36; refine (prW_any _ _ hs).mono ?_; rintro e w' ⟨rfl, rfl⟩)
    clear h
    go_loop [4, 5] (fun n i => ∃ k : Nat, k ≤ s.size ∧ i = .int .i64 k ∧ n = .int .i64 (rkTo s k)) (fun _ i => s.size - (intOf i).toNat)
    case atStart => exact ⟨0, by omega, rfl, rfl⟩
    case round =>
      obtain ⟨k, hk, rfl, rfl⟩ := hrel
      obtain ⟨hb1, hb2⟩ := rkTo_bd s h'.out k hk
      by_cases hlt : k < s.size
      · have HL := Lib.hid (isW_get h'.out k hlt)
        obtain ⟨hp1, hp2, _⟩ := pl_bd s[k].toNat HL.out
        obtain ⟨hm1, hm2⟩ := mul_bd hb1 hb2 (sz_bd s[k].toNat).1 (sz_bd s[k].toNat).2
        have HS := Lib.hid (rkTo_succ s k hlt)
        unfold sz at hm1 hm2 HS
        go_wp2_with (first | (go_at_call 37; refine (prKey_any _ _ HL.out).mono ?_; rintro e w' ⟨rfl, rfl⟩) | (go_at_call 52; refine (prL_any _ _).mono ?_; rintro e w' ⟨rfl, rfl⟩; rw [lt8_dg]) | (go_at_call 51; refine (lst_any _ _ _).mono ?_; rintro e w' ⟨rfl, rfl⟩))
        go_round
        case rel => exact ⟨k + 1, by omega, by go_num, by rw [HS.out]; congr 2; omega⟩
        case measure => simp [intOf]; omega
      · obtain rfl : k = s.size := by omega
        by_cases hr : 1000000000000000 < rkTo s s.size
        · have H := Lib.hid (okR_no hr)
          go_wp2
          go_ret2
          exact ⟨ret_ib (rkV_no H.out).symm H.out.symm, rfl⟩
        · have H := Lib.hid (okR_yes h'.out (by omega))
          go_wp2
          go_ret2
          exact ⟨ret_ib (rkV_yes H.out).symm H.out.symm, rfl⟩

def padO (c : Int) : Obj := .cells #[.int .u8 (dg c), .string (lt (grp c)), .int .i64 (pl c)] 40
theorem held_ext {w1 a b : World} {x y z : Value} (h : a.cell? ⟨w1.heap.size, 0, none⟩ = some x ∧ a.cell? ⟨w1.heap.size, 1, none⟩ = some y ∧ a.cell? ⟨w1.heap.size, 2, none⟩ = some z ∧ w1.heap.size < a.heap.size ∧ Ext w1 a) (hx : Ext a b) :
    b.cell? ⟨w1.heap.size, 0, none⟩ = some x ∧ b.cell? ⟨w1.heap.size, 1, none⟩ = some y ∧ b.cell? ⟨w1.heap.size, 2, none⟩ = some z ∧ w1.heap.size < b.heap.size ∧ Ext w1 b :=
  ⟨(hx.cell h.2.2.2.1).trans h.1, (hx.cell h.2.2.2.1).trans h.2.1, (hx.cell h.2.2.2.1).trans h.2.2.1, Nat.lt_of_lt_of_le h.2.2.2.1 hx.size, h.2.2.2.2.trans hx⟩
theorem held_new (w1 : World) (c : Int) : (w1.alloc (padO c)).drew.cell? ⟨w1.heap.size, 0, none⟩ = some (.int .u8 (dg c)) ∧ (w1.alloc (padO c)).drew.cell? ⟨w1.heap.size, 1, none⟩ = some (.string (lt (grp c))) ∧ (w1.alloc (padO c)).drew.cell? ⟨w1.heap.size, 2, none⟩ = some (.int .i64 (pl c)) ∧ w1.heap.size < (w1.alloc (padO c)).drew.heap.size ∧ Ext w1 (w1.alloc (padO c)).drew :=
  ⟨by simp [padO, go_sem], by simp [padO, go_sem], by simp [padO, go_sem], by simp [padO, go_sem], ((Ext.refl _).alloc _).drew⟩

set_option maxHeartbeats 800000 in
theorem impl_any (s : ByteArray) (w : World) (hs : s.size ≤ maxLen) (hp : PadIs w) : Calls Tryd.prog 31 #[.string s] w fun e w' => e = .returned (.tuple #[.int .i64 (rkV s), .bool (okR s)]) ∧ Ext w w' := by
  cases h : isW s
  · have H := Lib.hid (okR_W h)
    go_enter Tryd.func31, Tryd.ntmps31
    go_wp2_with (go_at_call 44; refine (isW_any _ _ hs).mono ?_; rintro e w' ⟨rfl, rfl⟩)
    go_ret2
    exact ⟨ret_ib (rkV_no H.out).symm H.out.symm, Ext.refl _⟩
  · have h' := Lib.hid h
    obtain ⟨hz1, hz2⟩ := isW_size h
    go_enter Tryd.func31, Tryd.ntmps31
    go_wp2_with (go_at_call 44; refine (isW_any _ _ hs).mono ?_; rintro e w' ⟨rfl, rfl⟩)
    clear h
    go_loopw [4, 12] (fun n i wr => ∃ k : Nat, k ≤ s.size ∧ i = .int .i64 k ∧ n = .int .i64 (rkTo s k) ∧ rkTo s k ≤ 1000000000000000 ∧ Ext w wr) (fun _ i _ => s.size - (intOf i).toNat)
    case atStart => exact ⟨0, by omega, rfl, rfl, by show (0 : Int) ≤ 1000000000000000; decide, Ext.refl _⟩
    case round =>
      obtain ⟨k, hk, rfl, rfl, hle, hx⟩ := hrel
      obtain ⟨hb1, hb2⟩ := rkTo_bd s h'.out k hk
      by_cases hlt : k < s.size
      · have HL := Lib.hid (isW_get h'.out k hlt)
        obtain ⟨hp1, hp2, _⟩ := pl_bd s[k].toNat HL.out
        obtain ⟨hm1, hm2⟩ := mul_bd hb1 hb2 (sz_bd s[k].toNat).1 (sz_bd s[k].toNat).2
        have HS := Lib.hid (rkTo_succ s k hlt)
        unfold sz at hm1 hm2 HS
        go_wp2_with (go_at_call 41; refine (padOf_any _ _ (hp.ext hx) HL.out).mono ?_; rintro e w1 ⟨rfl, x1⟩; unfold padV)
        have SN := Lib.hid (held_new w1 s[k].toNat)
        unfold padO at SN
        have W1 : IntKind.i64.wrap (rkTo s k * ((lt (grp s[k].toNat)).size : Int)) = rkTo s k * ((lt (grp s[k].toNat)).size : Int) := IntWalk.i64_in _ (by omega)
        have W2 : IntKind.i64.wrap (rkTo s k * ((lt (grp s[k].toNat)).size : Int) + pl s[k].toNat) = rkTo s k * ((lt (grp s[k].toNat)).size : Int) + pl s[k].toNat := IntWalk.i64_in _ (by omega)
        go_region_held3 (fun w' => w'.cell? ⟨w1.heap.size, 0, none⟩ = some (.int .u8 (dg s[k].toNat)) ∧ w'.cell? ⟨w1.heap.size, 1, none⟩ = some (.string (lt (grp s[k].toNat))) ∧ w'.cell? ⟨w1.heap.size, 2, none⟩ = some (.int .i64 (pl s[k].toNat)) ∧ w1.heap.size < w'.heap.size ∧ Ext w1 w') (first | exact SN.out | (refine held_ext ?_ x2; assumption)) (first | (go_at_call 53; refine (size_any _ _ _).mono ?_; rintro e w2 ⟨rfl, x2⟩))
        all_goals (rename_i hHeld)
        all_goals (have hE := (hx.trans x1).trans hHeld.2.2.2.2; clear hHeld)
        all_goals (by_cases hr : 1000000000000000 < rkTo s k * ((lt (grp s[k].toNat)).size : Int) + pl s[k].toNat)
        · have hup : 1000000000000000 < rkTo s s.size := by
            have h1 : 1000000000000000 < rkTo s (k + 1) := by rw [HS.out]; unfold lst; split <;> omega
            have h2 := rkTo_up s h'.out (k + 1) (s.size - (k + 1)) (by omega) h1
            rw [show k + 1 + (s.size - (k + 1)) = s.size from by omega] at h2
            exact h2
          have H := Lib.hid (okR_no hup)
          clear hup W1 W2
          go_wp2
          go_ret2
          exact ⟨ret_ib (rkV_no H.out).symm H.out.symm, hE⟩
        · have HL2 := Lib.hid (show rkTo s (k + 1) = rkTo s k * ((lt (grp s[k].toNat)).size : Int) + pl s[k].toNat from by rw [HS.out]; exact if_pos (by omega))
          clear W1 W2
          go_wp2
          go_roundw
          case rel => exact ⟨k + 1, by omega, by go_num, by rw [HL2.out], by rw [HL2.out]; omega, hE⟩
          case measure => simp [intOf]; omega
      · obtain rfl : k = s.size := by omega
        have H := Lib.hid (okR_yes h'.out hle)
        go_wp2
        go_ret2
        exact ⟨ret_ib (rkV_yes H.out).symm H.out.symm, hx⟩

set_option maxHeartbeats 400000 in
theorem walk (s : ByteArray) (hs : s.size ≤ maxLen) (w : World) (hp : PadIs w) : Calls Tryd.prog 11 #[.string s] w fun e w' => e = .returned (.bool true) ∧ Ext w w' := by
  have h63 : s.size ≤ 9223372036854775807 := hs
  go_enter Tryd.func11, Tryd.ntmps11
  go_wp2_with (first | (go_at_call 30; refine (spec_any _ _ hs).mono ?_; rintro e w' ⟨rfl, rfl⟩) | (go_at_call 31; refine (impl_any _ _ hs hp).mono ?_; rintro e w1 ⟨rfl, x1⟩))
  all_goals go_ret
  all_goals exact ⟨rfl, by first | assumption | exact Ext.refl _⟩

theorem contract (H : Type) (enc : TypeId × Value → H) (W : World) (base : Nat) (args : Array Value) (ds gs : List (DataW H)) (before : List MemPlace)
    (hval : ∀ (j : Nat) t v, Tryd.f11.params[j]? = some t → args[j]? = some v → Value.okWide Tryd.prog W .any base t v)
    (hW : DataW.Whole enc Tryd.prog Tryd.f11.params.toList Rows.fnExactRankOfWordSpec.vars false W args.toList ds gs before) (hL : laidMetH Tryd.prog Rows.fnExactRankOfWordRow.laid W) :
    Calls Tryd.prog 11 args W fun e W' => ∃ v, e = .returned v ∧ Rows.fnExactRankOfWordSpec.post enc Tryd.prog Tryd.f11 false true false false W args v W' := by
  have hW' := hW
  obtain ⟨p, q, hA0, hV, rfl, hfz, hnd⟩ := hW
  have hA : DataW.TrodAll enc Tryd.prog W 0 (fun _ => true) true Tryd.f11.params.toList args.toList ds p := hA0
  rw [Tryd.params11] at hA hval
  obtain ⟨v0, vs0, d0, ds0, p0, q0, hargs0, rfl, rfl, h0, r0⟩ := trodAll_cons hA
  obtain ⟨rfl, rfl, rfl⟩ := trodAll_nil r0
  obtain rfl : args = #[v0] := Array.toList_inj.1 hargs0
  obtain ⟨s0, rfl, rfl, rfl, z0⟩ := open_string Tryd.underlying9 (hval 0 9 v0 rfl rfl) h0
  clear hA0
  refine (walk s0 z0 W (padIs_of_laid hL)).mono fun e W' ⟨he, hx⟩ => ?_
  subst he
  exact ⟨_, rfl, post_true (tb := 4) laidOut (by rw [Tryd.params11]; intro t ht; simp at ht; subst ht; exact ⟨by kernel_rfl, of_decide_eq_true (by kernel_rfl)⟩) (by kernel_rfl) hW' hx (by obtain ⟨g, t, cs, fuel, d, p', rfl, _⟩ := trodVars_one hV; rfl) rfl Tryd.underlying4⟩

theorem reads (os : Os) {H : Type} (enc : TypeId × Value → H) : ∃ gs places, DataW.whole enc Tryd.prog ((laidWorld os).forCall (fun _ _ => 0) ⟨#[], #[.string ByteArray.empty], []⟩).memory Tryd.f11.params.toList Rows.fnExactRankOfWordSpec.vars false (#[.string ByteArray.empty] : Array Value).toList 8 = some ([.lit (.string [])], gs, places) :=
  ⟨[Rows.laid_loop_example_g01350_impl_padKeys], MemPlace.row ⟨0, 0, none⟩ 16, by kernel_rfl⟩

set_option maxRecDepth 100000 in
theorem lifted (os : Os) (started : os.Started) (H : Type) (enc : TypeId × Value → H) (F : Stop.Interp) :
    ReturnsInHanded {} Tryd.checked os 11 .any ((OpenSpec.ofChange Rows.fnExactRankOfWordSpec).preRow enc Tryd.prog Tryd.f11 Rows.fnExactRankOfWordRow.domain false Rows.fnExactRankOfWordRow.laid) (((OpenSpec.ofChange Rows.fnExactRankOfWordSpec).at F).post enc Tryd.prog Tryd.f11 false true false false) := by
  obtain ⟨gs, places, hx⟩ := reads os enc
  refine returnsInHanded_of_row (C := Tryd.checked) (s := OpenSpec.ofChange Rows.fnExactRankOfWordSpec) own started (by kernel_rfl) Tryd.func11
    (witness_row_at (enc := enc) (C := Tryd.checked) false (laidWorld os) #[.string ByteArray.empty] rfl (by kernel_rfl) (by kernel_rfl) (by kernel_rfl)
      (OpenSpec.preRow_of_cond 8 hx (by kernel_rfl) (fun k hk => by cases hk) (by kernel_rfl) (laid_met os _))) ?_
  intro W base args ds gs before hval hW _ _ _ hL _ _
  exact contract H enc W base args ds gs before hval hW hL

theorem said : Rows.FnExactRankOfWordSaid :=
  OpenClaim.holds_of_cond 11 Tryd.f11 rfl rfl rfl rfl rfl rfl rfl ⟨rfl, rfl, rfl, rfl, rfl⟩ rfl rfl rfl rfl rfl (by kernel_rfl) Tryd.func11 (by kernel_rfl)
    (of_decide_eq_true (by kernel_rfl)) (by unfold Func.isWrapper; first | (rw [if_pos (by decide +kernel)]; kernel_rfl) | (rw [if_neg (by decide +kernel)]; exact ⟨rfl, rfl⟩))
    (fun os started H enc _ F => by rw [OpenClaim.pre_eq_preRow]; exact lifted os started H enc F)

theorem plain (f : FuncId) (fn : Func) (hf : Tryd.pinned.checked.prog.funcNamed "loop.example/g01350/laws.FnExactRankOfWord" = some f) (hfn : Tryd.pinned.checked.prog.funcs[f]? = some fn) :
    false = Tryd.pinned.checked.prog.looks [] ∧ ∀ (j : Nat) t, fn.params[j]? = some t → Tryd.pinned.checked.prog.wantsStandIn t = false := by
  obtain rfl : f = 11 := Option.some.inj ((show Tryd.prog.funcNamed "loop.example/g01350/laws.FnExactRankOfWord" = some 11 by kernel_rfl).symm.trans hf) |>.symm
  obtain rfl : fn = Tryd.f11 := (Option.some.inj (Tryd.func11.symm.trans hfn)).symm
  refine ⟨by kernel_rfl, fun j t ht => ?_⟩
  rw [Tryd.params11] at ht
  have hm := Array.mem_of_getElem? ht
  have hall : (#[9].toList.all fun u => !Tryd.prog.wantsStandIn u) = true := by kernel_rfl
  exact (show Tryd.prog.wantsStandIn t = false by simpa using List.all_eq_true.1 hall t (by simpa using hm))

/-- THE CARD -/
theorem card : Rows.FnExactRankOfWordCardSaid :=
  Claim7.holds_tied_plain_at .later [] _ _ _ _ said (fun _ h => by cases h) (by kernel_rfl) (fun _ h => by cases h) fnExactRankOfWord_row_tie rfl ⟨rfl, rfl⟩ (by kernel_rfl) rfl plain (by kernel_rfl)
end Go.Proofs.YtfekamknnmhgpaaDoor.rankOfWord
