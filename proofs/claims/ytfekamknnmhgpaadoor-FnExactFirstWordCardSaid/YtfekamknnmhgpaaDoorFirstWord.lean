/- For every text the program's FirstWord answers as its model does, the pad's table being as the program lays it. -/
import Derived.Test.YtfekamknnmhgpaaDoorCards
import Derived.Test.YtfekamknnmhgpaaDoorTie
import Derived.Test.YtfekamknnmhgpaaDoorTab
import Derived.Test.YtfekamknnmhgpaaDoorDigits
namespace Go.Proofs.YtfekamknnmhgpaaDoor.firstWord
open Go.ChangeShapes Go.WideShapes Go.ChangeAt Go.RowKit
open Go.ChangeMaps (open_string shut_string)

theorem ret_sb {a a' : ByteArray} {b b' : Bool} (h : a = a') (h2 : b = b') : Ending.returned (.tuple #[.string a, .bool b]) = .returned (.tuple #[.string a', .bool b']) := by rw [h, h2]
/-- The first letter on a key. -/
def fb (k : Nat) : UInt8 := (lt k).data.toList.headD 0
theorem fb_get : ∀ k : Nat, k < 8 → ∀ h : 0 < (lt k).size, (lt k)[0] = fb k
  | 0, _, _ => rfl
  | 1, _, _ => rfl
  | 2, _, _ => rfl
  | 3, _, _ => rfl
  | 4, _, _ => rfl
  | 5, _, _ => rfl
  | 6, _, _ => rfl
  | 7, _, _ => rfl
  | k + 8, h, _ => absurd h (by omega)
theorem fb_cut : ∀ k : Nat, k < 8 → (lt k).extract 0 1 = ⟨#[fb k]⟩
  | 0, _ => by decide
  | 1, _ => by decide
  | 2, _ => by decide
  | 3, _ => by decide
  | 4, _ => by decide
  | 5, _ => by decide
  | 6, _ => by decide
  | 7, _ => by decide
  | k + 8, h => absurd h (by omega)
def fwL (l : List UInt8) : List UInt8 := l.map fun c => fb (dk c.toNat)
def fwB (s : ByteArray) : ByteArray := ⟨(fwL s.data.toList).toArray⟩
theorem fwL_len (l : List UInt8) : (fwL l).length = l.length := by simp [fwL]
theorem fwL_get (s : ByteArray) (j : Nat) (h : j < s.size) (h' : j < (fwL s.data.toList).length) : (fwL s.data.toList)[j] = fb (dk s[j].toNat) := by
  simp only [fwL, List.getElem_map]
  rfl
def fwTo (s : ByteArray) (k : Nat) : ByteArray := ⟨(fwL (s.data.toList.take k)).toArray⟩
theorem fwTo_succ (s : ByteArray) (k : Nat) (h : k < s.size) : fwTo s k ++ ⟨#[fb (dk s[k].toNat)]⟩ = fwTo s (k + 1) := by
  apply ByteArray.ext
  rw [ByteArray.data_append]
  show (fwL (s.data.toList.take k)).toArray ++ #[_] = (fwL (s.data.toList.take (k + 1))).toArray
  rw [take_snoc s k h]
  simp [fwL]
theorem fwTo_all (s : ByteArray) (k : Nat) (h : s.size ≤ k) : fwTo s k = fwB s := by unfold fwTo fwB; rw [take_all s k h]
theorem fwTo_size (s : ByteArray) (k : Nat) : (fwTo s k).size ≤ k := by
  show (fwL (s.data.toList.take k)).toArray.size ≤ k
  simp [fwL]
  omega
def fwV (s : ByteArray) : ByteArray := if isK s then fwB s else ⟨#[]⟩
theorem fwV_no {s : ByteArray} (h : isK s = false) : fwV s = ⟨#[]⟩ := by unfold fwV; simp [h]
theorem fwV_yes {s : ByteArray} (h : isK s = true) : fwV s = fwB s := by unfold fwV; simp [h]

set_option maxHeartbeats 400000 in
theorem spec_any (s : ByteArray) (w : World) (hs : s.size ≤ maxLen) : Calls Tryd.prog 32 #[.string s] w fun e w' => e = .returned (.tuple #[.string (fwV s), .bool (isK s)]) ∧ w = w' := by
  cases h : isK s
  · have H := Lib.hid (fwV_no h)
    go_enter Tryd.func32, Tryd.ntmps32
    go_wp2_with (go_at_call 54; refine (prGood_any _ _ hs).mono ?_; rintro e w' ⟨rfl, rfl⟩)
    go_ret2
    exact ⟨ret_sb H.out.symm rfl, rfl⟩
  · obtain ⟨hz1, hz2⟩ := isK_size h
    have HD := Lib.hid (isK_get h)
    have H := Lib.hid (fwV_yes h)
    go_enter Tryd.func32, Tryd.ntmps32
    go_wp2_with (go_at_call 54; refine (prGood_any _ _ hs).mono ?_; rintro e w' ⟨rfl, rfl⟩)
    clear h
    go_loop [4, 5] (fun n i => ∃ k : Nat, k ≤ s.size ∧ i = .int .i64 k ∧ n = .string (fwTo s k)) (fun _ i => s.size - (intOf i).toNat)
    case atStart => exact ⟨0, by omega, rfl, rfl⟩
    case round =>
      obtain ⟨k, hk, rfl, rfl⟩ := hrel
      have hb := fwTo_size s k
      by_cases hlt : k < s.size
      · have HL := Lib.hid (HD.out k hlt)
        obtain ⟨_, hz3, hz4⟩ := lt_size (dk s[k].toNat) (dk_bd HL.out).1
        have HC := Lib.hid (fb_cut (dk s[k].toNat) (dk_bd HL.out).1)
        have HS := Lib.hid (fwTo_succ s k hlt)
        go_wp2_with (go_at_call 52; refine (prL_any _ _).mono ?_; rintro e w' ⟨rfl, rfl⟩; rw [lt8_dk HL.out])
        go_round
        case rel => exact ⟨k + 1, by omega, by go_num, by rw [HC.out, HS.out]⟩
        case measure => simp [intOf]; omega
      · have HT := Lib.hid (fwTo_all s k (by omega))
        go_wp2
        go_ret2
        exact ⟨ret_sb (HT.out.trans H.out.symm) rfl, rfl⟩

theorem firstAt_any (c : Int) (w : World) (h : isD c = true) : Calls Tryd.prog 57 #[.agg #[.int .u8 c, .string (lt (dk c))]] w fun e w' => e = .returned (.int .u8 ((fb (dk c)).toNat : Int)) ∧ Ext w w' := by
  have hz := lt_size (dk c) (dk_bd h).1
  refine (first_any _ _ _ (by omega)).mono fun e w' he => ?_
  rw [fb_get _ (dk_bd h).1] at he
  exact he

set_option maxHeartbeats 400000 in
theorem impl_any (s : ByteArray) (w : World) (hs : s.size ≤ maxLen) (hp : PadIs w) : Calls Tryd.prog 33 #[.string s] w fun e w' => e = .returned (.tuple #[.string (fwV s), .bool (isK s)]) ∧ Ext w w' := by
  cases h : isK s
  · have H := Lib.hid (fwV_no h)
    go_enter Tryd.func33, Tryd.ntmps33
    go_wp2_with (go_at_call 55; refine (areKeys_any _ _ hs).mono ?_; rintro e w' ⟨rfl, rfl⟩)
    go_ret2
    exact ⟨ret_sb H.out.symm rfl, Ext.refl _⟩
  · obtain ⟨hz1, hz2⟩ := isK_size h
    have HD := Lib.hid (isK_get h)
    have H := Lib.hid (fwV_yes h)
    obtain ⟨i0, hi, hz0, hzs, hzb⟩ := info_parts info_u8
    have HI := Lib.hid hi
    clear hi
    go_enter Tryd.func33, Tryd.ntmps33
    go_wp2_with (first | (go_at_call 55; refine (areKeys_any _ _ hs).mono ?_; rintro e w' ⟨rfl, rfl⟩) | (at_make; refine wpList_make_full _ rfl _ _ 49 rfl w.heap.size 5 i0 (.int .u8 0) 1 Tryd.underlying49 HI.out hz0 hzs .i64 .i64 _ _ s.size rfl rfl rfl rfl (by rw [hzb]; omega) (by unfold maxLen; omega) (Nat.le_refl _) ?_; intro w1 hown hgr))
    clear hz0 hzs hzb h
    have X1 : Ext w w1 := (Ext.refl w).grown hgr (by intro k hk; cases hk)
    obtain ⟨xs1, hxs1⟩ : ∃ xs, xs = (madeCells (Value.int IntKind.u8 0).cells (s.size * 1)).toList := ⟨_, rfl⟩
    rw [← hxs1] at hown
    clear hxs1 hgr HI
    go_loopw [14] (fun i wr => ∃ k : Nat, k ≤ s.size ∧ i = .int .i64 k ∧ ∃ xs : List Value, wr.ownsRow w.heap.size 5 1 (.slice (some ⟨w.heap.size, 0, none⟩) s.size s.size) s.size xs ∧ (∀ j (hj : j < s.size), j < k → xs[j]? = some (.int .u8 ((fb (dk s[j].toNat)).toNat : Int))) ∧ Ext w wr) (fun i _ => s.size - (intOf i).toNat)
    case atStart => exact ⟨0, Nat.zero_le _, rfl, xs1, hown, fun j _ h => absurd h (by omega), X1⟩
    case round =>
      obtain ⟨k, hk, rfl, xs, hown, hxs, hx⟩ := hrel
      have HO := Lib.hid hown
      have HX := Lib.hid hxs
      clear hown hxs
      by_cases hlt : k < s.size
      · have HL := Lib.hid (HD.out k hlt)
        have hlen : xs.length = s.size := by have := HO.out.1; omega
        obtain ⟨u, hu⟩ : ∃ u, xs[k]? = some u := ⟨xs[k]'(by omega), List.getElem?_eq_getElem _⟩
        have HU := Lib.hid hu
        clear hu hlen
        go_wp2_with (first | (go_at_call 56; refine (keyAt_any _ _ HL.out (hp.ext hx)).mono ?_; rintro e w2 ⟨rfl, x1⟩) | (go_at_call 57; refine (firstAt_any _ _ HL.out).mono ?_; rintro e w3 ⟨rfl, x2⟩; have hc3 := ((own_ext (own_ext HO.out x1) x2).cellAt k (by omega)).trans HU.out; have hf3 := (own_ext (own_ext HO.out x1) x2).frozenAt k))
        have O3 := own_ext (own_ext HO.out x1) x2
        go_roundw
        case rel =>
          refine ⟨k + 1, by omega, by go_num, xs.set k (.int .u8 ((fb (dk s[k].toNat)).toNat : Int)), (O3.stored k _).1, ?_, ((hx.trans x1).trans x2).setCell (Nat.le_refl _) _⟩
          intro j hj hjk
          by_cases e : j = k
          · subst e
            rw [List.getElem?_set_self (by have := O3.1; omega)]
          · rw [List.getElem?_set_ne (by omega)]
            exact HX.out j hj (by omega)
        case measure => simp [intOf]; omega
      · have hk' : k = s.size := by omega
        have hconv : (convert 49 9 (.slice (some ⟨w.heap.size, 0, none⟩) s.size s.size)).run Tryd.prog wr = .ok (.string (fwB s)) wr := by
          have h := run_convert_bytes_back (P := Tryd.prog) wr 49 9 5 ⟨w.heap.size, 0, none⟩ s.size (fwL s.data.toList) Tryd.underlying49 Tryd.underlying5 Tryd.underlying9 (fun j hj => by
            have hj' : j < s.size := by simpa [fwL] using hj
            rw [fwL_get s j hj' hj]
            have := (HO.out.cellAt j (by omega)).trans (HX.out j hj' (by omega))
            rw [show (Addr.add ⟨w.heap.size, 0, none⟩ j) = ⟨w.heap.size, j, none⟩ from by cases j <;> simp [Addr.add]]
            exact this)
          rw [fwL_len, show s.data.toList.length = s.size from by simp] at h
          exact h
        clear hk'
        go_wp2
        go_ret2
        exact ⟨ret_sb H.out.symm rfl, hx⟩

set_option maxHeartbeats 400000 in
theorem walk (s : ByteArray) (hs : s.size ≤ maxLen) (w : World) (hp : PadIs w) : Calls Tryd.prog 12 #[.string s] w fun e w' => e = .returned (.bool true) ∧ Ext w w' := by
  have h63 : s.size ≤ 9223372036854775807 := hs
  go_enter Tryd.func12, Tryd.ntmps12
  go_wp2_with (first | (go_at_call 32; refine (spec_any _ _ hs).mono ?_; rintro e w' ⟨rfl, rfl⟩) | (go_at_call 33; refine (impl_any _ _ hs hp).mono ?_; rintro e w1 ⟨rfl, x1⟩))
  all_goals go_ret
  all_goals exact ⟨rfl, by first | assumption | exact Ext.refl _⟩

theorem contract (H : Type) (enc : TypeId × Value → H) (W : World) (base : Nat) (args : Array Value) (ds gs : List (DataW H)) (before : List MemPlace)
    (hval : ∀ (j : Nat) t v, Tryd.f12.params[j]? = some t → args[j]? = some v → Value.okWide Tryd.prog W .any base t v)
    (hW : DataW.Whole enc Tryd.prog Tryd.f12.params.toList Rows.fnExactFirstWordSpec.vars false W args.toList ds gs before) (hL : laidMetH Tryd.prog Rows.fnExactFirstWordRow.laid W) :
    Calls Tryd.prog 12 args W fun e W' => ∃ v, e = .returned v ∧ Rows.fnExactFirstWordSpec.post enc Tryd.prog Tryd.f12 false true false false W args v W' := by
  have hW' := hW
  obtain ⟨p, q, hA0, hV, rfl, hfz, hnd⟩ := hW
  have hA : DataW.TrodAll enc Tryd.prog W 0 (fun _ => true) true Tryd.f12.params.toList args.toList ds p := hA0
  rw [Tryd.params12] at hA hval
  obtain ⟨v0, vs0, d0, ds0, p0, q0, hargs0, rfl, rfl, h0, r0⟩ := trodAll_cons hA
  obtain ⟨rfl, rfl, rfl⟩ := trodAll_nil r0
  obtain rfl : args = #[v0] := Array.toList_inj.1 hargs0
  obtain ⟨s0, rfl, rfl, rfl, z0⟩ := open_string Tryd.underlying9 (hval 0 9 v0 rfl rfl) h0
  clear hA0
  refine (walk s0 z0 W (padIs_of_laid hL)).mono fun e W' ⟨he, hx⟩ => ?_
  subst he
  exact ⟨_, rfl, post_true (tb := 4) laidOut (by rw [Tryd.params12]; intro t ht; simp at ht; subst ht; exact ⟨by kernel_rfl, of_decide_eq_true (by kernel_rfl)⟩) (by kernel_rfl) hW' hx (by obtain ⟨g, t, cs, fuel, d, p', rfl, _⟩ := trodVars_one hV; rfl) rfl Tryd.underlying4⟩

theorem reads (os : Os) {H : Type} (enc : TypeId × Value → H) : ∃ gs places, DataW.whole enc Tryd.prog ((laidWorld os).forCall (fun _ _ => 0) ⟨#[], #[.string ByteArray.empty], []⟩).memory Tryd.f12.params.toList Rows.fnExactFirstWordSpec.vars false (#[.string ByteArray.empty] : Array Value).toList 8 = some ([.lit (.string [])], gs, places) :=
  ⟨[Rows.laid_loop_example_g01350_impl_padKeys], MemPlace.row ⟨0, 0, none⟩ 16, by kernel_rfl⟩

set_option maxRecDepth 100000 in
theorem lifted (os : Os) (started : os.Started) (H : Type) (enc : TypeId × Value → H) (F : Stop.Interp) :
    ReturnsInHanded {} Tryd.checked os 12 .any ((OpenSpec.ofChange Rows.fnExactFirstWordSpec).preRow enc Tryd.prog Tryd.f12 Rows.fnExactFirstWordRow.domain false Rows.fnExactFirstWordRow.laid) (((OpenSpec.ofChange Rows.fnExactFirstWordSpec).at F).post enc Tryd.prog Tryd.f12 false true false false) := by
  obtain ⟨gs, places, hx⟩ := reads os enc
  refine returnsInHanded_of_row (C := Tryd.checked) (s := OpenSpec.ofChange Rows.fnExactFirstWordSpec) own started (by kernel_rfl) Tryd.func12
    (witness_row_at (enc := enc) (C := Tryd.checked) false (laidWorld os) #[.string ByteArray.empty] rfl (by kernel_rfl) (by kernel_rfl) (by kernel_rfl)
      (OpenSpec.preRow_of_cond 8 hx (by kernel_rfl) (fun k hk => by cases hk) (by kernel_rfl) (laid_met os _))) ?_
  intro W base args ds gs before hval hW _ _ _ hL _ _
  exact contract H enc W base args ds gs before hval hW hL

theorem said : Rows.FnExactFirstWordSaid :=
  OpenClaim.holds_of_cond 12 Tryd.f12 rfl rfl rfl rfl rfl rfl rfl ⟨rfl, rfl, rfl, rfl, rfl⟩ rfl rfl rfl rfl rfl (by kernel_rfl) Tryd.func12 (by kernel_rfl)
    (of_decide_eq_true (by kernel_rfl)) (by unfold Func.isWrapper; first | (rw [if_pos (by decide +kernel)]; kernel_rfl) | (rw [if_neg (by decide +kernel)]; exact ⟨rfl, rfl⟩))
    (fun os started H enc _ F => by rw [OpenClaim.pre_eq_preRow]; exact lifted os started H enc F)

theorem plain (f : FuncId) (fn : Func) (hf : Tryd.pinned.checked.prog.funcNamed "loop.example/g01350/laws.FnExactFirstWord" = some f) (hfn : Tryd.pinned.checked.prog.funcs[f]? = some fn) :
    false = Tryd.pinned.checked.prog.looks [] ∧ ∀ (j : Nat) t, fn.params[j]? = some t → Tryd.pinned.checked.prog.wantsStandIn t = false := by
  obtain rfl : f = 12 := Option.some.inj ((show Tryd.prog.funcNamed "loop.example/g01350/laws.FnExactFirstWord" = some 12 by kernel_rfl).symm.trans hf) |>.symm
  obtain rfl : fn = Tryd.f12 := (Option.some.inj (Tryd.func12.symm.trans hfn)).symm
  refine ⟨by kernel_rfl, fun j t ht => ?_⟩
  rw [Tryd.params12] at ht
  have hm := Array.mem_of_getElem? ht
  have hall : (#[9].toList.all fun u => !Tryd.prog.wantsStandIn u) = true := by kernel_rfl
  exact (show Tryd.prog.wantsStandIn t = false by simpa using List.all_eq_true.1 hall t (by simpa using hm))

/-- THE CARD -/
theorem card : Rows.FnExactFirstWordCardSaid :=
  Claim7.holds_tied_plain_at .later [] _ _ _ _ said (fun _ h => by cases h) (by kernel_rfl) (fun _ h => by cases h) fnExactFirstWord_row_tie rfl ⟨rfl, rfl⟩ (by kernel_rfl) rfl plain (by kernel_rfl)
end Go.Proofs.YtfekamknnmhgpaaDoor.firstWord
