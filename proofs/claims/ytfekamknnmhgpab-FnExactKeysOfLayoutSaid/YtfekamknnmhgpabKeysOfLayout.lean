/- For every list of texts and text the program's KeysOfLayout answers as its model does, in memory of its own, and leaves the list alone. No conditions. -/
import Derived.Test.YtfekamknnmhgpabRows
import Derived.Test.YtfekamknnmhgpabLaw
import Derived.Test.YtfekamknnmhgpabPlaces
import Derived.Test.YtfekamknnmhgpabMarks
import Derived.Test.YtfekamknnmhgpabOpenS
namespace Go.Proofs.Ytfekamknnmhgpab.keysOfLayout
open Go.ChangeShapes Go.WideShapes Go.ChangeAt Go.RowKit
open Go.ChangeMaps (open_string shut_string)

def okB (ss : List ByteArray) (s : ByteArray) : Bool := layB ss && isW s
def kL (ss : List ByteArray) (l : List UInt8) : List Int := l.map fun c => (kf ss c : Int)
def kV (ss : List ByteArray) (s : ByteArray) : List Int := if okB ss s then kL ss s.data.toList else []
theorem okB_l {ss : List ByteArray} {s : ByteArray} (h : layB ss = false) : okB ss s = false := by unfold okB; simp [h]
theorem okB_w {ss : List ByteArray} {s : ByteArray} (h : isW s = false) : okB ss s = false := by unfold okB; simp [h]
theorem okB_yes {ss : List ByteArray} {s : ByteArray} (h : layB ss = true) (h2 : isW s = true) : okB ss s = true := by unfold okB; simp [h, h2]
theorem kV_no {ss : List ByteArray} {s : ByteArray} (h : okB ss s = false) : kV ss s = [] := by unfold kV; simp [h]
theorem kV_yes {ss : List ByteArray} {s : ByteArray} (h : okB ss s = true) : kV ss s = kL ss s.data.toList := by unfold kV; simp [h]
theorem kV_len (ss : List ByteArray) (s : ByteArray) : (kV ss s).length ≤ 40 := by
  unfold kV
  split
  · rename_i h
    unfold okB at h
    simp only [Bool.and_eq_true] at h
    have := wsize h.2
    unfold kL
    rw [List.length_map]
    have h3 : s.data.toList.length = s.size := by simp
    omega
  · simp
theorem kL_snoc (ss : List ByteArray) (l : List UInt8) (c : UInt8) : kL ss (l ++ [c]) = kL ss l ++ [(kf ss c : Int)] := by simp [kL]
theorem info_int : (Try.prog.info? 3).map (fun i => (i.zero, i.size, i.bytes)) = some (some (.int .i64 0), 1, 8) := by kernel_rfl
theorem ret_vb {v : Value} {b b' : Bool} (h : b = b') : Ending.returned (.tuple #[v, .bool b]) = .returned (.tuple #[v, .bool b']) := by rw [h]
/-- An answer: a list of the call's own with these numbers, and whether there is one. -/
def ResI (zs : List Int) (ok : Bool) (w : World) (e : Ending) (w' : World) : Prop := ∃ v, e = .returned (.tuple #[v, .bool ok]) ∧ RowI w.heap.size w' v zs ∧ Ext w w'
theorem RowI.nil (B : Nat) (w : World) : RowI B w (.slice none 0 0) [] := World.ownsRow_nil _ _ _ _
theorem oneI (x : Int) : ∀ u ∈ [Value.int .i64 x], u.oneCell' = true := by intro u hu; simp at hu; subst hu; rfl
theorem own_lt {B : Nat} {w : World} {v : Value} {zs : List Int} (h : RowI B w v zs) (j : Nat) (hj : v.ownBlock = some j) : B ≤ j := by
  rcases h.own with h0 | ⟨g, h0, h1, _⟩
  · rw [h0] at hj; cases hj
  · rw [h0] at hj; cases hj; exact h1

set_option maxHeartbeats 2000000 in
theorem spec_any (v : Value) (ss : List ByteArray) (s : ByteArray) (w : World) (h : Strs w v ss) (hs : s.size ≤ maxLen) (hn : ss.length ≤ 1048576) (hb : sumLen ss ≤ 1048576) : Calls Try.prog 14 #[v, .string s] w (ResI (kV ss s) (okB ss s) w) := by
  have HS := Lib.hid h
  clear h
  cases hl : layB ss
  · have H := Lib.hid (okB_l (s := s) hl)
    go_enter Try.func14, Try.ntmps14
    go_wp2_with (go_at_call 23; refine (prLayout_any _ _ _ HS.out hb).mono ?_; rintro e w1 ⟨rfl, x1⟩)
    go_ret2
    exact ⟨_, ret_vb H.out.symm, by rw [kV_no H.out]; exact RowI.nil _ _, x1⟩
  cases hw : isW s
  · have H := Lib.hid (okB_w (ss := ss) hw)
    go_enter Try.func14, Try.ntmps14
    go_wp2_with (first | (go_at_call 23; refine (prLayout_any _ _ _ HS.out hb).mono ?_; rintro e w1 ⟨rfl, x1⟩) | (go_at_call 25; refine (prW_any _ _ hs).mono ?_; rintro e w' ⟨rfl, rfl⟩))
    go_ret2
    exact ⟨_, ret_vb H.out.symm, by rw [kV_no H.out]; exact RowI.nil _ _, x1⟩
  obtain ⟨hz1, hz2⟩ := wsize hw
  have H := Lib.hid (okB_yes hl hw)
  have HL := Lib.hid (And.intro hl hw)
  obtain ⟨i0, hi, hz0, hzs, hzb⟩ := info_parts info_int
  have HI := Lib.hid (show Try.prog.info? 3 = some i0 ∧ i0.zero = some (.int .i64 0) ∧ i0.size = 1 ∧ i0.bytes = 8 from ⟨hi, hz0, hzs, hzb⟩)
  clear hi hz0 hzs hzb
  go_enter Try.func14, Try.ntmps14
  go_wp2_with (first | (go_at_call 23; refine (prLayout_any _ _ _ HS.out hb).mono ?_; rintro e w1 ⟨rfl, x1⟩) | (go_at_call 25; refine (prW_any _ _ hs).mono ?_; rintro e w' ⟨rfl, rfl⟩))
  clear hl hw
  go_loopw [6, 7] (fun o i wr => ∃ k : Nat, k ≤ s.size ∧ i = .int .i64 k ∧ RowI w.heap.size wr o (kL ss (s.data.toList.take k)) ∧ Ext w wr) (fun _ i _ => s.size - (intOf i).toNat)
  case atStart => exact ⟨0, Nat.zero_le _, rfl, RowI.nil _ _, x1⟩
  case round =>
    skip
    obtain ⟨k, hk, rfl, hown, hx⟩ := hrel
    have HO := Lib.hid hown
    clear hown
    by_cases hlt : k < s.size
    · have HK := Lib.hid (kf_lt HL.out.1 s[k] (wget HL.out.2 k hlt))
      have HN := Lib.hid (kL_snoc ss (s.data.toList.take k) s[k])
      have HT := Lib.hid (wtake s k hlt)
      have hlen : (kL ss (s.data.toList.take k)).length ≤ 40 := by unfold kL; rw [List.length_map]; have : (s.data.toList.take k).length ≤ k := List.length_take_le _ _; omega
      go_wp2_with (first | (go_at_call 26; refine (prPlace_any _ _ _ _ (HS.out.ext hx) hn hb HK.out).mono ?_; rintro e w' ⟨rfl, rfl⟩) | (at_builtin; refine wpList_append_own _ rfl (.tmp 32) (.tmp 34) 30 rfl w.heap.size 3 i0 (.int .i64 0) 1 8 Try.underlying30 HI.out.1 HI.out.2.1 HI.out.2.2.1 HI.out.2.2.2 rfl (by decide) _ _ _ rfl (World.ownsRow.alloc HO.out _) ⟨wr.heap.size, 0, none⟩ 1 1 [.int .i64 (kf ss s[k] : Int)] rfl rfl (cell_one_new _ _ _) (oneI _) (by unfold maxLen; omega) (by omega) (by have := hx.size; simp; omega) ?_; intro v' w5 hown' hgr' _))
      have R : RowI w.heap.size w5 v' (kL ss (s.data.toList.take (k + 1))) := by
        rw [HT.out, HN.out]
        unfold RowI
        rw [List.length_append, List.map_append]
        exact hown'
      have X : Ext w w5 := ext_grown (hx.alloc _) hgr' (fun j hj => own_lt HO.out j hj)
      clear hown' hgr'
      go_wp2
      go_roundw
      case rel => exact ⟨k + 1, by omega, by go_num, R, X⟩
      case measure => simp [intOf]; omega
    · have HT := Lib.hid (wall s k (by omega))
      go_wp2
      go_ret2
      exact ⟨_, ret_vb H.out.symm, by rw [kV_yes H.out, ← HT.out]; exact HO.out, hx⟩

set_option maxHeartbeats 2000000 in
theorem impl_any (v : Value) (ss : List ByteArray) (s : ByteArray) (w : World) (h : Strs w v ss) (hs : s.size ≤ maxLen) (hn : ss.length ≤ 1048576) (hb : sumLen ss ≤ 1048576) : Calls Try.prog 15 #[v, .string s] w (ResI (kV ss s) (okB ss s) w) := by
  have HS := Lib.hid h
  clear h
  cases hl : layB ss
  · have H := Lib.hid (okB_l (s := s) hl)
    go_enter Try.func15, Try.ntmps15
    go_wp2_with (go_at_call 10; refine (impLayout_any _ _ _ HS.out hb).mono ?_; rintro e w1 ⟨rfl, x1⟩)
    go_ret2
    exact ⟨_, ret_vb H.out.symm, by rw [kV_no H.out]; exact RowI.nil _ _, x1⟩
  cases hw : isW s
  · have H := Lib.hid (okB_w (ss := ss) hw)
    go_enter Try.func15, Try.ntmps15
    go_wp2_with (first | (go_at_call 10; refine (impLayout_any _ _ _ HS.out hb).mono ?_; rintro e w1 ⟨rfl, x1⟩) | (go_at_call 27; refine (isW_any _ _ hs).mono ?_; rintro e w' ⟨rfl, rfl⟩))
    go_ret2
    exact ⟨_, ret_vb H.out.symm, by rw [kV_no H.out]; exact RowI.nil _ _, x1⟩
  obtain ⟨hz1, hz2⟩ := wsize hw
  have H := Lib.hid (okB_yes hl hw)
  have HL := Lib.hid (And.intro hl hw)
  obtain ⟨i0, hi, hz0, hzs, hzb⟩ := info_parts info_int
  have HI := Lib.hid (show Try.prog.info? 3 = some i0 ∧ i0.zero = some (.int .i64 0) ∧ i0.size = 1 ∧ i0.bytes = 8 from ⟨hi, hz0, hzs, hzb⟩)
  clear hi hz0 hzs hzb
  go_enter Try.func15, Try.ntmps15
  go_wp2_with (first | (go_at_call 10; refine (impLayout_any _ _ _ HS.out hb).mono ?_; rintro e w1 ⟨rfl, x1⟩) | (go_at_call 27; refine (isW_any _ _ hs).mono ?_; rintro e w' ⟨rfl, rfl⟩) | (at_make; refine wpList_make_full _ rfl _ _ 30 rfl w1.heap.size 3 i0 (.int .i64 0) 1 Try.underlying30 HI.out.1 HI.out.2.1 HI.out.2.2.1 .i64 .i64 _ _ s.size rfl rfl rfl rfl (by rw [HI.out.2.2.2]; omega) (by unfold maxLen; omega) (Nat.le_refl _) ?_; intro w2 hown hgr))
  clear hl hw
  have X1 : Ext w w2 := ext_grown x1 hgr (by intro k hk; cases hk)
  obtain ⟨xs1, hxs1⟩ : ∃ xs, xs = (madeCells (Value.int IntKind.i64 0).cells (s.size * 1)).toList := ⟨_, rfl⟩
  rw [← hxs1] at hown
  clear hxs1 hgr
  go_loopw [21] (fun i wr => ∃ k : Nat, k ≤ s.size ∧ i = .int .i64 k ∧ ∃ xs : List Value, wr.ownsRow w.heap.size 3 1 (.slice (some ⟨w1.heap.size, 0, none⟩) s.size s.size) s.size xs ∧ (∀ j (hj : j < s.size), j < k → xs[j]? = some (.int .i64 (kf ss s[j] : Int))) ∧ Ext w wr) (fun i _ => s.size - (intOf i).toNat)
  case atStart => exact ⟨0, Nat.zero_le _, rfl, xs1, ⟨hown.1, hown.2.imp id fun ⟨g, c, cur, a1, a2, a3⟩ => ⟨g, c, cur, a1, Nat.le_trans x1.size a2, a3⟩⟩, fun j _ h => absurd h (by omega), X1⟩
  case round =>
    obtain ⟨k, hk, rfl, xs, hown, hxs, hx⟩ := hrel
    have HO := Lib.hid hown
    have HX := Lib.hid hxs
    clear hown hxs
    by_cases hlt : k < s.size
    · have HK := Lib.hid (kf_lt HL.out.1 s[k] (wget HL.out.2 k hlt))
      have hlen : xs.length = s.size := by have := HO.out.1; omega
      obtain ⟨u, hu⟩ : ∃ u, xs[k]? = some u := ⟨xs[k]'(by omega), List.getElem?_eq_getElem _⟩
      have HU := Lib.hid hu
      clear hu hlen
      have hc3 := (HO.out.cellAt k (by omega)).trans HU.out
      have hf3 := HO.out.frozenAt k
      go_wp2_with (go_at_call 28; refine (keyIn_any _ _ _ _ (HS.out.ext hx) hn HK.out).mono ?_; rintro e w' ⟨rfl, rfl⟩)
      have O3 := HO.out.stored k (.int .i64 (kf ss s[k] : Int))
      go_roundw
      case rel =>
        refine ⟨k + 1, by omega, by go_num, xs.set k (.int .i64 (kf ss s[k] : Int)), O3.1, ?_, hx.setCell x1.size _⟩
        intro j hj hjk
        by_cases e : j = k
        · subst e
          rw [List.getElem?_set_self (by have := HO.out.1; omega)]
        · rw [List.getElem?_set_ne (by omega)]
          exact HX.out j hj (by omega)
      case measure => simp [intOf]; omega
    · obtain hk' : k = s.size := by omega
      have HR := Lib.hid (show RowI w.heap.size wr (.slice (some ⟨w1.heap.size, 0, none⟩) s.size s.size) (kV ss s) from by
        have e1 : (kV ss s).length = s.size := by rw [kV_yes H.out]; simp [kL]
        have e2 : (kV ss s).map (Value.int .i64) = xs := by
          apply List.ext_getElem?
          intro j
          by_cases hj : j < s.size
          · rw [HX.out j hj (by omega), kV_yes H.out]
            simp [kL, hj]
            rfl
          · rw [List.getElem?_eq_none (by rw [List.length_map, e1]; omega), List.getElem?_eq_none (by have := HO.out.1; omega)]
        unfold RowI
        rw [e1, e2]
        exact HO.out)
      clear hk'
      go_wp2
      go_ret2
      exact ⟨_, ret_vb H.out.symm, HR.out, hx⟩

theorem rowKept {B : Nat} {w w' : World} {v : Value} {zs : List Int} {row : Option Nat} (h : RowI B w v zs) (hg : w.grownBy w' row) (hne : v.ownBlock = none ∨ v.ownBlock ≠ row) : RowI B w' v zs := World.ownsRow.kept h hg hne
theorem rowApart {B : Nat} {w : World} {v : Value} {zs : List Int} (h : RowI B w v zs) (g : Nat) (hd : g < B ∨ w.heap.size ≤ g) : v.ownBlock = none ∨ v.ownBlock ≠ some g := by
  rcases h.own with h0 | ⟨g', h0, h1, h2⟩
  · exact .inl h0
  · refine .inr ?_
    rw [h0]
    intro e
    injection e with e
    omega
theorem rowApart2 {B B2 : Nat} {w w2 : World} {v u : Value} {zs ys : List Int} (h : RowI B w v zs) (h2 : RowI B2 w2 u ys) (hd : w.heap.size ≤ B2) : v.ownBlock = none ∨ v.ownBlock ≠ u.ownBlock := by
  rcases h2.own with h0 | ⟨g', h0, h1, _⟩
  · rw [h0]
    cases hv : v.ownBlock
    · exact .inl rfl
    · exact .inr (by intro e; cases e)
  · rw [h0]
    exact rowApart h g' (.inr (Nat.le_trans hd h1))
theorem own_lt2 {B : Nat} {w : World} {v : Value} {zs : List Int} (h : RowI B w v zs) : ∀ j, v.ownBlock = some j → B ≤ j := fun j hj => own_lt h j hj

set_option maxHeartbeats 2000000 in
theorem walk (w : World) (v : Value) (ss : List ByteArray) (h : Strs w v ss) (s : ByteArray) (hs : s.size ≤ maxLen) : Calls Try.prog 5 #[v, .string s] w fun e w' => e = .returned (.bool true) ∧ Ext w w' := by
  have H := Lib.hid h
  have h63 : s.size ≤ 9223372036854775807 := hs
  have hzl := kV_len ss s
  clear h
  by_cases hbig : 1048576 < s.size
  · go_enter Try.func5, Try.ntmps5
    go_wp2
    go_ret
    exact ⟨rfl, Ext.refl _⟩
  go_enter Try.func5, Try.ntmps5
  go_wp2_with (first | (go_at_call 7; refine (szS_any _ _ _ H.out).mono ?_; rintro e w' ⟨r, hr, rfl, rfl⟩))
  · go_ret
    exact ⟨rfl, Ext.refl _⟩
  · have hf := hr (by assumption)
    obtain ⟨hn, hb⟩ := hf
    clear hr
    refine (toS_any _ _ _ H.out hn).mono ?_
    rintro e w1 ⟨u1, rfl, hu1, x1, _⟩
    have H1 := Lib.hid hu1
    clear hu1
    go_wp2_with fail
    refine (spec_any _ _ _ _ H1.out hs hn hb).mono ?_
    rintro e w2 ⟨v0, rfl, r0, x2⟩
    have R0 := Lib.hid r0
    clear r0
    go_wp2_with fail
    refine (toS_any _ _ _ (H.out.ext (x1.trans x2)) hn).mono ?_
    rintro e w3 ⟨u3, rfl, hu3, x3, gx, cx, rfl, hgx, hox⟩
    have H3 := Lib.hid hu3
    have HO := Lib.hid hox
    have hg3 : gx < w3.heap.size := by
      rcases hox.2 with ⟨h3, _⟩ | ⟨g', c, cur, h3, _, hg, _⟩
      · cases h3
      · cases h3
        rcases Nat.lt_or_ge gx w3.heap.size with k | k
        · exact k
        · rw [Array.getElem?_eq_none k] at hg; cases hg
    clear hu3 hox
    go_wp2_with fail
    refine (impl_any _ _ _ _ H3.out hs hn hb).mono ?_
    rintro e w4 ⟨g0, rfl, r4, x4⟩
    have R4 := Lib.hid r4
    clear r4
    go_wp2_with fail
    refine (eqI_any _ _ _ _ _ _ R4.out (R0.out.ext (x3.trans x4)) (by omega)).mono ?_
    rintro e w5 ⟨rfl, x5⟩
    go_wp2_with fail
    refine (toS_any _ _ _ (H.out.ext ((((x1.trans x2).trans x3).trans x4).trans x5)) hn).mono ?_
    rintro e w6 ⟨u6, rfl, hu6, x6, _⟩
    have H6 := Lib.hid hu6
    clear hu6
    go_wp2_with fail
    refine (eqS_any _ _ _ _ (H3.out.ext ((x4.trans x5).trans x6)) H6.out hn).mono ?_
    rintro e w7 ⟨rfl, x7⟩
    have X37 : Ext w3 w7 := ((x4.trans x5).trans x6).trans x7
    have X7 : Ext w w7 := ((x1.trans x2).trans x3).trans X37
    go_wp2_with fail
    refine (markS_any _ _ _ gx _ _ _ rfl (row_ext HO.out X37) hn).mono ?_
    rintro e w8 ⟨rfl, hg8⟩
    have X8 : Ext w w8 := ext_grown X7 hg8 (fun j hj => by cases hj; exact Nat.le_trans (x1.trans x2).size hgx)
    have R8 := Lib.hid (rowKept (R0.out.ext (x3.trans X37)) hg8 (rowApart R0.out gx (.inr hgx)))
    have G8 := Lib.hid (rowKept (R4.out.ext ((x5.trans x6).trans x7)) hg8 (rowApart R4.out gx (.inl hg3)))
    clear hg8
    go_wp2_with fail
    refine (eqI_any _ _ _ _ _ _ G8.out R8.out (by omega)).mono ?_
    rintro e w9 ⟨rfl, x9⟩
    have X9 : Ext w w9 := X8.trans x9
    go_wp2_with fail
    refine (markI_any _ _ _ _ (G8.out.ext x9) (by omega)).mono ?_
    rintro e w10 ⟨rfl, m10, hg10⟩
    have M10 := Lib.hid m10
    have X10 : Ext w w10 := ext_grown X9 hg10 (fun j hj => Nat.le_trans ((x1.trans x2).trans x3).size (own_lt R4.out j hj))
    have R10 := Lib.hid (rowKept (R8.out.ext x9) hg10 (rowApart2 R0.out R4.out x3.size))
    clear m10 hg10
    go_wp2_with fail
    refine (heldI_any _ _ _ _ M10.out (by omega)).mono ?_
    rintro e w' ⟨rfl, rfl⟩
    go_wp2_with fail
    refine (toS_any _ _ _ (H.out.ext X10) hn).mono ?_
    rintro e w11 ⟨u11, rfl, hu11, x11, _⟩
    have H11 := Lib.hid hu11
    clear hu11
    go_wp2_with fail
    refine (impl_any _ _ _ _ H11.out hs hn hb).mono ?_
    rintro e w12 ⟨h0, rfl, r12, x12⟩
    have R12 := Lib.hid r12
    clear r12
    go_wp2_with fail
    refine (eqI_any _ _ _ _ _ _ R12.out (R10.out.ext (x11.trans x12)) (by omega)).mono ?_
    rintro e w13 ⟨rfl, x13⟩
    go_wp2_with fail
    refine (heldI_any _ _ _ _ (M10.out.ext ((x11.trans x12).trans x13)) (by omega)).mono ?_
    rintro e w' ⟨rfl, rfl⟩
    go_wp2_with fail
    go_ret
    exact ⟨rfl, ((X10.trans x11).trans x12).trans x13⟩

theorem contract (H : Type) (enc : TypeId × Value → H) (W : World) (base : Nat) (args : Array Value) (ds gs : List (DataW H)) (before : List MemPlace)
    (hval : ∀ (j : Nat) t v, Try.f5.params[j]? = some t → args[j]? = some v → Value.okWide Try.prog W .any base t v)
    (hW : DataW.Whole enc Try.prog Try.f5.params.toList Rows.fnExactKeysOfLayoutSpec.vars false W args.toList ds gs before) :
    Calls Try.prog 5 args W fun e W' => ∃ v, e = .returned v ∧ Rows.fnExactKeysOfLayoutSpec.post enc Try.prog Try.f5 false true false false W args v W' := by
  have hW' := hW
  obtain ⟨p, q, hA0, hV, rfl, hfz, hnd⟩ := hW
  have hA : DataW.TrodAll enc Try.prog W 0 (fun _ => true) true Try.f5.params.toList args.toList ds p := hA0
  rw [Try.params5] at hA hval
  obtain ⟨v0, vs0, d0, ds0, p0, q0, hargs0, rfl, rfl, h0, r0⟩ := trodAll_cons hA
  obtain ⟨v1, vs1, d1, ds1, p1, q1, hargs1, rfl, rfl, h1, r1⟩ := trodAll_cons r0
  obtain ⟨rfl, rfl, rfl⟩ := trodAll_nil r1
  subst hargs1
  obtain rfl : args = #[v0, v1] := Array.toList_inj.1 hargs0
  obtain ⟨s0, z0⟩ := strs_of (hval 0 22 v0 rfl rfl) h0
  obtain ⟨s1, rfl, rfl, rfl, z1⟩ := open_string Try.underlying9 (hval 1 9 v1 rfl rfl) h1
  clear hA0
  refine (walk W v0 s0 z0 s1 z1).mono fun e W' ⟨he, hx⟩ => ?_
  subst he
  exact ⟨_, rfl, post_true (tb := 4) laidOut (by rw [Try.params5]; intro t ht; simp at ht; rcases ht with rfl | rfl <;> exact ⟨by kernel_rfl, of_decide_eq_true (by kernel_rfl)⟩) (by kernel_rfl) hW' hx (by obtain ⟨rfl, rfl⟩ := trodVars_none hV; rfl) rfl Try.underlying4⟩

set_option maxRecDepth 100000 in
theorem lifted (os : Os) (started : os.Started) (H : Type) (enc : TypeId × Value → H) :
    ReturnsInHanded {} Try.checked os 5 .any (Rows.fnExactKeysOfLayoutSpec.pre6 enc Try.prog Try.f5 Rows.fnExactKeysOfLayoutRow.domain false) (Rows.fnExactKeysOfLayoutSpec.post enc Try.prog Try.f5 false true false false) := by
  refine returnsInHanded_of_change (C := Try.checked) own started (by kernel_rfl) Try.func5
    (ChangeSpec.witness6 (enc := enc) (C := Try.checked) false ⟨#[], #[.slice none 0 0, .string ByteArray.empty], []⟩ 8 (by kernel_rfl) (by kernel_rfl) (by kernel_rfl) (by kernel_rfl)) ?_
  intro W base args ds gs before hval hW _ _
  exact contract H enc W base args ds gs before hval hW

theorem said : Rows.FnExactKeysOfLayoutSaid :=
  OpenClaim.holds_of_wide 5 Try.f5 rfl rfl rfl rfl rfl rfl rfl ⟨rfl, rfl, rfl, rfl, rfl⟩ rfl rfl rfl rfl rfl (by kernel_rfl) Try.func5 (by kernel_rfl)
    (of_decide_eq_true (by kernel_rfl)) (by unfold Func.isWrapper; first | (rw [if_pos (by decide +kernel)]; kernel_rfl) | (rw [if_neg (by decide +kernel)]; exact ⟨rfl, rfl⟩))
    (fun os started H enc _ => lifted os started H enc)
end Go.Proofs.Ytfekamknnmhgpab.keysOfLayout
