/- For every list of texts the program's SharedKeys answers as its model does, in memory of its own, list by list, and leaves the list alone, the pad's table being as the program lays it. -/
import Derived.Test.YtioinihlahnbfaaDoorCards
import Derived.Test.YtioinihlahnbfaaDoorTie
import Derived.Test.YtioinihlahnbfaaDoorTab
import Derived.Test.YtioinihlahnbfaaDoorShare
import Derived.Test.YtioinihlahnbfaaDoorOrder
import Derived.Test.YtioinihlahnbfaaDoorMarks
import Derived.Test.YtioinihlahnbfaaDoorOpenS
namespace Go.Proofs.YtioinihlahnbfaaDoor.sharedKeys
open Go.ChangeShapes Go.WideShapes Go.ChangeAt Go.RowKit
open Go.ChangeMaps (open_string shut_string)

/-- A list behind the others. -/
theorem grow_row {B : Nat} {wr w9 w5 : World} {o v5 u : Value} {L : List (List ByteArray)} {L' : List (List ByteArray)} {U : Nat → Value} {l : List ByteArray} {z : Obj} (h : RowF B wr o L.length U (tl L)) (x9 : Ext wr w9) (ha : RowS wr.heap.size w9 u l) (hu : RowS B w9 u l)
    (own5 : w5.ownsRow B 22 1 v5 (L.length + 1) ((List.range L.length).map U ++ [u])) (gr5 : (w9.alloc z).grownBy w5 o.ownBlock) (hL : L' = L ++ [l]) : RowF B w5 v5 L'.length (fun i => if i = L.length then u else U i) (tl L') := by
  subst hL
  have hz : Ext w9 (w9.alloc z) := (Ext.refl _).alloc _
  have hap : ∀ i, i < L.length → (U i).ownBlock = none ∨ (U i).ownBlock ≠ u.ownBlock := fun i hi => (h.2.1 i hi).apart2 ha (Nat.le_refl _)
  have huo : u.ownBlock = none ∨ u.ownBlock ≠ o.ownBlock := by
    rcases h.1.2 with ⟨rfl, _⟩ | ⟨g, cap, cur, rfl, _, hg, _⟩
    · cases hx : u.ownBlock with
      | none => exact .inl rfl
      | some b => exact .inr (by intro e; cases e)
    · exact ha.apart g (.inl (heap_lt hg))
  have hs : ∀ i, i < L.length → (U i).ownBlock = none ∨ (U i).ownBlock ≠ o.ownBlock := fun i hi => by
    rcases h.outer i hi with h0 | h0
    · rw [h0]
      cases hx : (U i).ownBlock with
      | none => exact .inl rfl
      | some b => exact .inr (by intro e; cases e)
    · exact .inr fun e => h0 e.symm
  have h5 := RowF.snoc (T := tl L) (l := l) own5 (fun i hi => (((h.2.1 i hi).ext x9).ext hz).kept gr5 (hs i hi)) ((hu.ext hz).kept gr5 huo) h.2.2 hap
  rw [List.length_append]
  exact h5.congr fun i hi => tl_snoc L l i hi

set_option maxRecDepth 100000 in
set_option maxHeartbeats 4000000 in
theorem spec_any (v : Value) (ss : List ByteArray) (w : World) (h : Strs w v ss) : Calls Tryd.prog 24 #[v] w (ResSS (shV ss) (dicB ss) w) := by
  have HS := Lib.hid h
  obtain ⟨a, cap, hv, hnil⟩ := h.at
  rw [hv] at HS ⊢
  clear hv hnil h v
  cases hd : dicB ss
  · have H := Lib.hid (shV_no hd)
    go_enter Tryd.func24, Tryd.ntmps24
    go_wp2_with (go_at_call 29; refine (wdGood_any _ _ _ HS.out).mono ?_; rintro e w1 ⟨rfl, x1⟩)
    go_ret2
    exact ⟨_, fun _ => .slice none 0 0, rfl, by rw [H.out]; exact RowF.nil _ _ _ _, x1⟩
  have HD := Lib.hid hd
  obtain ⟨hl1, hl2⟩ := dicB_len hd
  obtain ⟨i0, hi, hz0, hzs, hzb⟩ := info_parts3 info_ls
  have HI := Lib.hid (show Tryd.prog.info? 22 = some i0 ∧ i0.zero = some (.slice none 0 0) ∧ i0.size = 1 ∧ i0.bytes = 24 from ⟨hi, hz0, hzs, hzb⟩)
  clear hi hz0 hzs hzb
  go_enter Tryd.func24, Tryd.ntmps24
  go_wp2_with (go_at_call 29; refine (wdGood_any _ _ _ HS.out).mono ?_; rintro e w1 ⟨rfl, x1⟩)
  clear hd
  go_loopw [4, 13] (fun o i wr => ∃ k : Nat, k ≤ ss.length ∧ i = .int .i64 k ∧ (∃ U, RowF w.heap.size wr o (shUp ss k).length U (tl (shUp ss k))) ∧ Ext w wr) (fun _ i _ => ss.length - (intOf i).toNat)
  case atStart => exact ⟨0, Nat.zero_le _, rfl, ⟨fun _ => .slice none 0 0, RowF.nil _ _ _ _⟩, x1⟩
  case round =>
    obtain ⟨k, hk, rfl, ⟨U, hown⟩, hx⟩ := hrel
    have HO := Lib.hid hown
    clear hown
    by_cases hlt : k < ss.length
    · rcases (HS.out.ext hx).2.2 with ⟨h3, _⟩ | ⟨b, off, cap', h4, hb, hc⟩
      · rw [h3] at hlt; exact absurd hlt (by simp)
      have ha : a = some ⟨b, off, none⟩ := by injection h4
      have e1 := hc k hlt
      have HW := Lib.hid (wdW_isW (dicB_at HD.out k hlt))
      have HZ := Lib.hid (show (keysB ss[k]).size ≤ maxLen by rw [keysB_size]; have := wdW_size (dicB_at HD.out k hlt); unfold maxLen; omega)
      have HG := Lib.hid (show grpL ss k = fors ss (keysB ss[k]) by unfold grpL; rw [wAt_eq hlt])
      obtain ⟨L, hL⟩ : ∃ L, L = (fors ss (keysB ss[k])).length := ⟨_, rfl⟩
      have HL := Lib.hid hL
      have hL12 : L ≤ 12 := by rw [hL]; exact fors_l12 HD.out
      have hn12 : (shUp ss k).length ≤ 12 := by have := shUp_len ss k; omega
      clear hc h4 hb hL
      subst ha
      by_cases h1 : 1 < L
      · have h1i : (1 : Int) < (L : Int) := by omega
        have hLi : (0 : Int) < (L : Int) := by omega
        obtain ⟨f, hf⟩ : ∃ f, f = wAt (fors ss (keysB ss[k])) 0 := ⟨_, rfl⟩
        have HF := Lib.hid (show (fors ss (keysB ss[k]))[0]'(by rw [← HL.out]; omega) = f by rw [hf, wAt_eq])
        have HFF := Lib.hid hf
        clear hf
        by_cases h2 : f = ss[k]
        · have t1 : (f.toList == ss[k].toList) = true := by rw [beqT, decide_eq_true h2]
          have HY := Lib.hid (shUp_yes (grpB_3 (ss := ss) (k := k) (by rw [HG.out, ← HL.out]; exact h1) (by rw [HG.out, ← HFF.out, h2, wAt_eq hlt])))
          clear h2
          go_wp2_with (first | (go_at_call 31; refine (prKeys_any _ _ HW.out).mono ?_; rintro e w' ⟨rfl, rfl⟩) | (go_at_call 37; refine (wdJust_any _ ss _ _ (HS.out.ext hx) HD.out HZ.out).mono ?_; rintro e w9 ⟨v9, rfl, r9, x9⟩; have R9 := Lib.hid r9; clear r9; obtain ⟨a9, cap9, rfl⟩ := R9.out.shape; obtain ⟨g9, rfl, _, _, c9, _⟩ := R9.out.at 0 (by rw [← HL.out]; omega); rw [HF.out] at c9; rw [← HL.out]) | (at_builtin; refine wpList_append_own _ rfl _ _ 37 rfl w.heap.size 22 i0 (.slice none 0 0) 1 24 Tryd.underlying37 HI.out.1 HI.out.2.1 HI.out.2.2.1 HI.out.2.2.2 rfl (by decide) _ _ _ rfl (World.ownsRow.alloc (HO.out.ext x9).1 _) ⟨_, 0, none⟩ 1 1 [.slice (some ⟨g9, 0, none⟩) L cap9] rfl rfl (cell_one_new _ _ _) (oneV rfl) (by unfold maxLen; omega) (by omega) (by have := (hx.trans x9).size; simp; omega) ?_; intro v5 w5 own5 gr5 _))
          have R9w := Lib.hid (show RowS w.heap.size w9 (.slice (some ⟨g9, 0, none⟩) L cap9) (fors ss (keysB ss[k])) from by have := R9.out.down hx.size; rw [← HL.out] at this; exact this)
          have R9a := Lib.hid (show RowS wr.heap.size w9 (.slice (some ⟨g9, 0, none⟩) L cap9) (fors ss (keysB ss[k])) from by have := R9.out; rw [← HL.out] at this; exact this)
          have X5 : Ext w w5 := ext_grown ((hx.trans x9).alloc _) gr5 (fun j hj => HO.out.own_le j hj)
          have RN := Lib.hid (show ∃ U, RowF w.heap.size w5 v5 (shUp ss (k + 1)).length U (tl (shUp ss (k + 1))) from ⟨_, grow_row HO.out x9 R9a.out R9w.out own5 gr5 (HG.out ▸ HY.out)⟩)
          clear own5 gr5
          go_wp2
          go_roundw
          case rel => exact ⟨k + 1, by omega, by go_num, RN.out, X5⟩
          case measure => simp [intOf]; omega
        · have t1 : (f.toList == ss[k].toList) = false := by rw [beqT, decide_eq_false h2]
          have HY := Lib.hid (shUp_no (grpB_2 (ss := ss) (k := k) (by rw [HG.out, ← HFF.out, wAt_eq hlt]; exact h2)))
          clear h2
          go_wp2_with (first | (go_at_call 31; refine (prKeys_any _ _ HW.out).mono ?_; rintro e w' ⟨rfl, rfl⟩) | (go_at_call 37; refine (wdJust_any _ ss _ _ (HS.out.ext hx) HD.out HZ.out).mono ?_; rintro e w9 ⟨v9, rfl, r9, x9⟩; have R9 := Lib.hid r9; clear r9; obtain ⟨a9, cap9, rfl⟩ := R9.out.shape; obtain ⟨g9, rfl, _, _, c9, _⟩ := R9.out.at 0 (by rw [← HL.out]; omega); rw [HF.out] at c9; rw [← HL.out]))
          go_roundw
          case rel => exact ⟨k + 1, by omega, by go_num, ⟨U, by rw [HY.out]; exact HO.out.ext x9⟩, hx.trans x9⟩
          case measure => simp [intOf]; omega
      · have HY := Lib.hid (shUp_no (grpB_1 (ss := ss) (k := k) (by rw [HG.out, ← HL.out]; exact h1)))
        have h1i : ¬ (1 : Int) < (L : Int) := by omega
        clear h1
        go_wp2_with (first | (go_at_call 31; refine (prKeys_any _ _ HW.out).mono ?_; rintro e w' ⟨rfl, rfl⟩) | (go_at_call 37; refine (wdJust_any _ ss _ _ (HS.out.ext hx) HD.out HZ.out).mono ?_; rintro e w9 ⟨v9, rfl, r9, x9⟩; have R9 := Lib.hid r9; clear r9; obtain ⟨a9, cap9, rfl⟩ := R9.out.shape; rw [← HL.out]))
        go_roundw
        case rel => exact ⟨k + 1, by omega, by go_num, ⟨U, by rw [HY.out]; exact HO.out.ext x9⟩, hx.trans x9⟩
        case measure => simp [intOf]; omega
    · obtain rfl : k = ss.length := by omega
      have HV := Lib.hid (shV_yes HD.out)
      go_wp2
      go_ret2
      exact ⟨_, U, rfl, by rw [HV.out]; exact HO.out, hx⟩

/-- The lists so far: each is the map's own list at the keys of a word that is its first. -/
def Firsts (ss : List ByteArray) (G : ByteArray → Value) (k n : Nat) (U : Nat → Value) : Prop := ∀ i, i < n → ∃ q m, okQ q ∧ U i = G q ∧ m < k ∧ wAt (fors ss q) 0 = wAt ss m
theorem Firsts.up {ss : List ByteArray} {G : ByteArray → Value} {k n : Nat} {U : Nat → Value} (h : Firsts ss G k n U) : Firsts ss G (k + 1) n U := fun i hi => by
  obtain ⟨q, m, h1, h2, h3, h4⟩ := h i hi
  exact ⟨q, m, h1, h2, by omega, h4⟩
theorem Firsts.snoc {ss : List ByteArray} {G : ByteArray → Value} {k n : Nat} {U : Nat → Value} (h : Firsts ss G k n U) {q : ByteArray} (hq : okQ q) (hf : wAt (fors ss q) 0 = wAt ss k) : Firsts ss G (k + 1) (n + 1) (fun i => if i = n then G q else U i) := fun i hi => by
  by_cases e : i = n
  · exact ⟨q, k, hq, by simp only [if_pos e], by omega, hf⟩
  · obtain ⟨q', m, h1, h2, h3, h4⟩ := h i (by omega)
    exact ⟨q', m, h1, by simp only [if_neg e]; exact h2, by omega, h4⟩
theorem range_snoc (U : Nat → Value) (u : Value) (n : Nat) : (List.range (n + 1)).map (fun i => if i = n then u else U i) = (List.range n).map U ++ [u] := by
  rw [List.range_succ, List.map_append]
  congr 1
  · refine List.map_congr_left fun i hi => ?_
    rw [if_neg (by have := List.mem_range.1 hi; omega)]
  · simp
/-- The outer list, told apart: its block is new against another world. -/
def Outer (B2 : Nat) (w : World) (v : Value) (n : Nat) (U : Nat → Value) : Prop := w.ownsRow B2 22 1 v n ((List.range n).map U)
theorem row_down {B B' : Nat} {w : World} {e : TypeId} {v : Value} {n : Nat} {xs : List Value} (h : w.ownsRow B e 1 v n xs) (hb : B' ≤ B) : w.ownsRow B' e 1 v n xs :=
  ⟨h.1, h.2.imp id fun ⟨g, c, cur, a1, a2, a3⟩ => ⟨g, c, cur, a1, Nat.le_trans hb a2, a3⟩⟩
theorem grow_kept {Bm nm B B2 : Nat} {ss : List ByteArray} {G : ByteArray → Value} {k : Nat} {w9 w5 : World} {o v5 : Value} {L : List (List ByteArray)} {L' : List (List ByteArray)} {U : Nat → Value} {q : ByteArray} {z : Obj} (hd : dicB ss = true) (hkl : k < ss.length) (hK : KeptG Bm nm w9 ss G) (hB : B ≤ Bm) (hq : okQ q) (hf : wAt (fors ss q) 0 = wAt ss k)
    (h : RowF B w9 o L.length U (tl L)) (hF : Firsts ss G k L.length U)
    (own5 : w5.ownsRow B2 22 1 v5 (L.length + 1) ((List.range L.length).map U ++ [G q])) (hB2 : B ≤ B2) (gr5 : (w9.alloc z).grownBy w5 o.ownBlock) (hL : L' = L ++ [fors ss q]) : Outer B2 w5 v5 L'.length (fun i => if i = L.length then G q else U i) ∧ RowF B w5 v5 L'.length (fun i => if i = L.length then G q else U i) (tl L') ∧ Firsts ss G (k + 1) L'.length (fun i => if i = L.length then G q else U i) := by
  subst hL
  have hz : Ext w9 (w9.alloc z) := (Ext.refl _).alloc _
  have hu : RowS B w9 (G q) (fors ss q) := (hK.row hq).down (by omega)
  have hap : ∀ i, i < L.length → (U i).ownBlock = none ∨ (U i).ownBlock ≠ (G q).ownBlock := fun i hi => by
    obtain ⟨q', m, h1, h2, h3, h4⟩ := hF i hi
    rw [h2]
    refine hK.apart h1 hq fun e => ?_
    subst e
    rw [hf, wAt_eq hkl, wAt_eq (by omega)] at h4
    have := dicB_inj hd k m hkl (by omega) h4
    omega
  have ho : ∀ (u : Value) (l : List ByteArray), RowS B w9 u l → u.ownBlock = none ∨ u.ownBlock ≠ o.ownBlock := fun u l hul => by
    rcases h.1.2 with ⟨rfl, _⟩ | ⟨g, cap, cur, rfl, _, hg, _⟩
    · cases hx : u.ownBlock with
      | none => exact .inl rfl
      | some b => exact .inr (by intro e; cases e)
    · rcases hul.2 with ⟨h0, _⟩ | ⟨g2, cap2, cur2, h0, _, hg2, _⟩
      · rw [h0]; exact .inl rfl
      · refine .inr fun e => ?_
        rw [h0] at e
        have e : g2 = g := by injection e
        subst e
        rw [hg] at hg2
        injection hg2 with hg2
        injection hg2 with _ h2
        exact absurd h2 (by decide)
  have h5 := RowF.snoc (T := tl L) (l := fors ss q) (row_down own5 hB2) (fun i hi => ((h.2.1 i hi).ext hz).kept gr5 (ho _ _ (h.2.1 i hi))) ((hu.ext hz).kept gr5 (ho _ _ hu)) h.2.2 hap
  rw [List.length_append]
  exact ⟨by unfold Outer; rw [show ([fors ss q] : List (List ByteArray)).length = 1 from rfl, range_snoc]; exact own5, h5.congr fun i hi => tl_snoc L _ i hi, hF.snoc hq hf⟩

set_option maxRecDepth 100000 in
set_option maxHeartbeats 4000000 in
theorem impl_any (v : Value) (ss : List ByteArray) (w : World) (h : Strs w v ss) (hp : PadIs w) : Calls Tryd.prog 25 #[v] w (ResSS (shV ss) (dicB ss) w) := by
  have HS := Lib.hid h
  have HP := Lib.hid hp
  obtain ⟨a, cap, hv, hnil⟩ := h.at
  rw [hv] at HS ⊢
  clear hv hnil h v
  cases hd : dicB ss
  · have H := Lib.hid (shV_no hd)
    go_enter Tryd.func25, Tryd.ntmps25
    go_wp2_with (go_at_call 32; refine (dict_any _ _ _ HS.out).mono ?_; rintro e w1 ⟨rfl, x1⟩)
    go_ret2
    exact ⟨_, fun _ => .slice none 0 0, rfl, by rw [H.out]; exact RowF.nil _ _ _ _, x1⟩
  have HD := Lib.hid hd
  obtain ⟨hl1, hl2⟩ := dicB_len hd
  obtain ⟨i0, hi, hz0, hzs, hzb⟩ := info_parts3 info_ls
  have HI := Lib.hid (show Tryd.prog.info? 22 = some i0 ∧ i0.zero = some (.slice none 0 0) ∧ i0.size = 1 ∧ i0.bytes = 24 from ⟨hi, hz0, hzs, hzb⟩)
  clear hi hz0 hzs hzb
  go_enter Tryd.func25, Tryd.ntmps25
  go_wp2_with (first | (go_at_call 32; refine (dict_any _ _ _ HS.out).mono ?_; rintro e w1 ⟨rfl, x1⟩) | (go_at_call 48; refine (keep_any _ _ _ (HS.out.ext x1) HD.out (HP.out.ext x1)).mono ?_; rintro e w2 ⟨rfl, k2, x2⟩; obtain ⟨G, kg2⟩ := k2.named; have KG := Lib.hid kg2; clear k2 kg2))
  clear hd
  have X2 : Ext w w2 := x1.trans x2
  obtain ⟨Bm, hBm⟩ : ∃ Bm, Bm = w1.heap.size := ⟨_, rfl⟩
  have HBm := Lib.hid (show w.heap.size ≤ Bm by rw [hBm]; exact x1.size)
  rw [← hBm] at KG ⊢
  clear hBm
  go_loopw [5, 16] (fun o i wr => ∃ k : Nat, k ≤ ss.length ∧ i = .int .i64 k ∧ (∃ U, Outer w2.heap.size wr o (shUp ss k).length U ∧ RowF w.heap.size wr o (shUp ss k).length U (tl (shUp ss k)) ∧ Firsts ss G k (shUp ss k).length U) ∧ Ext w2 wr) (fun _ i _ => ss.length - (intOf i).toNat)
  case atStart => exact ⟨0, Nat.zero_le _, rfl, ⟨fun _ => .slice none 0 0, World.ownsRow_nil _ _ _ _, RowF.nil _ _ _ _, fun i hi => absurd hi (by simp [shUp])⟩, Ext.refl _⟩
  case round =>
    obtain ⟨k, hk, rfl, ⟨U, hout, hown, hfs⟩, hx⟩ := hrel
    have HOU := Lib.hid hout
    have HO := Lib.hid hown
    have HFS := Lib.hid hfs
    clear hown hfs hout
    by_cases hlt : k < ss.length
    · rcases (HS.out.ext (X2.trans hx)).2.2 with ⟨h3, _⟩ | ⟨b, off, cap', h4, hb, hc⟩
      · rw [h3] at hlt; exact absurd hlt (by simp)
      have ha : a = some ⟨b, off, none⟩ := by injection h4
      have e1 := hc k hlt
      have HW := Lib.hid (wdW_isW (dicB_at HD.out k hlt))
      have HQ := Lib.hid (keysB_ok (s := ss[k]) (by have := wdW_size (dicB_at HD.out k hlt); omega))
      have HG := Lib.hid (show grpL ss k = fors ss (keysB ss[k]) by unfold grpL; rw [wAt_eq hlt])
      obtain ⟨L, hL⟩ : ∃ L, L = (fors ss (keysB ss[k])).length := ⟨_, rfl⟩
      have HL := Lib.hid hL
      have hL12 : L ≤ 12 := by rw [hL]; exact fors_l12 HD.out
      have hn12 : (shUp ss k).length ≤ 12 := by have := shUp_len ss k; omega
      clear hc h4 hb hL
      subst ha
      obtain ⟨u, hu⟩ : ∃ u, u = G (keysB ss[k]) := ⟨_, rfl⟩
      have HU := Lib.hid hu
      obtain ⟨a9, cap9, hsh⟩ := (KG.out.row HQ.out).shape
      rw [← HL.out] at hsh
      by_cases h1 : 1 < L
      · have h1i : (1 : Int) < (L : Int) := by omega
        have hLi : (0 : Int) < (L : Int) := by omega
        obtain ⟨f, hf⟩ : ∃ f, f = wAt (fors ss (keysB ss[k])) 0 := ⟨_, rfl⟩
        have HF := Lib.hid (show (fors ss (keysB ss[k]))[0]'(by rw [← HL.out]; omega) = f by rw [hf, wAt_eq])
        have HFF := Lib.hid hf
        clear hf
        have hrow : RowS (Bm + 1) w2 (.slice a9 L cap9) (fors ss (keysB ss[k])) := hsh ▸ KG.out.row HQ.out
        rw [HL.out] at hrow
        obtain ⟨g9, rfl, _, hg9, c0, _⟩ := hrow.at 0 (by rw [← HL.out]; omega)
        rw [HF.out] at c0
        clear hrow
        have HSH := Lib.hid hsh
        rw [← hu] at hsh
        by_cases h2 : f = ss[k]
        · have t1 : (f.toList == ss[k].toList) = true := by rw [beqT, decide_eq_true h2]
          have HY := Lib.hid (shUp_yes (grpB_3 (ss := ss) (k := k) (by rw [HG.out, ← HL.out]; exact h1) (by rw [HG.out, ← HFF.out, h2, wAt_eq hlt])))
          have HFK := Lib.hid (show wAt (fors ss (keysB ss[k])) 0 = wAt ss k by rw [← HFF.out, h2, wAt_eq hlt])
          clear h2 hu hsh
          go_wp2_with (first | (go_at_call 33; refine (keysL_any _ _ HW.out (HP.out.ext (X2.trans hx))).mono ?_; rintro e w8 ⟨rfl, x8⟩) | (go_at_call 51; refine (withG_any Bm _ ss G (keysB ss[k]) _ (KG.out.ext (hx.trans x8)) HQ.out).mono ?_; rintro e w9 ⟨rfl, x9⟩; rw [HSH.out]; have c9 := (((hx.trans x8).trans x9).cell (p := ⟨g9, 0, none⟩) hg9).trans c0) | (at_builtin; refine wpList_append_own _ rfl _ _ 37 rfl w2.heap.size 22 i0 (.slice none 0 0) 1 24 Tryd.underlying37 HI.out.1 HI.out.2.1 HI.out.2.2.1 HI.out.2.2.2 rfl (by decide) _ _ _ rfl (World.ownsRow.alloc (row_ext HOU.out (x8.trans x9)) _) ⟨_, 0, none⟩ 1 1 [.slice (some ⟨g9, 0, none⟩) L cap9] rfl rfl (cell_one_new _ _ _) (oneV rfl) (by unfold maxLen; omega) (by omega) (by have := ((hx.trans x8).trans x9).size; simp; omega) ?_; intro v5 w5 own5 gr5 _))
          have X9 : Ext w2 w9 := (hx.trans x8).trans x9
          have X5 : Ext w2 w5 := ext_grown (X9.alloc _) gr5 (fun j hj => (World.ownsRow.lt HOU.out j hj).1)
          have RN := Lib.hid (show ∃ U, Outer w2.heap.size w5 v5 (shUp ss (k + 1)).length U ∧ RowF w.heap.size w5 v5 (shUp ss (k + 1)).length U (tl (shUp ss (k + 1))) ∧ Firsts ss G (k + 1) (shUp ss (k + 1)).length U from ⟨_, grow_kept HD.out hlt (KG.out.ext X9) HBm.out HQ.out HFK.out (HO.out.ext (x8.trans x9)) HFS.out (by rw [HSH.out]; exact own5) X2.size gr5 (HG.out ▸ HY.out)⟩)
          clear own5 gr5
          go_wp2
          go_roundw
          case rel => exact ⟨k + 1, by omega, by go_num, RN.out, X5⟩
          case measure => simp [intOf]; omega
        · have t1 : (f.toList == ss[k].toList) = false := by rw [beqT, decide_eq_false h2]
          have HY := Lib.hid (shUp_no (grpB_2 (ss := ss) (k := k) (by rw [HG.out, ← HFF.out, wAt_eq hlt]; exact h2)))
          clear h2 hu hsh
          go_wp2_with (first | (go_at_call 33; refine (keysL_any _ _ HW.out (HP.out.ext (X2.trans hx))).mono ?_; rintro e w8 ⟨rfl, x8⟩) | (go_at_call 51; refine (withG_any Bm _ ss G (keysB ss[k]) _ (KG.out.ext (hx.trans x8)) HQ.out).mono ?_; rintro e w9 ⟨rfl, x9⟩; rw [HSH.out]; have c9 := (((hx.trans x8).trans x9).cell (p := ⟨g9, 0, none⟩) hg9).trans c0))
          go_roundw
          case rel => exact ⟨k + 1, by omega, by go_num, ⟨U, by rw [HY.out]; exact row_ext HOU.out (x8.trans x9), by rw [HY.out]; exact HO.out.ext (x8.trans x9), by rw [HY.out]; exact HFS.out.up⟩, (hx.trans x8).trans x9⟩
          case measure => simp [intOf]; omega
      · have HY := Lib.hid (shUp_no (grpB_1 (ss := ss) (k := k) (by rw [HG.out, ← HL.out]; exact h1)))
        have h1i : ¬ (1 : Int) < (L : Int) := by omega
        have HSH := Lib.hid hsh
        clear h1 hu hsh
        go_wp2_with (first | (go_at_call 33; refine (keysL_any _ _ HW.out (HP.out.ext (X2.trans hx))).mono ?_; rintro e w8 ⟨rfl, x8⟩) | (go_at_call 51; refine (withG_any Bm _ ss G (keysB ss[k]) _ (KG.out.ext (hx.trans x8)) HQ.out).mono ?_; rintro e w9 ⟨rfl, x9⟩; rw [HSH.out]))
        go_roundw
        case rel => exact ⟨k + 1, by omega, by go_num, ⟨U, by rw [HY.out]; exact row_ext HOU.out (x8.trans x9), by rw [HY.out]; exact HO.out.ext (x8.trans x9), by rw [HY.out]; exact HFS.out.up⟩, (hx.trans x8).trans x9⟩
        case measure => simp [intOf]; omega
    · obtain rfl : k = ss.length := by omega
      have HV := Lib.hid (shV_yes HD.out)
      go_wp2
      go_ret2
      exact ⟨_, U, rfl, by rw [HV.out]; exact HO.out, X2.trans hx⟩

set_option maxHeartbeats 4000000 in
theorem walk (w : World) (v : Value) (ss : List ByteArray) (h : Strs w v ss) (hp : PadIs w) : Calls Tryd.prog 8 #[v] w fun e w' => e = .returned (.bool true) ∧ Ext w w' := by
  have H := Lib.hid h
  clear h
  have hzl : (shV ss).length ≤ 1048576 := Nat.le_trans (shV_len ss) (by omega)
  have hzm := Lib.hid (fun i hi => (⟨Nat.le_trans (shV_at ss i hi).1 (by omega), (shV_at ss i hi).2⟩ : (tl (shV ss) i).length ≤ 1048576 ∧ ∀ t ∈ tl (shV ss) i, t.size ≤ maxLen))
  have hzt := Lib.hid (shV_tot ss)
  obtain ⟨zs, hzs⟩ : ∃ zs, zs = shV ss := ⟨_, rfl⟩
  have HZ := Lib.hid hzs
  rw [← hzs] at hzl hzm hzt
  clear hzs
  go_enter Tryd.func8, Tryd.ntmps8
  go_wp2_with (first | (go_at_call 9; refine (szS_any _ _ _ H.out).mono ?_; rintro e w' ⟨r, hr, rfl, rfl⟩))
  · go_ret
    exact ⟨rfl, Ext.refl _⟩
  · have hf := hr (by assumption)
    obtain ⟨hn, hb⟩ := hf
    clear hr
    refine (toS_any _ _ _ (H.out) hn).mono ?_
    rintro e w1 ⟨u1, rfl, hu1, x1, gx1, cx1, rfl, hgx1, hox1⟩
    have H1 := Lib.hid hu1
    have O1 := Lib.hid hox1
    have hg1 : gx1 < w1.heap.size := by
      rcases hox1.2 with ⟨h3, _⟩ | ⟨g', c, cur, h3, _, hg, _⟩
      · cases h3
      · cases h3
        exact heap_lt hg
    clear hu1 hox1
    have X1 : Ext w w1 := x1
    go_wp2_with fail
    refine (spec_any _ _ _ H1.out).mono ?_
    rintro e w2 ⟨g2, U2, rfl, r2, x2⟩
    rw [← HZ.out] at r2
    have R2 := Lib.hid r2
    clear r2
    have X2 : Ext w w2 := X1.trans x2
    go_wp2_with fail
    refine (toS_any _ _ _ (H.out.ext X2) hn).mono ?_
    rintro e w3 ⟨u3, rfl, hu3, x3, gx3, cx3, rfl, hgx3, hox3⟩
    have H3 := Lib.hid hu3
    have O3 := Lib.hid hox3
    have hg3 : gx3 < w3.heap.size := by
      rcases hox3.2 with ⟨h3, _⟩ | ⟨g', c, cur, h3, _, hg, _⟩
      · cases h3
      · cases h3
        exact heap_lt hg
    clear hu3 hox3
    have X3 : Ext w w3 := X2.trans x3
    go_wp2_with fail
    refine (impl_any _ _ _ H3.out (hp.ext X3)).mono ?_
    rintro e w4 ⟨g4, U4, rfl, r4, x4⟩
    rw [← HZ.out] at r4
    have R4 := Lib.hid r4
    clear r4
    have X4 : Ext w w4 := X3.trans x4
    go_wp2_with fail
    refine (eqF_any _ _ _ _ _ _ _ _ _ R4.out (R2.out.ext (x3.trans x4)) hzl hzm.out).mono ?_
    rintro e w5 ⟨rfl, x5⟩
    have X5 : Ext w w5 := X4.trans x5
    go_wp2_with fail
    refine (toS_any _ _ _ (H.out.ext X5) hn).mono ?_
    rintro e w6 ⟨u6, rfl, hu6, x6, gx6, cx6, rfl, hgx6, hox6⟩
    have H6 := Lib.hid hu6
    have O6 := Lib.hid hox6
    have hg6 : gx6 < w6.heap.size := by
      rcases hox6.2 with ⟨h3, _⟩ | ⟨g', c, cur, h3, _, hg, _⟩
      · cases h3
      · cases h3
        exact heap_lt hg
    clear hu6 hox6
    have X6 : Ext w w6 := X5.trans x6
    go_wp2_with fail
    refine (eqS_any _ _ _ _ (H3.out.ext ((x4.trans x5).trans x6)) (H6.out) hn).mono ?_
    rintro e w7 ⟨rfl, x7⟩
    have X7 : Ext w w7 := X6.trans x7
    go_wp2_with fail
    refine (markS_any _ _ _ gx3 _ _ _ rfl (row_ext O3.out (((x4.trans x5).trans x6).trans x7)) hn).mono ?_
    rintro e w8 ⟨rfl, hg8⟩
    have X8 : Ext w w8 := ext_grown X7 hg8 (fun j hj => by cases hj; exact Nat.le_trans X2.size hgx3)
    have S8 := Lib.hid (RowF.kept R2.out (R2.out.ext ((((x3.trans x4).trans x5).trans x6).trans x7)) hg8 (.inr hgx3))
    have G8 := Lib.hid (RowF.kept R4.out (R4.out.ext ((x5.trans x6).trans x7)) hg8 (.inl hg3))
    clear hg8
    go_wp2_with fail
    refine (eqF_any _ _ _ _ _ _ _ _ _ G8.out S8.out hzl hzm.out).mono ?_
    rintro e w9 ⟨rfl, x9⟩
    have X9 : Ext w w9 := X8.trans x9
    go_wp2_with fail
    refine (markF_any _ _ _ _ _ _ (G8.out.ext x9) hzl hzt.out).mono ?_
    rintro e w10 ⟨rfl, m10, hg10⟩
    have M10 := Lib.hid m10
    have X10 : Ext w w10 := hg10.ext X9 (fun i hi j hj => Nat.le_trans X3.size ((R4.out.2.1 i hi).own_le j hj))
    have S10 := Lib.hid (RowF.keptF R2.out (S8.out.ext x9) hg10 (fun i hi j hj => Nat.le_trans x3.size ((R4.out.2.1 i hi).own_le j hj)))
    clear m10 hg10
    go_wp2_with fail
    refine (heldF_any _ _ _ _ _ _ M10.out hzl hzt.out).mono ?_
    rintro e w11 ⟨rfl, x11⟩
    have X11 : Ext w w11 := X10.trans x11
    go_wp2_with fail
    refine (toS_any _ _ _ (H.out.ext X11) hn).mono ?_
    rintro e w12 ⟨u12, rfl, hu12, x12, gx12, cx12, rfl, hgx12, hox12⟩
    have H12 := Lib.hid hu12
    have O12 := Lib.hid hox12
    have hg12 : gx12 < w12.heap.size := by
      rcases hox12.2 with ⟨h3, _⟩ | ⟨g', c, cur, h3, _, hg, _⟩
      · cases h3
      · cases h3
        exact heap_lt hg
    clear hu12 hox12
    have X12 : Ext w w12 := X11.trans x12
    go_wp2_with fail
    refine (impl_any _ _ _ H12.out (hp.ext X12)).mono ?_
    rintro e w13 ⟨g13, U13, rfl, r13, x13⟩
    rw [← HZ.out] at r13
    have R13 := Lib.hid r13
    clear r13
    have X13 : Ext w w13 := X12.trans x13
    go_wp2_with fail
    refine (eqF_any _ _ _ _ _ _ _ _ _ R13.out (S10.out.ext ((x11.trans x12).trans x13)) hzl hzm.out).mono ?_
    rintro e w14 ⟨rfl, x14⟩
    have X14 : Ext w w14 := X13.trans x14
    go_wp2_with fail
    refine (heldF_any _ _ _ _ _ _ (M10.out.ext (((x11.trans x12).trans x13).trans x14)) hzl hzt.out).mono ?_
    rintro e w15 ⟨rfl, x15⟩
    have X15 : Ext w w15 := X14.trans x15
    go_wp2_with fail
    go_ret
    exact ⟨rfl, X15⟩

set_option maxRecDepth 100000 in
theorem contract (H : Type) (enc : TypeId × Value → H) (W : World) (base : Nat) (args : Array Value) (ds gs : List (DataW H)) (before : List MemPlace)
    (hval : ∀ (j : Nat) t v, Tryd.f8.params[j]? = some t → args[j]? = some v → Value.okWide Tryd.prog W .any base t v)
    (hW : DataW.Whole enc Tryd.prog Tryd.f8.params.toList Rows.fnExactSharedKeysSpec.vars false W args.toList ds gs before) (hL : laidMetH Tryd.prog Rows.fnExactSharedKeysRow.laid W) :
    Calls Tryd.prog 8 args W fun e W' => ∃ v, e = .returned v ∧ Rows.fnExactSharedKeysSpec.post enc Tryd.prog Tryd.f8 false true false false W args v W' := by
  have hW' := hW
  obtain ⟨p, q, hA0, hV, rfl, hfz, hnd⟩ := hW
  have hA : DataW.TrodAll enc Tryd.prog W 0 (fun _ => true) true Tryd.f8.params.toList args.toList ds p := hA0
  rw [Tryd.params8] at hA hval
  obtain ⟨v0, vs0, d0, ds0, p0, q0, hargs0, rfl, rfl, h0, r0⟩ := trodAll_cons hA
  obtain ⟨rfl, rfl, rfl⟩ := trodAll_nil r0
  obtain rfl : args = #[v0] := Array.toList_inj.1 hargs0
  obtain ⟨s0, z0⟩ := strs_of (hval 0 22 v0 rfl rfl) h0
  clear hA0
  refine (walk W v0 s0 z0 (padIs_of_laid hL)).mono fun e W' ⟨he, hx⟩ => ?_
  subst he
  exact ⟨_, rfl, post_true (tb := 4) laidOut (by rw [Tryd.params8]; intro t ht; simp at ht; subst ht; exact ⟨by kernel_rfl, of_decide_eq_true (by kernel_rfl)⟩) (by kernel_rfl) hW' hx (by obtain ⟨g, t, cs, fuel, d, p', rfl, _⟩ := trodVars_one hV; rfl) rfl Tryd.underlying4⟩

theorem reads (os : Os) {H : Type} (enc : TypeId × Value → H) : ∃ gs places, DataW.whole enc Tryd.prog ((laidWorld os).forCall (fun _ _ => 0) ⟨#[], #[.slice none 0 0], []⟩).memory Tryd.f8.params.toList Rows.fnExactSharedKeysSpec.vars false (#[.slice none 0 0] : Array Value).toList 8 = some ([.nil], gs, places) :=
  ⟨[Rows.laid_loop_example_g01350_impl_padKeys], MemPlace.row ⟨0, 0, none⟩ 16, by kernel_rfl⟩

set_option maxRecDepth 100000 in
theorem lifted (os : Os) (started : os.Started) (H : Type) (enc : TypeId × Value → H) (F : Stop.Interp) :
    ReturnsInHanded {} Tryd.checked os 8 .any ((OpenSpec.ofChange Rows.fnExactSharedKeysSpec).preRow enc Tryd.prog Tryd.f8 Rows.fnExactSharedKeysRow.domain false Rows.fnExactSharedKeysRow.laid) (((OpenSpec.ofChange Rows.fnExactSharedKeysSpec).at F).post enc Tryd.prog Tryd.f8 false true false false) := by
  obtain ⟨gs, places, hx⟩ := reads os enc
  refine returnsInHanded_of_row (C := Tryd.checked) (s := OpenSpec.ofChange Rows.fnExactSharedKeysSpec) own started (by kernel_rfl) Tryd.func8
    (witness_row_at (enc := enc) (C := Tryd.checked) false (laidWorld os) #[.slice none 0 0] rfl (by kernel_rfl) (by kernel_rfl) (by kernel_rfl)
      (OpenSpec.preRow_of_cond 8 hx (by kernel_rfl) (fun k hk => by cases hk) (by kernel_rfl) (laid_met os _))) ?_
  intro W base args ds gs before hval hW _ _ _ hL _ _
  exact contract H enc W base args ds gs before hval hW hL

theorem said : Rows.FnExactSharedKeysSaid :=
  OpenClaim.holds_of_cond 8 Tryd.f8 rfl rfl rfl rfl rfl rfl rfl ⟨rfl, rfl, rfl, rfl, rfl⟩ rfl rfl rfl rfl rfl (by kernel_rfl) Tryd.func8 (by kernel_rfl)
    (of_decide_eq_true (by kernel_rfl)) (by unfold Func.isWrapper; first | (rw [if_pos (by decide +kernel)]; kernel_rfl) | (rw [if_neg (by decide +kernel)]; exact ⟨rfl, rfl⟩))
    (fun os started H enc _ F => by rw [OpenClaim.pre_eq_preRow]; exact lifted os started H enc F)

theorem plain (f : FuncId) (fn : Func) (hf : Tryd.pinned.checked.prog.funcNamed "loop.example/g01350/laws.FnExactSharedKeys" = some f) (hfn : Tryd.pinned.checked.prog.funcs[f]? = some fn) :
    false = Tryd.pinned.checked.prog.looks [] ∧ ∀ (j : Nat) t, fn.params[j]? = some t → Tryd.pinned.checked.prog.wantsStandIn t = false := by
  obtain rfl : f = 8 := Option.some.inj ((show Tryd.prog.funcNamed "loop.example/g01350/laws.FnExactSharedKeys" = some 8 by kernel_rfl).symm.trans hf) |>.symm
  obtain rfl : fn = Tryd.f8 := (Option.some.inj (Tryd.func8.symm.trans hfn)).symm
  refine ⟨by kernel_rfl, fun j t ht => ?_⟩
  rw [Tryd.params8] at ht
  have hm := Array.mem_of_getElem? ht
  have hall : (#[22].toList.all fun u => !Tryd.prog.wantsStandIn u) = true := by kernel_rfl
  exact (show Tryd.prog.wantsStandIn t = false by simpa using List.all_eq_true.1 hall t (by simpa using hm))

/-- THE CARD -/
theorem card : Rows.FnExactSharedKeysCardSaid :=
  Claim7.holds_tied_plain_at .later [] _ _ _ _ said (fun _ h => by cases h) (by kernel_rfl) (fun _ h => by cases h) fnExactSharedKeys_row_tie rfl ⟨rfl, rfl⟩ (by kernel_rfl) rfl plain (by kernel_rfl)
end Go.Proofs.YtioinihlahnbfaaDoor.sharedKeys
