/- A text put into a list in order: the model's way, in memory of its own. No conditions. -/
import Derived.Test.YtinojlbnmnlmhabKeySet
import Derived.Test.YtinojlbnmnlmhabParts
import Derived.Laws.AppendOwnNone
namespace Go.Proofs.Ytinojlbnmnlmhab
open Go.RowKit

set_option maxRecDepth 100000 in
set_option maxHeartbeats 2000000 in
theorem ownS_any (a : Addr) (n c : Nat) (ts : List ByteArray) (w : World) (hl : ts.length = n) (h : HoldsS w a ts) (hn : n ≤ 1048576) : Calls Try.prog 80 #[.slice (some a) n c] w (ResP ts w) := by
  have HH := Lib.hid h
  have HL := Lib.hid hl
  obtain ⟨i0, hi, hz0, hzs, hzb⟩ := info_parts info_strC
  have HI := Lib.hid (show Try.prog.info? 9 = some i0 ∧ i0.zero = some (.string ⟨#[]⟩) ∧ i0.size = 1 ∧ i0.bytes = 16 from ⟨hi, hz0, hzs, hzb⟩)
  clear hi hz0 hzs hzb h hl
  go_enter Try.func80, Try.ntmps80
  have HM := Lib.hid (World.ownsRow_made w (base := w.heap.size) (e := 9) (size := 1) #[] 0 (Nat.le_refl _) (by unfold maxLen; omega) rfl)
  have X1 : Ext w (w.alloc (.cells #[] 9)) := (Ext.refl _).alloc _
  go_wp2_with (at_builtin; refine wpList_append_own _ rfl _ _ 22 rfl w.heap.size 9 i0 (.string ⟨#[]⟩) 1 16 Try.underlying22 HI.out.1 HI.out.2.1 HI.out.2.2.1 HI.out.2.2.2 rfl (by decide) _ _ _ rfl HM.out a n c (ts.map Value.string) rfl (by rw [List.length_map, HL.out, Nat.mul_one]) (HH.out.ext X1).2 (oneL _) (by unfold maxLen; omega) (by omega) X1.size ?_; intro v' w5 hown' hgr' _)
  have X5 : Ext w w5 := ext_grown X1 hgr' (fun j hj => by cases hj; exact Nat.le_refl _)
  have R : RowS w.heap.size w5 v' ts := by unfold RowS; rw [HL.out, ← Nat.zero_add n]; exact hown'
  clear hown' hgr'
  go_wp2
  go_ret
  exact ⟨_, rfl, R, X5⟩

/-- The list itself where the text is there; else a new one. -/
def PutsIn (B : Nat) (ts : List ByteArray) (s : ByteArray) (w : World) (e : Ending) (w' : World) : Prop := ∃ v, e = .returned v ∧ RowS B w' v (putL ts s) ∧ Ext w w' ∧ (¬ s ∈ ts → RowS w.heap.size w' v (putL ts s))

theorem row_join {B0 : Nat} {w : World} {v : Value} {n1 m : Nat} {l1 l2 : List ByteArray} {s : ByteArray} (h : w.ownsRow B0 9 1 v (n1 + 1 + m) (l1.map Value.string ++ [.string s] ++ l2.map Value.string)) (e1 : l1.length = n1) (e2 : l2.length = m) : RowS B0 w v (l1 ++ s :: l2) := by
  unfold RowS
  have e3 : (l1 ++ s :: l2).length = n1 + 1 + m := by rw [List.length_append, List.length_cons, e1, e2]; omega
  have e4 : (l1 ++ s :: l2).map Value.string = l1.map Value.string ++ [.string s] ++ l2.map Value.string := by simp
  rw [e3, e4]
  exact h
/-- What an older list holds it holds behind an append to a newer one. -/
theorem HoldsS.ext3 {w wr wa w5 : World} {g k : Nat} {ss : List ByteArray} {v3 : Value} {n : Nat} {xs : List Value} (h : HoldsS wr ⟨g, 0 + k, none⟩ ss) (hx : Ext wr wa) (gr : wa.grownBy w5 v3.ownBlock) {w3 : World} (r : w3.ownsRow w.heap.size 9 1 v3 n xs) (hg : g < w.heap.size) (_hs : w.heap.size ≤ wr.heap.size) :
    ∀ j u, (ss.map Value.string)[j]? = some u → w5.cell? ((⟨g, k, none⟩ : Addr).add j) = some u := fun j u hu => by
  have h1 := (h.ext hx).2 j u hu
  rw [Nat.zero_add] at h1
  refine gr.cell h1 ?_
  rw [add_block]
  intro e
  have := (World.ownsRow.lt r g e.symm).1
  omega
theorem own_ge {B0 : Nat} {w : World} {e : TypeId} {v : Value} {n : Nat} {xs : List Value} (h : w.ownsRow B0 e 1 v n xs) : ∀ j, v.ownBlock = some j → B0 ≤ j := fun j hj => (World.ownsRow.lt h j hj).1
theorem oneSS (x : ByteArray) : ∀ u ∈ [Value.string x], u.oneCell' = true := by intro u hu; simp at hu; subst hu; rfl

set_option maxRecDepth 100000 in
set_option maxHeartbeats 4000000 in
theorem wdPut_any (B : Nat) (v : Value) (ts : List ByteArray) (s : ByteArray) (w : World) (h : RowS B w v ts) (hB : B ≤ w.heap.size) (hn : ts.length ≤ 100) (_hsz : ∀ t ∈ ts, t.size ≤ maxLen) (hne : 0 < ts.length) : Calls Try.prog 40 #[v, .string s] w (PutsIn B ts s w) := by
  have HR := Lib.hid h
  obtain ⟨a, cap, hv⟩ := h.shape
  have hcp : ts.length ≤ cap := own_cap h _ _ _ hv
  rw [hv] at HR ⊢
  clear hv h v
  obtain ⟨g, rfl, hBg, hg, _⟩ := HR.out.at 0 hne
  have HCELL := Lib.hid (show ∀ j (h : j < ts.length), w.cell? ⟨g, 0 + j, none⟩ = some (.string ts[j]) from fun j hj => by
    obtain ⟨g', e, _, _, hc, _⟩ := HR.out.at j hj
    injection e with e
    injection e with e
    subst e
    rw [Nat.zero_add]
    exact hc)
  obtain ⟨i0, hi, hz0, hzs, hzb⟩ := info_parts info_strC
  have HI := Lib.hid (show Try.prog.info? 9 = some i0 ∧ i0.zero = some (.string ⟨#[]⟩) ∧ i0.size = 1 ∧ i0.bytes = 16 from ⟨hi, hz0, hzs, hzb⟩)
  clear hi hz0 hzs hzb
  go_enter Try.func40, Try.ntmps40
  go_wp2
  go_loopw [5] (fun i wr => ∃ k : Nat, k ≤ ts.length ∧ i = .int .i64 k ∧ pf ts s ts.length = pf ts s k ∧ Ext w wr) (fun i _ => (intOf i).toNat)
  case atStart => exact ⟨ts.length, Nat.le_refl _, rfl, rfl, Ext.refl _⟩
  case round =>
    obtain ⟨k, hk, rfl, hpf, hx⟩ := hrel
    have HP := Lib.hid hpf
    clear hpf
    by_cases h0 : k = 0
    · have HPK := Lib.hid (show pf ts s ts.length = k by rw [HP.out, h0]; rfl)
      have hk0 : ¬ (0 : Int) < (k : Int) := by omega
      clear h0
      by_cases hlt : k < ts.length
      · have e1 := (hx.cell (p := ⟨g, 0 + k, none⟩) hg).trans (HCELL.out k hlt)
        rw [Nat.zero_add] at e1
        by_cases hE : ts[k] = s
        · have t1 : (ts[k].toList == s.toList) = true := by rw [beqT, decide_eq_true hE]
          have HME := Lib.hid (show s ∈ ts from hE ▸ List.getElem_mem hlt)
          have HPT := Lib.hid (show putL ts s = ts from putL_there (by rw [HPK.out]; exact hlt) (by simp only [HPK.out]; exact hE))
          clear hE
          go_wp2
          go_ret
          exact ⟨_, rfl, by rw [HPT.out]; exact HR.out.ext hx, hx, fun hns => absurd HME.out hns⟩
        · have t1 : (ts[k].toList == s.toList) = false := by rw [beqT, decide_eq_false hE]
          have HPT := Lib.hid (show putL ts s = ts.take k ++ s :: ts.drop k by rw [putL_new (fun h1 h2 => by simp only [HPK.out] at h2; exact hE h2), HPK.out])
          clear hE
          have L1 := Lib.hid (show (ts.take k).length = k by rw [List.length_take]; omega)
          have L2 := Lib.hid (show (ts.drop k).length = ts.length - k from List.length_drop ..)
          have HTK := Lib.hid ((holds_take hg HCELL.out k).ext hx)
          have HDK := Lib.hid ((holds_drop hg HCELL.out k).ext hx)
          have hk4 : (k : Int) ≤ (cap : Int) := by omega
          have hk5 : (k : Int) ≤ (ts.length : Int) := by omega
          by_cases hc0 : cap = k
          · subst hc0
            have L3 := Lib.hid (show (ts.drop cap).length = 0 by rw [L2.out]; omega)
            go_wp2_with (first | (go_at_call 80; refine (ownS_any ⟨g, 0, none⟩ cap cap (ts.take cap) _ L1.out HTK.out (by omega)).mono ?_; rintro e w3 ⟨v3, rfl, r3, x3⟩; have R3 := Lib.hid (show w3.ownsRow w.heap.size 9 1 v3 cap ((ts.take cap).map Value.string) from by have := r3.down (B' := w.heap.size) hx.size; unfold RowS at this; rw [L1.out] at this; exact this); clear r3) | (at_builtin; refine wpList_append_own _ rfl _ _ 22 rfl w.heap.size 9 i0 (.string ⟨#[]⟩) 1 16 Try.underlying22 HI.out.1 HI.out.2.1 HI.out.2.2.1 HI.out.2.2.2 rfl (by decide) _ _ _ rfl (World.ownsRow.alloc R3.out _) ⟨w3.heap.size, 0, none⟩ 1 1 [.string s] rfl (by rfl) (cell_one_new _ _ _) (oneSS _) (by unfold maxLen; omega) (by omega) (by have := hx.size; have := x3.size; simp; omega) ?_; intro v5 w5 own5 gr5 _; have O5 := Lib.hid own5; clear own5) | (at_builtin; refine wpList_append_own _ rfl _ _ 22 rfl w.heap.size 9 i0 (.string ⟨#[]⟩) 1 16 Try.underlying22 HI.out.1 HI.out.2.1 HI.out.2.2.1 HI.out.2.2.2 rfl (by decide) _ _ _ rfl O5.out ⟨g, 0, none⟩ 0 0 [] rfl (by rfl) (fun j u hj => by simp at hj) (fun u hu => by simp at hu) (by unfold maxLen; omega) (by omega) (by have := hx.size; have := x3.size; have := gr5.size; simp at this; omega) ?_; intro v7 w7 own7 gr7 _; have O7 := Lib.hid own7; clear own7))
            all_goals
              have hdr : ts.drop cap = [] := List.length_eq_zero_iff.1 L3.out
              have XA : Ext w (w3.alloc (.cells #[.string s] 9)) := (hx.trans x3).alloc _
              have X5 : Ext w w5 := ext_grown XA gr5 (own_ge R3.out)
              have X7 : Ext w w7 := ext_grown X5 gr7 (own_ge O5.out)
              go_wp2
              go_ret
              exact ⟨_, rfl, by rw [HPT.out]; exact (row_join (l2 := ts.drop cap) (by first | exact O7.out | (rw [hdr]; exact O7.out)) L1.out L3.out).down hB, X7, fun _ => by rw [HPT.out]; exact (row_join (l2 := ts.drop cap) (by first | exact O7.out | (rw [hdr]; exact O7.out)) L1.out L3.out)⟩
          · have hdr : True := trivial
            go_wp2_with (first | (go_at_call 80; refine (ownS_any ⟨g, 0, none⟩ k cap (ts.take k) _ L1.out HTK.out (by omega)).mono ?_; rintro e w3 ⟨v3, rfl, r3, x3⟩; have R3 := Lib.hid (show w3.ownsRow w.heap.size 9 1 v3 k ((ts.take k).map Value.string) from by have := r3.down (B' := w.heap.size) hx.size; unfold RowS at this; rw [L1.out] at this; exact this); clear r3) | (at_builtin; refine wpList_append_own _ rfl _ _ 22 rfl w.heap.size 9 i0 (.string ⟨#[]⟩) 1 16 Try.underlying22 HI.out.1 HI.out.2.1 HI.out.2.2.1 HI.out.2.2.2 rfl (by decide) _ _ _ rfl (World.ownsRow.alloc R3.out _) ⟨w3.heap.size, 0, none⟩ 1 1 [.string s] rfl (by rfl) (cell_one_new _ _ _) (oneSS _) (by unfold maxLen; omega) (by omega) (by have := hx.size; have := x3.size; simp; omega) ?_; intro v5 w5 own5 gr5 _; have O5 := Lib.hid own5; have HD5 := Lib.hid (HDK.out.ext3 (x3.alloc _) gr5 R3.out hg hx.size); clear own5) | (at_builtin; refine wpList_append_own _ rfl _ _ 22 rfl w.heap.size 9 i0 (.string ⟨#[]⟩) 1 16 Try.underlying22 HI.out.1 HI.out.2.1 HI.out.2.2.1 HI.out.2.2.2 rfl (by decide) _ _ _ rfl O5.out ⟨g, k, none⟩ (ts.length - k) (cap - k) ((ts.drop k).map Value.string) rfl (by rw [List.length_map, L2.out, Nat.mul_one]) HD5.out (oneL _) (by unfold maxLen; omega) (by omega) (by have := hx.size; have := x3.size; have := gr5.size; simp at this; omega) ?_; intro v7 w7 own7 gr7 _; have O7 := Lib.hid own7; clear own7))
            all_goals
              have XA : Ext w (w3.alloc (.cells #[.string s] 9)) := (hx.trans x3).alloc _
              have X5 : Ext w w5 := ext_grown XA gr5 (own_ge R3.out)
              have X7 : Ext w w7 := ext_grown X5 gr7 (own_ge O5.out)
              go_wp2
              go_ret
              exact ⟨_, rfl, by rw [HPT.out]; exact (row_join (l2 := ts.drop k) (by first | exact O7.out | (rw [hdr]; exact O7.out)) L1.out L2.out).down hB, X7, fun _ => by rw [HPT.out]; exact (row_join (l2 := ts.drop k) (by first | exact O7.out | (rw [hdr]; exact O7.out)) L1.out L2.out)⟩
      · have HPT := Lib.hid (show putL ts s = ts.take k ++ s :: ts.drop k by rw [putL_new (fun h1 h2 => hlt (by rw [HPK.out] at h1; exact h1)), HPK.out])
        have L1 := Lib.hid (show (ts.take k).length = k by rw [List.length_take]; omega)
        have L2 := Lib.hid (show (ts.drop k).length = ts.length - k from List.length_drop ..)
        have HTK := Lib.hid ((holds_take hg HCELL.out k).ext hx)
        have HDK := Lib.hid ((holds_drop hg HCELL.out k).ext hx)
        have hk4 : (k : Int) ≤ (cap : Int) := by omega
        have hk5 : (k : Int) ≤ (ts.length : Int) := by omega
        by_cases hc0 : cap = k
        · subst hc0
          have L3 := Lib.hid (show (ts.drop cap).length = 0 by rw [L2.out]; omega)
          go_wp2_with (first | (go_at_call 80; refine (ownS_any ⟨g, 0, none⟩ cap cap (ts.take cap) _ L1.out HTK.out (by omega)).mono ?_; rintro e w3 ⟨v3, rfl, r3, x3⟩; have R3 := Lib.hid (show w3.ownsRow w.heap.size 9 1 v3 cap ((ts.take cap).map Value.string) from by have := r3.down (B' := w.heap.size) hx.size; unfold RowS at this; rw [L1.out] at this; exact this); clear r3) | (at_builtin; refine wpList_append_own _ rfl _ _ 22 rfl w.heap.size 9 i0 (.string ⟨#[]⟩) 1 16 Try.underlying22 HI.out.1 HI.out.2.1 HI.out.2.2.1 HI.out.2.2.2 rfl (by decide) _ _ _ rfl (World.ownsRow.alloc R3.out _) ⟨w3.heap.size, 0, none⟩ 1 1 [.string s] rfl (by rfl) (cell_one_new _ _ _) (oneSS _) (by unfold maxLen; omega) (by omega) (by have := hx.size; have := x3.size; simp; omega) ?_; intro v5 w5 own5 gr5 _; have O5 := Lib.hid own5; clear own5) | (at_builtin; refine wpList_append_own _ rfl _ _ 22 rfl w.heap.size 9 i0 (.string ⟨#[]⟩) 1 16 Try.underlying22 HI.out.1 HI.out.2.1 HI.out.2.2.1 HI.out.2.2.2 rfl (by decide) _ _ _ rfl O5.out ⟨g, 0, none⟩ 0 0 [] rfl (by rfl) (fun j u hj => by simp at hj) (fun u hu => by simp at hu) (by unfold maxLen; omega) (by omega) (by have := hx.size; have := x3.size; have := gr5.size; simp at this; omega) ?_; intro v7 w7 own7 gr7 _; have O7 := Lib.hid own7; clear own7))
          all_goals
            have hdr : ts.drop cap = [] := List.length_eq_zero_iff.1 L3.out
            have XA : Ext w (w3.alloc (.cells #[.string s] 9)) := (hx.trans x3).alloc _
            have X5 : Ext w w5 := ext_grown XA gr5 (own_ge R3.out)
            have X7 : Ext w w7 := ext_grown X5 gr7 (own_ge O5.out)
            go_wp2
            go_ret
            exact ⟨_, rfl, by rw [HPT.out]; exact (row_join (l2 := ts.drop cap) (by first | exact O7.out | (rw [hdr]; exact O7.out)) L1.out L3.out).down hB, X7, fun _ => by rw [HPT.out]; exact (row_join (l2 := ts.drop cap) (by first | exact O7.out | (rw [hdr]; exact O7.out)) L1.out L3.out)⟩
        · have hdr : True := trivial
          go_wp2_with (first | (go_at_call 80; refine (ownS_any ⟨g, 0, none⟩ k cap (ts.take k) _ L1.out HTK.out (by omega)).mono ?_; rintro e w3 ⟨v3, rfl, r3, x3⟩; have R3 := Lib.hid (show w3.ownsRow w.heap.size 9 1 v3 k ((ts.take k).map Value.string) from by have := r3.down (B' := w.heap.size) hx.size; unfold RowS at this; rw [L1.out] at this; exact this); clear r3) | (at_builtin; refine wpList_append_own _ rfl _ _ 22 rfl w.heap.size 9 i0 (.string ⟨#[]⟩) 1 16 Try.underlying22 HI.out.1 HI.out.2.1 HI.out.2.2.1 HI.out.2.2.2 rfl (by decide) _ _ _ rfl (World.ownsRow.alloc R3.out _) ⟨w3.heap.size, 0, none⟩ 1 1 [.string s] rfl (by rfl) (cell_one_new _ _ _) (oneSS _) (by unfold maxLen; omega) (by omega) (by have := hx.size; have := x3.size; simp; omega) ?_; intro v5 w5 own5 gr5 _; have O5 := Lib.hid own5; have HD5 := Lib.hid (HDK.out.ext3 (x3.alloc _) gr5 R3.out hg hx.size); clear own5) | (at_builtin; refine wpList_append_own _ rfl _ _ 22 rfl w.heap.size 9 i0 (.string ⟨#[]⟩) 1 16 Try.underlying22 HI.out.1 HI.out.2.1 HI.out.2.2.1 HI.out.2.2.2 rfl (by decide) _ _ _ rfl O5.out ⟨g, k, none⟩ (ts.length - k) (cap - k) ((ts.drop k).map Value.string) rfl (by rw [List.length_map, L2.out, Nat.mul_one]) HD5.out (oneL _) (by unfold maxLen; omega) (by omega) (by have := hx.size; have := x3.size; have := gr5.size; simp at this; omega) ?_; intro v7 w7 own7 gr7 _; have O7 := Lib.hid own7; clear own7))
          all_goals
            have XA : Ext w (w3.alloc (.cells #[.string s] 9)) := (hx.trans x3).alloc _
            have X5 : Ext w w5 := ext_grown XA gr5 (own_ge R3.out)
            have X7 : Ext w w7 := ext_grown X5 gr7 (own_ge O5.out)
            go_wp2
            go_ret
            exact ⟨_, rfl, by rw [HPT.out]; exact (row_join (l2 := ts.drop k) (by first | exact O7.out | (rw [hdr]; exact O7.out)) L1.out L2.out).down hB, X7, fun _ => by rw [HPT.out]; exact (row_join (l2 := ts.drop k) (by first | exact O7.out | (rw [hdr]; exact O7.out)) L1.out L2.out)⟩
    have hlt1 : k - 1 < ts.length := by omega
    have e2 := (hx.cell (p := ⟨g, 0 + (k - 1), none⟩) hg).trans (HCELL.out (k - 1) hlt1)
    rw [Nat.zero_add] at e2
    have hc1 : ((k : Int) - 1) = ((k - 1 : Nat) : Int) := by omega
    have hk0 : (0 : Int) < (k : Int) := by omega
    cases hL : lessB ts[k - 1] s
    · have t3 : Op.bytesLess ts[k - 1].toList s.toList = false := hL
      have HN := Lib.hid (show pf ts s k = pf ts s (k - 1) by have := pf_no hlt1 hL; rw [show k - 1 + 1 = k by omega] at this; exact this)
      clear hL
      go_wp2
      go_roundw
      case rel => exact ⟨k - 1, by omega, by go_num, by rw [HP.out, HN.out], hx⟩
      case measure => simp [intOf]; omega
    · have t3 : Op.bytesLess ts[k - 1].toList s.toList = true := hL
      have HPK := Lib.hid (show pf ts s ts.length = k by rw [HP.out]; have := pf_yes hlt1 hL; rw [show k - 1 + 1 = k by omega] at this; exact this)
      clear hL
      by_cases hlt : k < ts.length
      · have e1 := (hx.cell (p := ⟨g, 0 + k, none⟩) hg).trans (HCELL.out k hlt)
        rw [Nat.zero_add] at e1
        by_cases hE : ts[k] = s
        · have t1 : (ts[k].toList == s.toList) = true := by rw [beqT, decide_eq_true hE]
          have HME := Lib.hid (show s ∈ ts from hE ▸ List.getElem_mem hlt)
          have HPT := Lib.hid (show putL ts s = ts from putL_there (by rw [HPK.out]; exact hlt) (by simp only [HPK.out]; exact hE))
          clear hE
          go_wp2
          go_ret
          exact ⟨_, rfl, by rw [HPT.out]; exact HR.out.ext hx, hx, fun hns => absurd HME.out hns⟩
        · have t1 : (ts[k].toList == s.toList) = false := by rw [beqT, decide_eq_false hE]
          have HPT := Lib.hid (show putL ts s = ts.take k ++ s :: ts.drop k by rw [putL_new (fun h1 h2 => by simp only [HPK.out] at h2; exact hE h2), HPK.out])
          clear hE
          have L1 := Lib.hid (show (ts.take k).length = k by rw [List.length_take]; omega)
          have L2 := Lib.hid (show (ts.drop k).length = ts.length - k from List.length_drop ..)
          have HTK := Lib.hid ((holds_take hg HCELL.out k).ext hx)
          have HDK := Lib.hid ((holds_drop hg HCELL.out k).ext hx)
          have hk4 : (k : Int) ≤ (cap : Int) := by omega
          have hk5 : (k : Int) ≤ (ts.length : Int) := by omega
          by_cases hc0 : cap = k
          · subst hc0
            have L3 := Lib.hid (show (ts.drop cap).length = 0 by rw [L2.out]; omega)
            go_wp2_with (first | (go_at_call 80; refine (ownS_any ⟨g, 0, none⟩ cap cap (ts.take cap) _ L1.out HTK.out (by omega)).mono ?_; rintro e w3 ⟨v3, rfl, r3, x3⟩; have R3 := Lib.hid (show w3.ownsRow w.heap.size 9 1 v3 cap ((ts.take cap).map Value.string) from by have := r3.down (B' := w.heap.size) hx.size; unfold RowS at this; rw [L1.out] at this; exact this); clear r3) | (at_builtin; refine wpList_append_own _ rfl _ _ 22 rfl w.heap.size 9 i0 (.string ⟨#[]⟩) 1 16 Try.underlying22 HI.out.1 HI.out.2.1 HI.out.2.2.1 HI.out.2.2.2 rfl (by decide) _ _ _ rfl (World.ownsRow.alloc R3.out _) ⟨w3.heap.size, 0, none⟩ 1 1 [.string s] rfl (by rfl) (cell_one_new _ _ _) (oneSS _) (by unfold maxLen; omega) (by omega) (by have := hx.size; have := x3.size; simp; omega) ?_; intro v5 w5 own5 gr5 _; have O5 := Lib.hid own5; clear own5) | (at_builtin; refine wpList_append_own _ rfl _ _ 22 rfl w.heap.size 9 i0 (.string ⟨#[]⟩) 1 16 Try.underlying22 HI.out.1 HI.out.2.1 HI.out.2.2.1 HI.out.2.2.2 rfl (by decide) _ _ _ rfl O5.out ⟨g, 0, none⟩ 0 0 [] rfl (by rfl) (fun j u hj => by simp at hj) (fun u hu => by simp at hu) (by unfold maxLen; omega) (by omega) (by have := hx.size; have := x3.size; have := gr5.size; simp at this; omega) ?_; intro v7 w7 own7 gr7 _; have O7 := Lib.hid own7; clear own7))
            all_goals
              have hdr : ts.drop cap = [] := List.length_eq_zero_iff.1 L3.out
              have XA : Ext w (w3.alloc (.cells #[.string s] 9)) := (hx.trans x3).alloc _
              have X5 : Ext w w5 := ext_grown XA gr5 (own_ge R3.out)
              have X7 : Ext w w7 := ext_grown X5 gr7 (own_ge O5.out)
              go_wp2
              go_ret
              exact ⟨_, rfl, by rw [HPT.out]; exact (row_join (l2 := ts.drop cap) (by first | exact O7.out | (rw [hdr]; exact O7.out)) L1.out L3.out).down hB, X7, fun _ => by rw [HPT.out]; exact (row_join (l2 := ts.drop cap) (by first | exact O7.out | (rw [hdr]; exact O7.out)) L1.out L3.out)⟩
          · have hdr : True := trivial
            go_wp2_with (first | (go_at_call 80; refine (ownS_any ⟨g, 0, none⟩ k cap (ts.take k) _ L1.out HTK.out (by omega)).mono ?_; rintro e w3 ⟨v3, rfl, r3, x3⟩; have R3 := Lib.hid (show w3.ownsRow w.heap.size 9 1 v3 k ((ts.take k).map Value.string) from by have := r3.down (B' := w.heap.size) hx.size; unfold RowS at this; rw [L1.out] at this; exact this); clear r3) | (at_builtin; refine wpList_append_own _ rfl _ _ 22 rfl w.heap.size 9 i0 (.string ⟨#[]⟩) 1 16 Try.underlying22 HI.out.1 HI.out.2.1 HI.out.2.2.1 HI.out.2.2.2 rfl (by decide) _ _ _ rfl (World.ownsRow.alloc R3.out _) ⟨w3.heap.size, 0, none⟩ 1 1 [.string s] rfl (by rfl) (cell_one_new _ _ _) (oneSS _) (by unfold maxLen; omega) (by omega) (by have := hx.size; have := x3.size; simp; omega) ?_; intro v5 w5 own5 gr5 _; have O5 := Lib.hid own5; have HD5 := Lib.hid (HDK.out.ext3 (x3.alloc _) gr5 R3.out hg hx.size); clear own5) | (at_builtin; refine wpList_append_own _ rfl _ _ 22 rfl w.heap.size 9 i0 (.string ⟨#[]⟩) 1 16 Try.underlying22 HI.out.1 HI.out.2.1 HI.out.2.2.1 HI.out.2.2.2 rfl (by decide) _ _ _ rfl O5.out ⟨g, k, none⟩ (ts.length - k) (cap - k) ((ts.drop k).map Value.string) rfl (by rw [List.length_map, L2.out, Nat.mul_one]) HD5.out (oneL _) (by unfold maxLen; omega) (by omega) (by have := hx.size; have := x3.size; have := gr5.size; simp at this; omega) ?_; intro v7 w7 own7 gr7 _; have O7 := Lib.hid own7; clear own7))
            all_goals
              have XA : Ext w (w3.alloc (.cells #[.string s] 9)) := (hx.trans x3).alloc _
              have X5 : Ext w w5 := ext_grown XA gr5 (own_ge R3.out)
              have X7 : Ext w w7 := ext_grown X5 gr7 (own_ge O5.out)
              go_wp2
              go_ret
              exact ⟨_, rfl, by rw [HPT.out]; exact (row_join (l2 := ts.drop k) (by first | exact O7.out | (rw [hdr]; exact O7.out)) L1.out L2.out).down hB, X7, fun _ => by rw [HPT.out]; exact (row_join (l2 := ts.drop k) (by first | exact O7.out | (rw [hdr]; exact O7.out)) L1.out L2.out)⟩
      · have HPT := Lib.hid (show putL ts s = ts.take k ++ s :: ts.drop k by rw [putL_new (fun h1 h2 => hlt (by rw [HPK.out] at h1; exact h1)), HPK.out])
        have L1 := Lib.hid (show (ts.take k).length = k by rw [List.length_take]; omega)
        have L2 := Lib.hid (show (ts.drop k).length = ts.length - k from List.length_drop ..)
        have HTK := Lib.hid ((holds_take hg HCELL.out k).ext hx)
        have HDK := Lib.hid ((holds_drop hg HCELL.out k).ext hx)
        have hk4 : (k : Int) ≤ (cap : Int) := by omega
        have hk5 : (k : Int) ≤ (ts.length : Int) := by omega
        by_cases hc0 : cap = k
        · subst hc0
          have L3 := Lib.hid (show (ts.drop cap).length = 0 by rw [L2.out]; omega)
          go_wp2_with (first | (go_at_call 80; refine (ownS_any ⟨g, 0, none⟩ cap cap (ts.take cap) _ L1.out HTK.out (by omega)).mono ?_; rintro e w3 ⟨v3, rfl, r3, x3⟩; have R3 := Lib.hid (show w3.ownsRow w.heap.size 9 1 v3 cap ((ts.take cap).map Value.string) from by have := r3.down (B' := w.heap.size) hx.size; unfold RowS at this; rw [L1.out] at this; exact this); clear r3) | (at_builtin; refine wpList_append_own _ rfl _ _ 22 rfl w.heap.size 9 i0 (.string ⟨#[]⟩) 1 16 Try.underlying22 HI.out.1 HI.out.2.1 HI.out.2.2.1 HI.out.2.2.2 rfl (by decide) _ _ _ rfl (World.ownsRow.alloc R3.out _) ⟨w3.heap.size, 0, none⟩ 1 1 [.string s] rfl (by rfl) (cell_one_new _ _ _) (oneSS _) (by unfold maxLen; omega) (by omega) (by have := hx.size; have := x3.size; simp; omega) ?_; intro v5 w5 own5 gr5 _; have O5 := Lib.hid own5; clear own5) | (at_builtin; refine wpList_append_own _ rfl _ _ 22 rfl w.heap.size 9 i0 (.string ⟨#[]⟩) 1 16 Try.underlying22 HI.out.1 HI.out.2.1 HI.out.2.2.1 HI.out.2.2.2 rfl (by decide) _ _ _ rfl O5.out ⟨g, 0, none⟩ 0 0 [] rfl (by rfl) (fun j u hj => by simp at hj) (fun u hu => by simp at hu) (by unfold maxLen; omega) (by omega) (by have := hx.size; have := x3.size; have := gr5.size; simp at this; omega) ?_; intro v7 w7 own7 gr7 _; have O7 := Lib.hid own7; clear own7))
          all_goals
            have hdr : ts.drop cap = [] := List.length_eq_zero_iff.1 L3.out
            have XA : Ext w (w3.alloc (.cells #[.string s] 9)) := (hx.trans x3).alloc _
            have X5 : Ext w w5 := ext_grown XA gr5 (own_ge R3.out)
            have X7 : Ext w w7 := ext_grown X5 gr7 (own_ge O5.out)
            go_wp2
            go_ret
            exact ⟨_, rfl, by rw [HPT.out]; exact (row_join (l2 := ts.drop cap) (by first | exact O7.out | (rw [hdr]; exact O7.out)) L1.out L3.out).down hB, X7, fun _ => by rw [HPT.out]; exact (row_join (l2 := ts.drop cap) (by first | exact O7.out | (rw [hdr]; exact O7.out)) L1.out L3.out)⟩
        · have hdr : True := trivial
          go_wp2_with (first | (go_at_call 80; refine (ownS_any ⟨g, 0, none⟩ k cap (ts.take k) _ L1.out HTK.out (by omega)).mono ?_; rintro e w3 ⟨v3, rfl, r3, x3⟩; have R3 := Lib.hid (show w3.ownsRow w.heap.size 9 1 v3 k ((ts.take k).map Value.string) from by have := r3.down (B' := w.heap.size) hx.size; unfold RowS at this; rw [L1.out] at this; exact this); clear r3) | (at_builtin; refine wpList_append_own _ rfl _ _ 22 rfl w.heap.size 9 i0 (.string ⟨#[]⟩) 1 16 Try.underlying22 HI.out.1 HI.out.2.1 HI.out.2.2.1 HI.out.2.2.2 rfl (by decide) _ _ _ rfl (World.ownsRow.alloc R3.out _) ⟨w3.heap.size, 0, none⟩ 1 1 [.string s] rfl (by rfl) (cell_one_new _ _ _) (oneSS _) (by unfold maxLen; omega) (by omega) (by have := hx.size; have := x3.size; simp; omega) ?_; intro v5 w5 own5 gr5 _; have O5 := Lib.hid own5; have HD5 := Lib.hid (HDK.out.ext3 (x3.alloc _) gr5 R3.out hg hx.size); clear own5) | (at_builtin; refine wpList_append_own _ rfl _ _ 22 rfl w.heap.size 9 i0 (.string ⟨#[]⟩) 1 16 Try.underlying22 HI.out.1 HI.out.2.1 HI.out.2.2.1 HI.out.2.2.2 rfl (by decide) _ _ _ rfl O5.out ⟨g, k, none⟩ (ts.length - k) (cap - k) ((ts.drop k).map Value.string) rfl (by rw [List.length_map, L2.out, Nat.mul_one]) HD5.out (oneL _) (by unfold maxLen; omega) (by omega) (by have := hx.size; have := x3.size; have := gr5.size; simp at this; omega) ?_; intro v7 w7 own7 gr7 _; have O7 := Lib.hid own7; clear own7))
          all_goals
            have XA : Ext w (w3.alloc (.cells #[.string s] 9)) := (hx.trans x3).alloc _
            have X5 : Ext w w5 := ext_grown XA gr5 (own_ge R3.out)
            have X7 : Ext w w7 := ext_grown X5 gr7 (own_ge O5.out)
            go_wp2
            go_ret
            exact ⟨_, rfl, by rw [HPT.out]; exact (row_join (l2 := ts.drop k) (by first | exact O7.out | (rw [hdr]; exact O7.out)) L1.out L2.out).down hB, X7, fun _ => by rw [HPT.out]; exact (row_join (l2 := ts.drop k) (by first | exact O7.out | (rw [hdr]; exact O7.out)) L1.out L2.out)⟩

set_option maxRecDepth 100000 in
set_option maxHeartbeats 4000000 in
theorem ownS_nil (w : World) : Calls Try.prog 80 #[.slice none 0 0] w (ResP [] w) := by
  go_enter Try.func80, Try.ntmps80
  go_wp2
  go_ret
  exact ⟨_, rfl, World.ownsRow_made w (base := w.heap.size) (e := 9) (size := 1) #[] 0 (Nat.le_refl _) (by unfold maxLen; omega) rfl, (Ext.refl _).alloc _⟩

set_option maxRecDepth 100000 in
set_option maxHeartbeats 4000000 in
theorem wdPut_nil (s : ByteArray) (w : World) : Calls Try.prog 40 #[.slice none 0 0, .string s] w (ResP (putL [] s) w) := by
  obtain ⟨i0, hi, hz0, hzs, hzb⟩ := info_parts info_strC
  have HI := Lib.hid (show Try.prog.info? 9 = some i0 ∧ i0.zero = some (.string ⟨#[]⟩) ∧ i0.size = 1 ∧ i0.bytes = 16 from ⟨hi, hz0, hzs, hzb⟩)
  clear hi hz0 hzs hzb
  have HPT := Lib.hid (show putL [] s = [s] from rfl)
  go_enter Try.func40, Try.ntmps40
  go_wp2
  go_loopw [5] (fun i wr => i = .int .i64 0 ∧ wr = w) (fun i _ => (intOf i).toNat)
  case atStart => exact ⟨rfl, rfl⟩
  case round =>
    obtain ⟨rfl, rfl⟩ := hrel
    go_wp2_with (first | (go_at_call 80; refine (ownS_nil _).mono ?_; rintro e w3 ⟨v3, rfl, r3, x3⟩; have R3 := Lib.hid (show w3.ownsRow wr.heap.size 9 1 v3 0 [] from r3); clear r3) | (at_builtin; refine wpList_append_own _ rfl _ _ 22 rfl wr.heap.size 9 i0 (.string ⟨#[]⟩) 1 16 Try.underlying22 HI.out.1 HI.out.2.1 HI.out.2.2.1 HI.out.2.2.2 rfl (by decide) _ _ _ rfl (World.ownsRow.alloc R3.out _) ⟨w3.heap.size, 0, none⟩ 1 1 [.string s] rfl (by rfl) (cell_one_new _ _ _) (oneSS _) (by unfold maxLen; omega) (by omega) (by have := x3.size; simp; omega) ?_; intro v5 w5 own5 gr5 _; have O5 := Lib.hid own5; clear own5) | (at_builtin; refine wpList_append_own_none rfl _ _ 22 rfl wr.heap.size 9 i0 1 Try.underlying22 HI.out.1 _ _ _ rfl O5.out rfl ?_))
    have X5 : Ext wr w5 := ext_grown (x3.alloc _) gr5 (own_ge R3.out)
    go_wp2
    go_ret
    exact ⟨_, rfl, by rw [HPT.out]; exact O5.out, X5⟩

end Go.Proofs.Ytinojlbnmnlmhab
