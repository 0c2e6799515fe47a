/- A text put into a list in order, searched from its front: the model's way. No conditions. -/
import Derived.Test.YtdhcknknmloopaaOnce
import Derived.Test.YtdhcknknmloopaaParts
import Derived.Laws.AppendOwnNone
namespace Go.Proofs.Ytdhcknknmloopaa
open Go.RowKit

/-- The list itself where the text is there; else a new one. -/
def PutsC (B : Nat) (ts : List ByteArray) (s : ByteArray) (w : World) (e : Ending) (w' : World) : Prop := ∃ v, e = .returned v ∧ RowS B w' v (putL ts s) ∧ Ext w w' ∧ (¬ s ∈ ts → RowS w.heap.size w' v (putL ts s))
theorem row_joinC {B0 : Nat} {w : World} {v : Value} {n1 m : Nat} {l1 l2 : List ByteArray} {s : ByteArray} (h : w.ownsRow B0 9 1 v (n1 + 1 + m) (l1.map Value.string ++ [.string s] ++ l2.map Value.string)) (e1 : l1.length = n1) (e2 : l2.length = m) : RowS B0 w v (l1 ++ s :: l2) := by
  unfold RowS
  have e3 : (l1 ++ s :: l2).length = n1 + 1 + m := by rw [List.length_append, List.length_cons, e1, e2]; omega
  have e4 : (l1 ++ s :: l2).map Value.string = l1.map Value.string ++ [.string s] ++ l2.map Value.string := by simp
  rw [e3, e4]
  exact h
/-- What an older list holds it holds behind an append to a newer one. -/
theorem HoldsS.ext3C {w wr wa w5 : World} {g k : Nat} {ss : List ByteArray} {v3 : Value} {n : Nat} {xs : List Value} (h : HoldsS wr ⟨g, 0 + k, none⟩ ss) (hx : Ext wr wa) (gr : wa.grownBy w5 v3.ownBlock) {w3 : World} (r : w3.ownsRow w.heap.size 9 1 v3 n xs) (hg : g < w.heap.size) (_hs : w.heap.size ≤ wr.heap.size) :
    ∀ j u, (ss.map Value.string)[j]? = some u → w5.cell? ((⟨g, k, none⟩ : Addr).add j) = some u := fun j u hu => by
  have h1 := (h.ext hx).2 j u hu
  rw [Nat.zero_add] at h1
  refine gr.cell h1 ?_
  rw [add_block]
  intro e
  have := (World.ownsRow.lt r g e.symm).1
  omega
theorem own_geC {B0 : Nat} {w : World} {e : TypeId} {v : Value} {n : Nat} {xs : List Value} (h : w.ownsRow B0 e 1 v n xs) : ∀ j, v.ownBlock = some j → B0 ≤ j := fun j hj => (World.ownsRow.lt h j hj).1
theorem oneSC (x : ByteArray) : ∀ u ∈ [Value.string x], u.oneCell' = true := by intro u hu; simp at hu; subst hu; rfl

theorem pf_front {ts : List ByteArray} {s : ByteArray} (hI : Inc ts) (k : Nat) (hk : k ≤ ts.length) (h1 : ∀ j (h : j < ts.length), j < k → lessB ts[j] s = true) (h2 : ∀ h : k < ts.length, lessB ts[k] s = false) : pf ts s ts.length = k := by
  rcases Nat.lt_trichotomy (pf ts s ts.length) k with h | h | h
  · have h3 := pf_behind ts s ts.length (pf ts s ts.length) (Nat.le_refl _) (by omega)
    rw [getDS (by omega), h1 _ (by omega) h] at h3
    cases h3
  · exact h
  · have hle := pf_le ts s ts.length
    have h3 := pf_ahead ts s ts.length (Nat.le_refl _) (by omega)
    rw [getDS (by omega)] at h3
    have h4 := h2 (by omega)
    by_cases e : pf ts s ts.length - 1 = k
    · simp only [e] at h3
      rw [h3] at h4; cases h4
    · have h5 := less_trans (inc_at hI k (pf ts s ts.length - 1) (by omega) (by omega)) h3
      rw [h5] at h4; cases h4

set_option maxRecDepth 100000 in
set_option maxHeartbeats 4000000 in
theorem ckPut_any (B : Nat) (v : Value) (ts : List ByteArray) (s : ByteArray) (w : World) (h : RowS B w v ts) (hB : B ≤ w.heap.size) (hn : ts.length ≤ 100) (hI : Inc ts) (hne : 0 < ts.length) : Calls Try.prog 69 #[v, .string s] w (PutsC B ts s w) := by
  have HR := Lib.hid h
  have HINC := Lib.hid hI
  obtain ⟨a, cap, hv⟩ := h.shape
  have hcp : ts.length ≤ cap := own_cap h _ _ _ hv
  rw [hv] at HR ⊢
  clear hv h v hI
  obtain ⟨g, rfl, hBg, hg, _⟩ := HR.out.at 0 hne
  have HCELL := Lib.hid (show ∀ j (h : j < ts.length), w.cell? ⟨g, 0 + j, none⟩ = some (.string ts[j]) from fun j hj => by
    obtain ⟨g', e, _, _, hc, _⟩ := HR.out.at j hj
    injection e with e
    injection e with e
    subst e
    rw [Nat.zero_add]
    exact hc)
  obtain ⟨i0, hi, hz0, hzs, hzb⟩ := info_parts info_strC
  have HI := Lib.hid (show Try.prog.info? 9 = some i0 ∧ i0.zero = some (.string ⟨#[]⟩) ∧ i0.size = 1 ∧ i0.bytes = 16 from ⟨hi, hz0, hzs, hzb⟩)
  have HM := Lib.hid (World.ownsRow_made w (base := w.heap.size) (e := 9) (size := 1) #[] 0 (Nat.le_refl _) (by unfold maxLen; omega) rfl)
  have X1 : Ext w (w.alloc (.cells #[] 9)) := (Ext.refl _).alloc _
  clear hi hz0 hzs hzb
  go_enter Try.func69, Try.ntmps69
  go_wp2
  go_loopw [5] (fun i wr => ∃ k : Nat, k ≤ ts.length ∧ i = .int .i64 k ∧ (∀ j (h : j < ts.length), j < k → lessB ts[j] s = true) ∧ w = wr) (fun i _ => ts.length - (intOf i).toNat)
  case atStart => exact ⟨0, Nat.zero_le _, rfl, fun j _ h => absurd h (by omega), rfl⟩
  case round =>
    obtain ⟨k, hk, rfl, hless, rfl⟩ := hrel
    have HLS := Lib.hid hless
    clear hless
    by_cases hlt : k < ts.length
    · have hki : (k : Int) < (ts.length : Int) := by omega
      have e1 := HCELL.out k hlt
      rw [Nat.zero_add] at e1
      cases hL : lessB ts[k] s
      · have t3 : Op.bytesLess ts[k].toList s.toList = false := hL
        have HPK := Lib.hid (pf_front HINC.out k hk HLS.out (fun _ => hL))
        clear hL
        by_cases hE : ts[k] = s
        · have t1 : (ts[k].toList == s.toList) = true := by rw [beqT, decide_eq_true hE]
          have HME := Lib.hid (show s ∈ ts from hE ▸ List.getElem_mem hlt)
          have HPT := Lib.hid (show putL ts s = ts from putL_there (by rw [HPK.out]; exact hlt) (by simp only [HPK.out]; exact hE))
          clear hE
          go_wp2
          go_ret
          exact ⟨_, rfl, by rw [HPT.out]; exact HR.out, Ext.refl _, fun hns => absurd HME.out hns⟩
        · have t1 : (ts[k].toList == s.toList) = false := by rw [beqT, decide_eq_false hE]
          have HPT := Lib.hid (show putL ts s = ts.take k ++ s :: ts.drop k by rw [putL_new (fun h1 h2 => by simp only [HPK.out] at h2; exact hE h2), HPK.out])
          clear hE
          have L1 := Lib.hid (show (ts.take k).length = k by rw [List.length_take]; omega)
          have L2 := Lib.hid (show (ts.drop k).length = ts.length - k from List.length_drop ..)
          have HTK := Lib.hid (holds_take hg HCELL.out k)
          have HDK := Lib.hid (holds_drop hg HCELL.out k)
          have hk4 : (k : Int) ≤ (cap : Int) := by omega
          have hk5 : (k : Int) ≤ (ts.length : Int) := by omega
          have hc0 : ¬ cap = k := by omega
          go_wp2_with (first | (at_builtin; refine wpList_append_own _ rfl _ _ 46 rfl w.heap.size 9 i0 (.string ⟨#[]⟩) 1 16 Try.underlying46 HI.out.1 HI.out.2.1 HI.out.2.2.1 HI.out.2.2.2 rfl (by decide) _ _ _ rfl HM.out ⟨g, 0, none⟩ k cap ((ts.take k).map Value.string) rfl (by rw [List.length_map, L1.out, Nat.mul_one]) (HTK.out.ext X1).2 (oneL _) (by unfold maxLen; omega) (by omega) X1.size ?_; intro v3 w3 own3 gr3 _; have R3 := Lib.hid (show w3.ownsRow w.heap.size 9 1 v3 k ((ts.take k).map Value.string) from by have h9 := own3; rw [Nat.zero_add] at h9; exact h9); clear own3) | (at_builtin; refine wpList_append_own _ rfl _ _ 46 rfl w.heap.size 9 i0 (.string ⟨#[]⟩) 1 16 Try.underlying46 HI.out.1 HI.out.2.1 HI.out.2.2.1 HI.out.2.2.2 rfl (by decide) _ _ _ rfl (World.ownsRow.alloc R3.out _) ⟨w3.heap.size, 0, none⟩ 1 1 [.string s] rfl (by rfl) (cell_one_new _ _ _) (oneSC _) (by unfold maxLen; omega) (by omega) (by have := gr3.size; have := X1.size; simp at *; omega) ?_; intro v5 w5 own5 gr5 _; have O5 := Lib.hid own5; have X3 : Ext w w3 := ext_grown X1 gr3 (fun j hj => by cases hj; exact Nat.le_refl _); have HD5 := Lib.hid (HDK.out.ext3C (X3.alloc _) gr5 R3.out hg (Nat.le_refl _)); clear own5) | (at_builtin; refine wpList_append_own _ rfl _ _ 46 rfl w.heap.size 9 i0 (.string ⟨#[]⟩) 1 16 Try.underlying46 HI.out.1 HI.out.2.1 HI.out.2.2.1 HI.out.2.2.2 rfl (by decide) _ _ _ rfl O5.out ⟨g, k, none⟩ (ts.length - k) (cap - k) ((ts.drop k).map Value.string) rfl (by rw [List.length_map, L2.out, Nat.mul_one]) HD5.out (oneL _) (by unfold maxLen; omega) (by omega) (by have := gr3.size; have := X1.size; have := gr5.size; simp at *; omega) ?_; intro v7 w7 own7 gr7 _; have O7 := Lib.hid own7; clear own7))
          all_goals
            have X3 : Ext w w3 := ext_grown X1 gr3 (fun j hj => by cases hj; exact Nat.le_refl _)
            have X5 : Ext w w5 := ext_grown (X3.alloc _) gr5 (own_geC R3.out)
            have X7 : Ext w w7 := ext_grown X5 gr7 (own_geC O5.out)
            go_wp2
            go_ret
            exact ⟨_, rfl, by rw [HPT.out]; exact (row_joinC (l2 := ts.drop k) O7.out L1.out L2.out).down hB, X7, fun _ => by rw [HPT.out]; exact (row_joinC (l2 := ts.drop k) O7.out L1.out L2.out)⟩
      · have t3 : Op.bytesLess ts[k].toList s.toList = true := hL
        have HLT := Lib.hid hL
        clear hL
        go_wp2
        go_roundw
        case rel =>
          refine ⟨k + 1, by omega, by go_num, fun j hj hjk => ?_, trivial⟩
          by_cases e : j = k
          · subst e; exact HLT.out
          · exact HLS.out j hj (by omega)
        case measure => simp [intOf]; omega
    · obtain rfl : k = ts.length := by omega
      have hki : ¬ (ts.length : Int) < (ts.length : Int) := by omega
      have HPK := Lib.hid (pf_front HINC.out ts.length (Nat.le_refl _) HLS.out (fun h => absurd h (by omega)))
      have HPT := Lib.hid (show putL ts s = ts.take ts.length ++ s :: ts.drop ts.length by rw [putL_new (fun h1 h2 => hlt (by rw [HPK.out] at h1; exact h1)), HPK.out])
      have L1 := Lib.hid (show (ts.take ts.length).length = ts.length by rw [List.length_take]; omega)
      have L2 := Lib.hid (show (ts.drop ts.length).length = ts.length - ts.length from List.length_drop ..)
      have HTK := Lib.hid (holds_take hg HCELL.out ts.length)
      have HDK := Lib.hid (holds_drop hg HCELL.out ts.length)
      have L3 := Lib.hid (show (ts.drop ts.length).length = 0 by rw [L2.out]; omega)
      have hk4 : (ts.length : Int) ≤ (cap : Int) := by omega
      by_cases hc0 : cap = ts.length
      · subst hc0
        go_wp2_with (first | (at_builtin; refine wpList_append_own _ rfl _ _ 46 rfl w.heap.size 9 i0 (.string ⟨#[]⟩) 1 16 Try.underlying46 HI.out.1 HI.out.2.1 HI.out.2.2.1 HI.out.2.2.2 rfl (by decide) _ _ _ rfl HM.out ⟨g, 0, none⟩ ts.length ts.length ((ts.take ts.length).map Value.string) rfl (by rw [List.length_map, L1.out, Nat.mul_one]) (HTK.out.ext X1).2 (oneL _) (by unfold maxLen; omega) (by omega) X1.size ?_; intro v3 w3 own3 gr3 _; have R3 := Lib.hid (show w3.ownsRow w.heap.size 9 1 v3 ts.length ((ts.take ts.length).map Value.string) from by have h9 := own3; rw [Nat.zero_add] at h9; exact h9); clear own3) | (at_builtin; refine wpList_append_own _ rfl _ _ 46 rfl w.heap.size 9 i0 (.string ⟨#[]⟩) 1 16 Try.underlying46 HI.out.1 HI.out.2.1 HI.out.2.2.1 HI.out.2.2.2 rfl (by decide) _ _ _ rfl (World.ownsRow.alloc R3.out _) ⟨w3.heap.size, 0, none⟩ 1 1 [.string s] rfl (by rfl) (cell_one_new _ _ _) (oneSC _) (by unfold maxLen; omega) (by omega) (by have := gr3.size; have := X1.size; simp at *; omega) ?_; intro v5 w5 own5 gr5 _; have O5 := Lib.hid own5; clear own5) | (at_builtin; refine wpList_append_own _ rfl _ _ 46 rfl w.heap.size 9 i0 (.string ⟨#[]⟩) 1 16 Try.underlying46 HI.out.1 HI.out.2.1 HI.out.2.2.1 HI.out.2.2.2 rfl (by decide) _ _ _ rfl O5.out ⟨g, 0, none⟩ 0 0 [] rfl (by rfl) (fun j u hj => by simp at hj) (fun u hu => by simp at hu) (by unfold maxLen; omega) (by omega) (by have := gr3.size; have := X1.size; have := gr5.size; simp at *; omega) ?_; intro v7 w7 own7 gr7 _; have O7 := Lib.hid own7; clear own7))
        all_goals
          have hdr : ts.drop ts.length = [] := List.length_eq_zero_iff.1 L3.out
          have X3 : Ext w w3 := ext_grown X1 gr3 (fun j hj => by cases hj; exact Nat.le_refl _)
          have X5 : Ext w w5 := ext_grown (X3.alloc _) gr5 (own_geC R3.out)
          have X7 : Ext w w7 := ext_grown X5 gr7 (own_geC O5.out)
          go_wp2
          go_ret
          exact ⟨_, rfl, by rw [HPT.out]; exact (row_joinC (l2 := ts.drop ts.length) (by first | exact O7.out | (rw [hdr]; exact O7.out)) L1.out L3.out).down hB, X7, fun _ => by rw [HPT.out]; exact (row_joinC (l2 := ts.drop ts.length) (by first | exact O7.out | (rw [hdr]; exact O7.out)) L1.out L3.out)⟩
      · have hc1 : ts.length < cap := by omega
        go_wp2_with (first | (at_builtin; refine wpList_append_own _ rfl _ _ 46 rfl w.heap.size 9 i0 (.string ⟨#[]⟩) 1 16 Try.underlying46 HI.out.1 HI.out.2.1 HI.out.2.2.1 HI.out.2.2.2 rfl (by decide) _ _ _ rfl HM.out ⟨g, 0, none⟩ ts.length cap ((ts.take ts.length).map Value.string) rfl (by rw [List.length_map, L1.out, Nat.mul_one]) (HTK.out.ext X1).2 (oneL _) (by unfold maxLen; omega) (by omega) X1.size ?_; intro v3 w3 own3 gr3 _; have R3 := Lib.hid (show w3.ownsRow w.heap.size 9 1 v3 ts.length ((ts.take ts.length).map Value.string) from by have h9 := own3; rw [Nat.zero_add] at h9; exact h9); clear own3) | (at_builtin; refine wpList_append_own _ rfl _ _ 46 rfl w.heap.size 9 i0 (.string ⟨#[]⟩) 1 16 Try.underlying46 HI.out.1 HI.out.2.1 HI.out.2.2.1 HI.out.2.2.2 rfl (by decide) _ _ _ rfl (World.ownsRow.alloc R3.out _) ⟨w3.heap.size, 0, none⟩ 1 1 [.string s] rfl (by rfl) (cell_one_new _ _ _) (oneSC _) (by unfold maxLen; omega) (by omega) (by have := gr3.size; have := X1.size; simp at *; omega) ?_; intro v5 w5 own5 gr5 _; have O5 := Lib.hid own5; clear own5) | (at_builtin; refine wpList_append_own _ rfl _ _ 46 rfl w.heap.size 9 i0 (.string ⟨#[]⟩) 1 16 Try.underlying46 HI.out.1 HI.out.2.1 HI.out.2.2.1 HI.out.2.2.2 rfl (by decide) _ _ _ rfl O5.out ⟨g, ts.length, none⟩ 0 (cap - ts.length) [] rfl (by rfl) (fun j u hj => by simp at hj) (fun u hu => by simp at hu) (by unfold maxLen; omega) (by omega) (by have := gr3.size; have := X1.size; have := gr5.size; simp at *; omega) ?_; intro v7 w7 own7 gr7 _; have O7 := Lib.hid own7; clear own7))
        all_goals
          have hdr : ts.drop ts.length = [] := List.length_eq_zero_iff.1 L3.out
          have X3 : Ext w w3 := ext_grown X1 gr3 (fun j hj => by cases hj; exact Nat.le_refl _)
          have X5 : Ext w w5 := ext_grown (X3.alloc _) gr5 (own_geC R3.out)
          have X7 : Ext w w7 := ext_grown X5 gr7 (own_geC O5.out)
          go_wp2
          go_ret
          exact ⟨_, rfl, by rw [HPT.out]; exact (row_joinC (l2 := ts.drop ts.length) (by first | exact O7.out | (rw [hdr]; exact O7.out)) L1.out L3.out).down hB, X7, fun _ => by rw [HPT.out]; exact (row_joinC (l2 := ts.drop ts.length) (by first | exact O7.out | (rw [hdr]; exact O7.out)) L1.out L3.out)⟩

set_option maxRecDepth 100000 in
set_option maxHeartbeats 4000000 in
theorem ckPut_nil (s : ByteArray) (w : World) : Calls Try.prog 69 #[.slice none 0 0, .string s] w (ResP (putL [] s) w) := by
  obtain ⟨i0, hi, hz0, hzs, hzb⟩ := info_parts info_strC
  have HI := Lib.hid (show Try.prog.info? 9 = some i0 ∧ i0.zero = some (.string ⟨#[]⟩) ∧ i0.size = 1 ∧ i0.bytes = 16 from ⟨hi, hz0, hzs, hzb⟩)
  clear hi hz0 hzs hzb
  have HPT := Lib.hid (show putL [] s = [s] from rfl)
  have HM := Lib.hid (World.ownsRow_made w (base := w.heap.size) (e := 9) (size := 1) #[] 0 (Nat.le_refl _) (by unfold maxLen; omega) rfl)
  have X1 : Ext w (w.alloc (.cells #[] 9)) := (Ext.refl _).alloc _
  go_enter Try.func69, Try.ntmps69
  go_wp2
  go_loopw [5] (fun i wr => i = .int .i64 0 ∧ w = wr) (fun i _ => (intOf i).toNat)
  case atStart => exact ⟨rfl, rfl⟩
  case round =>
    obtain ⟨rfl, rfl⟩ := hrel
    go_wp2_with (first | (at_builtin; refine wpList_append_own_none rfl _ _ 46 rfl w.heap.size 9 i0 1 Try.underlying46 HI.out.1 _ _ _ rfl HM.out rfl ?_; generalize (w.alloc (.cells #[] 9)) = w3 at HM X1 ⊢) | (at_builtin; refine wpList_append_own _ rfl _ _ 46 rfl w.heap.size 9 i0 (.string ⟨#[]⟩) 1 16 Try.underlying46 HI.out.1 HI.out.2.1 HI.out.2.2.1 HI.out.2.2.2 rfl (by decide) _ _ _ rfl (World.ownsRow.alloc HM.out _) ⟨w3.heap.size, 0, none⟩ 1 1 [.string s] rfl (by rfl) (cell_one_new _ _ _) (oneSC _) (by unfold maxLen; omega) (by omega) (by have := X1.size; simp; omega) ?_; intro v5 w5 own5 gr5 _; have O5 := Lib.hid own5; clear own5) | (at_builtin; refine wpList_append_own_none rfl _ _ 46 rfl w.heap.size 9 i0 1 Try.underlying46 HI.out.1 _ _ _ rfl O5.out rfl ?_))
    have X5 : Ext w w5 := ext_grown (X1.alloc _) gr5 (own_geC HM.out)
    go_wp2
    go_ret
    exact ⟨_, rfl, by rw [HPT.out]; exact O5.out, X5⟩
end Go.Proofs.Ytdhcknknmloopaa
