/- The program's first split of the fewest words. No conditions but the pad's table. -/
import Derived.Test.YtioinihlahnbfaaDoorFirstByF
namespace Go.Proofs.YtioinihlahnbfaaDoor
open Go.RowKit

theorem spK_ok {s : ByteArray} (h : spK s = true) : okQ s := by
  unfold spK at h
  simp only [Bool.and_eq_true, decide_eq_true_eq] at h
  refine ⟨h.2, fun i hi h0 => ?_⟩
  have h1 := isK_get h.1 i hi
  have e : s.data.toList.getD i 0 = s[i] := by
    rw [List.getD_eq_getElem?_getD, List.getElem?_eq_getElem (by simpa using hi)]
    rfl
  rw [e] at h0
  rw [h0] at h1
  exact absurd h1 (by decide)
def okB (ss : List ByteArray) (s : ByteArray) : Bool := dicB ss && spK s
def okV (ss : List ByteArray) (s : ByteArray) : Bool := okB ss s && decide (¬ tq ss s 0 = 0)
def fV (ss : List ByteArray) (s : ByteArray) : List ByteArray := if okV ss s then firstF ss s else []
theorem okB_d {ss : List ByteArray} {s : ByteArray} (h : dicB ss = false) : okB ss s = false := by unfold okB; simp [h]
theorem okB_k {ss : List ByteArray} {s : ByteArray} (h : spK s = false) : okB ss s = false := by unfold okB; simp [h]
theorem okB_yes {ss : List ByteArray} {s : ByteArray} (h : dicB ss = true) (h2 : spK s = true) : okB ss s = true := by unfold okB; simp [h, h2]
theorem okB_and {ss : List ByteArray} {s : ByteArray} (h : okB ss s = true) : dicB ss = true ∧ spK s = true := by unfold okB at h; simpa using h
theorem okV_no {ss : List ByteArray} {s : ByteArray} (h : okB ss s = false) : okV ss s = false := by unfold okV; rw [h]; rfl
theorem okV_eq {ss : List ByteArray} {s : ByteArray} (h : okB ss s = true) : okV ss s = decide (¬ tq ss s 0 = 0) := by unfold okV; rw [h, Bool.true_and]
theorem fV_no {ss : List ByteArray} {s : ByteArray} (h : okV ss s = false) : fV ss s = [] := by unfold fV; simp [h]
theorem fV_yes {ss : List ByteArray} {s : ByteArray} (h : okV ss s = true) : fV ss s = firstF ss s := by unfold fV; simp [h]
theorem okV_and {ss : List ByteArray} {s : ByteArray} (h : okV ss s = true) : okB ss s = true := by unfold okV at h; simp only [Bool.and_eq_true] at h; exact h.1
theorem fV_len (ss : List ByteArray) (s : ByteArray) : (fV ss s).length ≤ 1048576 := by
  cases h : okV ss s
  · rw [fV_no h]; simp
  · rw [fV_yes h]
    have := path_len ss (goF ss s) s.size s.size 0
    have h20 := (spK_ok (okB_and (okV_and h)).2).1
    unfold firstF
    omega
theorem fV_mem (ss : List ByteArray) (s : ByteArray) : ∀ t ∈ fV ss s, t.size ≤ maxLen := by
  intro t ht
  cases h : okV ss s
  · rw [fV_no h] at ht; cases ht
  · rw [fV_yes h] at ht
    have := wdW_size (dicB_mem (okB_and (okV_and h)).1 t (path_mem _ _ _ _ _ t ht))
    unfold maxLen
    omega
theorem spK_one {s : ByteArray} (h : spK s = true) : 1 ≤ s.size := by
  unfold spK at h
  simp only [Bool.and_eq_true] at h
  exact (isK_size h.1).1

theorem row_some {B : Nat} {w : World} {v : Value} {ts : List ByteArray} (h : RowS B w v ts) (hn : ¬ ts.length = 0) : ∃ g c, v = .slice (some ⟨g, 0, none⟩) ts.length c := by
  rcases h.2 with ⟨_, h4⟩ | ⟨g, c, cur, h3, _⟩
  · exact absurd h4 hn
  · exact ⟨g, c, h3⟩
theorem tab_new (w : World) : TabI (w.alloc (.cells zero21 55)) w.heap.size (fun _ => 0) := by
  unfold TabI
  rw [← zero21_eq]
  show (w.heap.push (Obj.cells zero21 55))[w.heap.size]? = _
  simp
theorem tq_fq {ss : List ByteArray} {s : ByteArray} (hd : dicB ss = true) (hq : s.size ≤ 20) : (¬ tq ss s 0 = 0 → fq ss s 0 ≤ 20) ∧ (tq ss s 0 = 0 → fq ss s 0 = 21) :=
  ⟨fun h => by have := fq_small hd s hq 0 (Nat.zero_le _) h; omega, fun h => fq_none hd s hq 0 (Nat.zero_le _) h⟩
set_option maxHeartbeats 1000000 in
theorem firstFewest_any (v : Value) (ss : List ByteArray) (s : ByteArray) (w : World) (h : Strs w v ss) (hs : s.size ≤ maxLen) (hp : PadIs w) : Calls Tryd.prog 23 #[v, .string s] w (ResS (fV ss s) (okV ss s) w) := by
  have HS := Lib.hid h
  clear h
  cases hd : dicB ss
  · have H := Lib.hid (okV_no (okB_d (s := s) hd))
    go_enter Tryd.func23, Tryd.ntmps23
    go_wp2_with (go_at_call 32; refine (dict_any _ _ _ HS.out).mono ?_; rintro e w1 ⟨rfl, x1⟩)
    go_ret2
    exact ⟨_, ret_vb H.out.symm, by rw [fV_no H.out]; exact RowS.nil _ _, x1⟩
  cases hk : spK s
  · have H := Lib.hid (okV_no (okB_k (ss := ss) hk))
    go_enter Tryd.func23, Tryd.ntmps23
    go_wp2_with (first | (go_at_call 32; refine (dict_any _ _ _ HS.out).mono ?_; rintro e w1 ⟨rfl, x1⟩) | (go_at_call 38; refine (areSplit_any _ _ hs).mono ?_; rintro e w' ⟨rfl, rfl⟩))
    go_ret2
    exact ⟨_, ret_vb H.out.symm, by rw [fV_no H.out]; exact RowS.nil _ _, x1⟩
  have HB := Lib.hid (okB_yes hd hk)
  have HD := Lib.hid hd
  have HQ := Lib.hid (spK_ok hk)
  have HK1 := Lib.hid (spK_one hk)
  have h21 : (tabL (gFrom ss s 0)).length = 21 := tabL_len _
  have hmf : ∀ (fn : Fn) (first cap : Array Value) (w : World), (Instr.makeFunc fn first cap).run Tryd.prog w = .ok (.func fn first cap) w := fun _ _ _ _ => rfl
  have HT := Lib.hid (tq_fq HD.out HQ.out.1)
  obtain ⟨F, hF⟩ : ∃ F, F = fq ss s 0 := ⟨_, rfl⟩
  have HFF := Lib.hid hF
  have HG0 := Lib.hid (show gFrom ss s 0 0 = (F : Int) by unfold gFrom; rw [if_pos (by omega), hF])
  clear hF
  by_cases h0 : tq ss s 0 = 0
  · have H := Lib.hid (show okV ss s = false by rw [okV_eq HB.out]; exact decide_eq_false (fun h => h h0))
    have hF21 : (21 : Int) ≤ (F : Int) := by have := HT.out.2 h0; have := HFF.out; omega
    clear h0
    go_enter Tryd.func23, Tryd.ntmps23
    go_wp2_with (first | (go_at_call 32; refine (dict_any _ _ _ HS.out).mono ?_; rintro e w1 ⟨rfl, x1⟩) | (go_at_call 38; refine (areSplit_any _ _ hs).mono ?_; rintro e w' ⟨rfl, rfl⟩) | (go_at_call 48; refine (keep_any _ _ _ (HS.out.ext x1) HD.out (hp.ext x1)).mono ?_; rintro e w2 ⟨rfl, k2, x2⟩) | (go_at_call 47; refine (fewestFrom_any _ _ _ _ _ k2 HQ.out).mono ?_; rintro e w3 ⟨rfl, x3⟩; obtain ⟨W4, hst, hg4, x4⟩ := tab_store (w3.alloc (.cells zero21 55)) w3.heap.size (fun _ => 0) (gFrom ss s 0) (tab_new w3) ((Ext.refl w3).alloc _) (Nat.le_refl _); unfold zero21 at hst; have G4 := Lib.hid hg4; have c4 := (show TabI W4 w3.heap.size (gFrom ss s 0) from hg4).at 0 (by omega); rw [HG0.out] at c4; clear hg4))
    go_ret2
    exact ⟨_, ret_vb H.out.symm, by rw [fV_no H.out]; exact RowS.nil _ _, (((x1.trans x2).trans x3).trans x4)⟩
  · have H := Lib.hid (show okV ss s = true by rw [okV_eq HB.out]; exact decide_eq_true h0)
    have H20 := Lib.hid (HT.out.1 h0)
    have hF21 : ¬ (21 : Int) ≤ (F : Int) := by have := HT.out.1 h0; have := HFF.out; omega
    clear h0
    go_enter Tryd.func23, Tryd.ntmps23
    go_wp2_with (first | (go_at_call 32; refine (dict_any _ _ _ HS.out).mono ?_; rintro e w1 ⟨rfl, x1⟩) | (go_at_call 38; refine (areSplit_any _ _ hs).mono ?_; rintro e w' ⟨rfl, rfl⟩) | (go_at_call 48; refine (keep_any _ _ _ (HS.out.ext x1) HD.out (hp.ext x1)).mono ?_; rintro e w2 ⟨rfl, k2, x2⟩) | (go_at_call 47; refine (fewestFrom_any _ _ _ _ _ k2 HQ.out).mono ?_; rintro e w3 ⟨rfl, x3⟩; obtain ⟨W4, hst, hg4, x4⟩ := tab_store (w3.alloc (.cells zero21 55)) w3.heap.size (fun _ => 0) (gFrom ss s 0) (tab_new w3) ((Ext.refl w3).alloc _) (Nat.le_refl _); unfold zero21 at hst; have G4 := Lib.hid hg4; have c4 := (show TabI W4 w3.heap.size (gFrom ss s 0) from hg4).at 0 (by omega); rw [HG0.out] at c4; clear hg4) | (go_at_call 49; refine (firstByF_any _ ss s w3.heap.size W4 (HS.out.ext (((x1.trans x2).trans x3).trans x4)) HD.out HQ.out.1 HK1.out (hp.ext (((x1.trans x2).trans x3).trans x4)) G4.out H20.out).mono ?_; rintro e w5 ⟨v5, rfl, r5, x5⟩; have R5 := Lib.hid r5; clear r5))
    go_ret2
    exact ⟨_, ret_vb H.out.symm, by rw [fV_yes H.out]; exact R5.out.down (((x1.trans x2).trans x3).trans x4).size, ((((x1.trans x2).trans x3).trans x4).trans x5)⟩

end Go.Proofs.YtioinihlahnbfaaDoor
