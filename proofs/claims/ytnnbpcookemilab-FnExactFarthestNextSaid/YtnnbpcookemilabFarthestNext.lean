/- For every keys and kind of distance the program's FarthestNext answers as its model does. No conditions. -/
import Derived.Test.YtnnbpcookemilabRows
import Derived.Test.YtnnbpcookemilabLaw
import Derived.Test.YtnnbpcookemilabGrow
namespace Go.Proofs.Ytnnbpcookemilab.farthestNext
open Go.ChangeShapes Go.WideShapes Go.ChangeAt Go.RowKit
open Go.ChangeMaps (open_string shut_string)

/-- The distance from a key to the next one. -/
def dN (c : Bool) (ps : List Nat) (k : Nat) : Nat := far c (ps.getD k 0) (ps.getD (k + 1) 0)
/-- The first of the farthest ones among the first so many, and how far it is. -/
def fF (c : Bool) (ps : List Nat) : Nat → Nat × Nat
  | 0 => (0, 0)
  | k + 1 => if (fF c ps k).2 < dN c ps k then (k, dN c ps k) else fF c ps k
theorem fF_yes {c : Bool} {ps : List Nat} {k : Nat} (h : (fF c ps k).2 < dN c ps k) : fF c ps (k + 1) = (k, dN c ps k) := by
  show (if _ then _ else _) = _
  rw [if_pos h]
theorem fF_no {c : Bool} {ps : List Nat} {k : Nat} (h : ¬ (fF c ps k).2 < dN c ps k) : fF c ps (k + 1) = fF c ps k := by
  show (if _ then _ else _) = _
  rw [if_neg h]
theorem fF_one (c : Bool) (ps : List Nat) : fF c ps 1 = (0, dN c ps 0) := by
  by_cases h : (fF c ps 0).2 < dN c ps 0
  · exact fF_yes h
  · rw [fF_no h]
    have h2 : ¬ 0 < dN c ps 0 := h
    have h3 : dN c ps 0 = 0 := by omega
    rw [h3]; rfl
theorem fF_lt (c : Bool) (ps : List Nat) (k : Nat) : (fF c ps k).1 ≤ k := by
  induction k with
  | zero => exact Nat.le_refl _
  | succ k ih =>
    by_cases h : (fF c ps k).2 < dN c ps k
    · rw [fF_yes h]; exact Nat.le_succ _
    · rw [fF_no h]; omega
/-- What the model knows as the farthest one. -/
def fM (c : Bool) (ps : List Nat) : Nat → Int
  | 0 => -1
  | k + 1 => ((fF c ps (k + 1)).2 : Nat)
theorem fM_pos (c : Bool) (ps : List Nat) (k : Nat) (h : 0 < k) : fM c ps k = ((fF c ps k).2 : Nat) := by
  obtain ⟨j, rfl⟩ : ∃ j, k = j + 1 := ⟨k - 1, by omega⟩
  rfl
theorem fM_yes {c : Bool} {ps : List Nat} {k : Nat} (h : fM c ps k < (dN c ps k : Int)) : (fF c ps (k + 1)).1 = k ∧ fM c ps (k + 1) = (dN c ps k : Int) := by
  cases k with
  | zero =>
    have e := fF_one c ps
    exact ⟨by rw [e], by show (((fF c ps 1).2 : Nat) : Int) = _; rw [e]⟩
  | succ k =>
    have h2 : (((fF c ps (k + 1)).2 : Nat) : Int) < (dN c ps (k + 1) : Int) := h
    have e := @fF_yes c ps (k + 1) (by omega)
    exact ⟨by rw [e], by show (((fF c ps (k + 2)).2 : Nat) : Int) = _; rw [e]⟩
theorem fM_no {c : Bool} {ps : List Nat} {k : Nat} (h : ¬ fM c ps k < (dN c ps k : Int)) : (fF c ps (k + 1)).1 = (fF c ps k).1 ∧ fM c ps (k + 1) = fM c ps k := by
  cases k with
  | zero =>
    have h2 : ¬ (-1 : Int) < (dN c ps 0 : Int) := h
    omega
  | succ k =>
    have h2 : ¬ (((fF c ps (k + 1)).2 : Nat) : Int) < (dN c ps (k + 1) : Int) := h
    have e := @fF_no c ps (k + 1) (by omega)
    exact ⟨by rw [e], by show (((fF c ps (k + 2)).2 : Nat) : Int) = _; rw [e]; rfl⟩
theorem dN_at (c : Bool) (ps : List Nat) (k : Nat) (h : k + 1 < ps.length) : dN c ps k = far c (ps[k]'(by omega)) ps[k + 1] := by
  unfold dN
  rw [List.getD_eq_getElem?_getD, List.getD_eq_getElem?_getD, List.getElem?_eq_getElem h, List.getElem?_eq_getElem (by omega : k < ps.length)]
  rfl
theorem dN_le (c : Bool) (ps : List Nat) (hp : ∀ q ∈ ps, q < 12) (k : Nat) (h : k + 1 < ps.length) : dN c ps k ≤ 5 := by
  rw [dN_at c ps k h]
  exact far_le _ _ _ (hp _ (List.getElem_mem _)) (hp _ (List.getElem_mem _))
theorem fF_le (c : Bool) (ps : List Nat) (hp : ∀ q ∈ ps, q < 12) (k : Nat) (h : k < ps.length) : (fF c ps k).2 ≤ 5 := by
  induction k with
  | zero => exact Nat.zero_le _
  | succ k ih =>
    by_cases h2 : (fF c ps k).2 < dN c ps k
    · rw [fF_yes h2]; exact dN_le c ps hp k h
    · rw [fF_no h2]; exact ih (by omega)
theorem ps1 (w : World) (q : Nat) (t : TypeId) : Ps (w.alloc (.cells #[.int .i64 (q : Int)] t)) (.slice (some ⟨w.heap.size, 0, none⟩) 1 1) [q] := by
  refine ⟨by unfold maxLen; simp, .inr ⟨w.heap.size, 0, 1, rfl, by simp [go_sem], fun j hj => ?_⟩⟩
  have : j = 0 := by simpa using hj
  subst this
  simp [go_sem]
theorem one_lt {q : Nat} (h : q < 12) : ∀ x ∈ [q], x < 12 := by
  intro x hx
  rw [List.mem_singleton] at hx
  omega
def fnOk (s : ByteArray) : Bool := isD s && decide (2 ≤ s.size)
def fnI (s : ByteArray) (c : Bool) : Int := (if fnOk s then (fF c (plcs s) (s.size - 1)).1 else 0 : Nat)
def fnN (s : ByteArray) (c : Bool) : Int := (if fnOk s then (fF c (plcs s) (s.size - 1)).2 else 0 : Nat)
theorem fnI_no {s : ByteArray} {c : Bool} (h : fnOk s = false) : fnI s c = 0 := by unfold fnI; rw [h]; rfl
theorem fnN_no {s : ByteArray} {c : Bool} (h : fnOk s = false) : fnN s c = 0 := by unfold fnN; rw [h]; rfl
theorem fnI_yes {s : ByteArray} {c : Bool} (h : fnOk s = true) : fnI s c = ((fF c (plcs s) (s.size - 1)).1 : Nat) := by unfold fnI; rw [h]; rfl
theorem fnN_yes {s : ByteArray} {c : Bool} (h : fnOk s = true) : fnN s c = ((fF c (plcs s) (s.size - 1)).2 : Nat) := by unfold fnN; rw [h]; rfl
theorem fnOk_no {s : ByteArray} (h : isD s = false) : fnOk s = false := by unfold fnOk; rw [h]; rfl
theorem fnOk_no2 {s : ByteArray} (h : s.size < 2) : fnOk s = false := by unfold fnOk; rw [decide_eq_false (by omega), Bool.and_false]
theorem fnOk_yes {s : ByteArray} (h : isD s = true) (h2 : 2 ≤ s.size) : fnOk s = true := by unfold fnOk; rw [h, decide_eq_true h2]; rfl

set_option maxHeartbeats 2000000 in
theorem impl_any (s : ByteArray) (c : Bool) (w : World) (hs : s.size ≤ maxLen) : Calls Try.prog 8 #[.string s, .bool c] w fun e w' => e = .returned (.tuple #[.int .i64 (fnI s c), .int .i64 (fnN s c), .bool (fnOk s)]) ∧ Ext w w' := by
  cases h : isD s
  · have HO := Lib.hid (fnOk_no h)
    have HI := Lib.hid (fnI_no (c := c) HO.out)
    have HN := Lib.hid (fnN_no (c := c) HO.out)
    go_enter Try.func8, Try.ntmps8
    go_wp2_with (go_at_call 17; refine (isD_any _ _ hs).mono ?_; rintro e w' ⟨rfl, rfl⟩; rw [h])
    go_ret3
    exact ⟨by rw [HI.out, HN.out, HO.out]; rfl, Ext.refl _⟩
  by_cases h2 : s.size < 2
  · have HO := Lib.hid (fnOk_no2 h2)
    have HI := Lib.hid (fnI_no (c := c) HO.out)
    have HN := Lib.hid (fnN_no (c := c) HO.out)
    have h2i : (s.size : Int) < 2 := by omega
    go_enter Try.func8, Try.ntmps8
    go_wp2_with (go_at_call 17; refine (isD_any _ _ hs).mono ?_; rintro e w' ⟨rfl, rfl⟩; rw [h])
    go_ret3
    exact ⟨by rw [HI.out, HN.out, HO.out]; rfl, Ext.refl _⟩
  have HO := Lib.hid (fnOk_yes h (by omega))
  have HI := Lib.hid (fnI_yes (c := c) HO.out)
  have HN := Lib.hid (fnN_yes (c := c) HO.out)
  have h2i : ¬ (s.size : Int) < 2 := by omega
  have h30 := isD_size h
  have HPL := Lib.hid (plcs_lt s)
  have HL := Lib.hid (plcs_len s)
  go_enter Try.func8, Try.ntmps8
  go_wp2_with (go_at_call 17; refine (isD_any _ _ hs).mono ?_; rintro e w' ⟨rfl, rfl⟩; rw [h])
  refine (walkWith_any c _).mono ?_
  rintro e w1 ⟨f, rfl, hf, x1⟩
  obtain ⟨C, rfl, hC, hcC⟩ := hf
  go_wp2_with fail
  refine (placesOf_any s w1 h).mono ?_
  rintro e w2 ⟨v, rfl, hv, x2⟩
  obtain ⟨ps, hps⟩ : ∃ ps, ps = plcs s := ⟨_, rfl⟩
  rw [← hps] at HI HN HPL HL hv
  clear hps
  have HP := Lib.hid (RowP.ps hv (by rw [HL.out]; unfold maxLen; omega))
  obtain ⟨a, cap, rfl⟩ := hv.shape
  clear hv
  have hC2 : C < w2.heap.size := Nat.lt_of_lt_of_le hC x2.size
  have hcC2 := (x2.cell (p := ⟨C, 0, none⟩) hC).trans hcC
  have X2 : Ext w w2 := x1.trans x2
  clear hcC hC
  obtain ⟨n, hn⟩ : ∃ n, n = ps.length := ⟨_, rfl⟩
  have HNN := Lib.hid hn
  have hns : 2 ≤ n := by rw [hn, HL.out]; omega
  have hns2 : n ≤ 30 := by rw [hn, HL.out]; omega
  rw [← hn] at HP ⊢
  clear hn
  go_wp2_with fail
  have HN1 := Lib.hid (show s.size - 1 = n - 1 by have := HNN.out; have := HL.out; omega)
  obtain ⟨m, hm⟩ : ∃ m, m = n - 1 := ⟨_, rfl⟩
  have hmi : (n : Int) - 1 = (m : Int) := by omega
  have hm2 : m ≤ 29 := by omega
  have HM := Lib.hid hm
  rw [hmi]
  clear hm
  go_loopw [9, 10, 28] (fun f d i wr => ∃ k : Nat, k ≤ m ∧ i = .int .i64 k ∧ f = .int .i64 ((fF c ps k).1 : Nat) ∧ d = .int .i64 ((fF c ps k).2 : Nat) ∧ Ext w2 wr) (fun _ _ i _ => m - (intOf i).toNat)
  case atStart => exact ⟨0, Nat.zero_le _, rfl, rfl, rfl, Ext.refl _⟩
  case round =>
    obtain ⟨k, hk, rfl, rfl, rfl, hx⟩ := hrel
    by_cases hlt : k < m
    · have hk1 : k + 1 < ps.length := by have := HM.out; have := HNN.out; omega
      have hk0 : k < ps.length := by omega
      have HG := Lib.hid (HP.out.ext hx)
      rw [HNN.out] at HG
      obtain ⟨b, off, ha, hb, e1⟩ := HG.out.get k hk0
      obtain ⟨b2, off2, ha2, _, e2⟩ := HG.out.get (k + 1) hk1
      subst ha
      injection ha2 with ha3
      injection ha3 with ha4 ha5
      subst ha4
      subst ha5
      have hp12 := HPL.out _ (List.getElem_mem hk0)
      have hq12 := HPL.out _ (List.getElem_mem hk1)
      have HD := Lib.hid (dN_at c ps k hk1)
      have hki : (k : Int) < (n : Int) := by have := HNN.out; omega
      have hki1 : (k : Int) + 1 < (n : Int) := by have := HNN.out; omega
      have hki2 : k + 1 < n := by have := HNN.out; omega
      have hki3 : k < n := by omega
      obtain ⟨p, hp⟩ : ∃ p, p = ps[k] := ⟨_, rfl⟩
      obtain ⟨q, hq⟩ : ∃ q, q = ps[k + 1] := ⟨_, rfl⟩
      rw [← hp] at e1 hp12 HD
      rw [← hq] at e2 hq12 HD
      obtain ⟨k1, hk1e⟩ : ∃ k1, k1 = k + 1 := ⟨_, rfl⟩
      have HK1 := Lib.hid hk1e
      rw [← hk1e] at e2 hki2
      have hk1i : (k : Int) + 1 = (k1 : Int) := by omega
      have W1 : IntKind.i64.wrap ((k : Int) + 1) = (k1 : Int) := by simp only [IntKind.wrap_i64]; omega
      have W2 : IntKind.i64.wrap (k1 : Int) = (k1 : Int) := by simp only [IntKind.wrap_i64]; omega
      have hk1b : (k1 : Int) < (n : Int) := by omega
      have hk1n : (0 : Int) ≤ (k1 : Int) := by omega
      clear hki1
      have hC3 : C < (wr.alloc (.cells #[.int .i64 (q : Int)] 3)).drew.heap.size := by
        have := hx.size
        simp [go_sem]; omega
      have hX3 : Ext wr (wr.alloc (.cells #[.int .i64 (q : Int)] 3)).drew := (Below.alloc (Ext.refl _) (Nat.le_refl _) _ : Ext wr _).drew
      have hcC3 := ((hx.trans hX3).cell (p := ⟨C, 0, none⟩) hC2).trans hcC2
      have hw1 : wlk c p [q] = dN c ps k := by rw [HD.out]; rfl
      have HW1 := Lib.hid hw1
      clear hw1 hp hq HG hk1 hk1e
      obtain ⟨D, hDe⟩ : ∃ D, D = dN c ps k := ⟨_, rfl⟩
      obtain ⟨M, hMe⟩ : ∃ M, M = (fF c ps k).2 := ⟨_, rfl⟩
      have hY := @fF_yes c ps k
      have hN' := @fF_no c ps k
      rw [← hDe] at HW1
      rw [← hDe, ← hMe] at hY hN'
      rw [← hMe]
      have HMe := Lib.hid hMe
      clear hDe hMe HD
      by_cases hc2 : M < D
      · have HF := Lib.hid (hY hc2)
        have hci : (M : Int) < (D : Int) := by omega
        have hdd : decide ((M : Int) < (D : Int)) = true := decide_eq_true hci
        clear hY hN'
        go_wp2
        go_region_with (go_at_call 34; refine (wlk_any p _ [q] C c (wr.alloc (.cells #[.int .i64 (q : Int)] 3)).drew ((ps1 wr q 3).ext (Ext.refl _).drew) hC3 hcC3 hp12 (one_lt hq12) (show [q].length ≤ 1000 from Nat.succ_le_succ (Nat.zero_le _))).mono ?_; rintro e w9 ⟨rfl, x9⟩; rw [HW1.out])
        all_goals go_wp2
        all_goals exact ⟨⟨k1, by have := HK1.out; omega, rfl, by rw [HK1.out, HF.out], by rw [HK1.out, HF.out], (hx.trans hX3).trans (by assumption)⟩, by simp [intOf]; have := HK1.out; omega⟩
      · have HF := Lib.hid (hN' hc2)
        have hci : ¬ (M : Int) < (D : Int) := by omega
        have hdd : decide ((M : Int) < (D : Int)) = false := decide_eq_false hci
        clear hY hN'
        go_wp2
        go_region_with (go_at_call 34; refine (wlk_any p _ [q] C c (wr.alloc (.cells #[.int .i64 (q : Int)] 3)).drew ((ps1 wr q 3).ext (Ext.refl _).drew) hC3 hcC3 hp12 (one_lt hq12) (show [q].length ≤ 1000 from Nat.succ_le_succ (Nat.zero_le _))).mono ?_; rintro e w9 ⟨rfl, x9⟩; rw [HW1.out])
        all_goals go_wp2
        all_goals exact ⟨⟨k1, by have := HK1.out; omega, rfl, by rw [HK1.out, HF.out], by rw [HK1.out, HF.out, ← HMe.out], (hx.trans hX3).trans (by assumption)⟩, by simp [intOf]; have := HK1.out; omega⟩
    · obtain rfl : k = m := by omega
      go_wp2
      go_ret3
      exact ⟨by rw [HI.out, HN.out, HO.out, HN1.out, ← HM.out]; rfl, X2.trans hx⟩

set_option maxHeartbeats 2000000 in
theorem spec_any (s : ByteArray) (c : Bool) (w : World) (hs : s.size ≤ maxLen) : Calls Try.prog 7 #[.string s, .bool c] w fun e w' => e = .returned (.tuple #[.int .i64 (fnI s c), .int .i64 (fnN s c), .bool (fnOk s)]) ∧ Ext w w' := by
  cases h : isD s
  · have HO := Lib.hid (fnOk_no h)
    have HI := Lib.hid (fnI_no (c := c) HO.out)
    have HN := Lib.hid (fnN_no (c := c) HO.out)
    go_enter Try.func7, Try.ntmps7
    go_wp2_with (go_at_call 15; refine (thGood_any _ _ hs).mono ?_; rintro e w' ⟨rfl, rfl⟩; rw [h])
    go_ret3
    exact ⟨by rw [HI.out, HN.out, HO.out]; rfl, Ext.refl _⟩
  by_cases h2 : s.size < 2
  · have HO := Lib.hid (fnOk_no2 h2)
    have HI := Lib.hid (fnI_no (c := c) HO.out)
    have HN := Lib.hid (fnN_no (c := c) HO.out)
    have h2i : (s.size : Int) < 2 := by omega
    go_enter Try.func7, Try.ntmps7
    go_wp2_with (go_at_call 15; refine (thGood_any _ _ hs).mono ?_; rintro e w' ⟨rfl, rfl⟩; rw [h])
    go_ret3
    exact ⟨by rw [HI.out, HN.out, HO.out]; rfl, Ext.refl _⟩
  have HO := Lib.hid (fnOk_yes h (by omega))
  have HI := Lib.hid (fnI_yes (c := c) HO.out)
  have HN := Lib.hid (fnN_yes (c := c) HO.out)
  have h2i : ¬ (s.size : Int) < 2 := by omega
  have h30 := isD_size h
  have HPL := Lib.hid (plcs_lt s)
  have HL := Lib.hid (plcs_len s)
  have HD := Lib.hid h
  go_enter Try.func7, Try.ntmps7
  go_wp2_with (go_at_call 15; refine (thGood_any _ _ hs).mono ?_; rintro e w' ⟨rfl, rfl⟩; rw [h])
  go_loopw [7, 8, 9] (fun f d i wr => ∃ j : Nat, j + 1 ≤ s.size ∧ i = .int .i64 (j + 1 : Nat) ∧ f = .int .i64 ((fF c (plcs s) j).1 : Nat) ∧ d = .int .i64 (fM c (plcs s) j) ∧ Ext w wr) (fun _ _ i _ => s.size - (intOf i).toNat)
  case atStart => exact ⟨0, by omega, rfl, rfl, rfl, Ext.refl _⟩
  case round =>
    obtain ⟨j, hj, rfl, rfl, rfl, hx⟩ := hrel
    obtain ⟨k1, hk1e⟩ : ∃ k1, k1 = j + 1 := ⟨_, rfl⟩
    have HK1 := Lib.hid hk1e
    have W1 : IntKind.i64.wrap ((k1 : Int) - 1) = (j : Int) := by simp only [IntKind.wrap_i64]; omega
    have W2 : IntKind.i64.wrap (j : Int) = (j : Int) := by simp only [IntKind.wrap_i64]; omega
    have hk1i : (k1 : Int) - 1 = (j : Int) := by omega
    have hk1b : k1 ≤ 30 := by omega
    rw [← hk1e]
    by_cases hlt : k1 < s.size
    · have hjlt : j < s.size := by omega
      have hjl : j + 1 < (plcs s).length := by rw [HL.out]; omega
      have HDD := Lib.hid (show dN c (plcs s) j = far c (pn s[j]) (pn s[k1]) by
        rw [dN_at c _ j hjl, plcs_at, plcs_at]
        subst hk1e
        rfl)
      have hKj := isD_get HD.out j hjlt
      have hKk := isD_get HD.out k1 hlt
      have z1 : ∀ w, (Instr.index 9 (.string s) (.int .i64 (j : Int))).run Try.prog w = .ok (.int .u8 (s[j]'hjlt).toNat) w := fun w => ixS s j hjlt w
      have z2 : ∀ w, (Instr.index 9 (.string s) (.int .i64 (k1 : Int))).run Try.prog w = .ok (.int .u8 (s[k1]'hlt).toNat) w := fun w => ixS s k1 hlt w
      obtain ⟨x, hxe⟩ : ∃ x, x = s[j]'hjlt := ⟨_, rfl⟩
      obtain ⟨y, hye⟩ : ∃ y, y = s[k1]'hlt := ⟨_, rfl⟩
      rw [← hxe] at hKj z1
      rw [← hye] at hKk z2
      rw [← hxe, ← hye] at HDD
      obtain ⟨M, hMe⟩ : ∃ M, M = fM c (plcs s) j := ⟨_, rfl⟩
      have hY := @fM_yes c (plcs s) j
      have hN' := @fM_no c (plcs s) j
      rw [HDD.out, ← hMe] at hY hN'
      rw [← hMe]
      clear hxe hye hk1e hMe
      by_cases hc2 : M < (far c (pn x) (pn y) : Int)
      · have HF := Lib.hid (hY hc2)
        have hdd : decide (M < (far c (pn x) (pn y) : Int)) = true := decide_eq_true hc2
        clear hY hN'
        go_wp2
        go_quiet (first | (exact Calls.quiet_of_same ((thFar_any _ _ _ _ (by assumption) (by assumption)).mono fun e w' h => ⟨h.1, h.2.symm⟩)))
        go_wp2
        exact ⟨⟨j + 1, by have := HK1.out; omega, by have := HK1.out; go_num, by rw [HF.out.1], by rw [HF.out.2], ext_drewN hx _⟩, by simp [intOf]; omega⟩
      · have HF := Lib.hid (hN' hc2)
        have hdd : decide (M < (far c (pn x) (pn y) : Int)) = false := decide_eq_false hc2
        clear hY hN'
        go_wp2
        go_quiet (first | (exact Calls.quiet_of_same ((thFar_any _ _ _ _ (by assumption) (by assumption)).mono fun e w' h => ⟨h.1, h.2.symm⟩)))
        go_wp2
        exact ⟨⟨j + 1, by have := HK1.out; omega, by have := HK1.out; go_num, by rw [HF.out.1], by rw [HF.out.2], ext_drewN hx _⟩, by simp [intOf]; omega⟩
    · have hj2 : j = s.size - 1 := by omega
      have HJ := Lib.hid hj2
      have HMM := Lib.hid (show fM c (plcs s) j = ((fF c (plcs s) j).2 : Nat) from fM_pos c _ j (by omega))
      clear hj2 hk1e
      go_wp2
      go_ret3
      exact ⟨by rw [HI.out, HN.out, HO.out, ← HJ.out, ← HMM.out]; rfl, hx⟩

set_option maxHeartbeats 1000000 in
theorem walk (s0 : ByteArray) (hs0 : s0.size ≤ maxLen) (s1 : Bool) (w : World) : Calls Try.prog 3 #[.string s0, .bool s1] w fun e w' => e = .returned (.bool true) ∧ Ext w w' := by
  have h63_0 : s0.size ≤ 9223372036854775807 := hs0
  obtain ⟨X0, hX0⟩ : ∃ X, X = (fnI s0 s1) := ⟨_, rfl⟩
  obtain ⟨X1, hX1⟩ : ∃ X, X = (fnN s0 s1) := ⟨_, rfl⟩
  obtain ⟨ok, hok⟩ : ∃ X, X = (fnOk s0) := ⟨_, rfl⟩
  have HP := Lib.hid (show ∀ w, Calls Try.prog 7 #[.string s0, .bool s1] w fun e w' => e = .returned (.tuple #[.int .i64 X0, .int .i64 X1, .bool ok]) ∧ Ext w w' from fun w => by rw [hX0, hX1, hok]; exact spec_any s0 s1 w hs0 )
  have HM := Lib.hid (show ∀ w, Calls Try.prog 8 #[.string s0, .bool s1] w fun e w' => e = .returned (.tuple #[.int .i64 X0, .int .i64 X1, .bool ok]) ∧ Ext w w' from fun w => by rw [hX0, hX1, hok]; exact impl_any s0 s1 w hs0 )
  clear hX0 hX1 hok
  by_cases hbig0 : 1048576 < s0.size
  · go_enter Try.func3, Try.ntmps3
    go_wp2
    go_ret
    exact ⟨rfl, Ext.refl _⟩
  go_enter Try.func3, Try.ntmps3
  go_wp2_with fail
  refine (HP.out _).mono ?_
  rintro e w1 ⟨rfl, x1⟩
  go_wp2_with fail
  refine (HM.out _).mono ?_
  rintro e w2 ⟨rfl, x2⟩
  go_wp2
  go_ret
  exact ⟨rfl, x1.trans x2⟩

set_option maxRecDepth 100000 in
theorem contract (H : Type) (enc : TypeId × Value → H) (W : World) (base : Nat) (args : Array Value) (ds gs : List (DataW H)) (before : List MemPlace)
    (hval : ∀ (j : Nat) t v, Try.f3.params[j]? = some t → args[j]? = some v → Value.okWide Try.prog W .any base t v)
    (hW : DataW.Whole enc Try.prog Try.f3.params.toList Rows.fnExactFarthestNextSpec.vars false W args.toList ds gs before) :
    Calls Try.prog 3 args W fun e W' => ∃ v, e = .returned v ∧ Rows.fnExactFarthestNextSpec.post enc Try.prog Try.f3 false true false false W args v W' := by
  have hW' := hW
  obtain ⟨p, q, hA0, hV, rfl, hfz, hnd⟩ := hW
  have hA : DataW.TrodAll enc Try.prog W 0 (fun _ => true) true Try.f3.params.toList args.toList ds p := hA0
  rw [Try.params3] at hA hval
  obtain ⟨v0, vs0, d0, ds0, p0, q0, hargs0, rfl, rfl, h0, r0⟩ := trodAll_cons hA
  obtain ⟨v1, vs1, d1, ds1, p1, q1, hargs1, rfl, rfl, h1, r1⟩ := trodAll_cons r0
  obtain ⟨rfl, rfl, rfl⟩ := trodAll_nil r1
  subst hargs1
  obtain rfl : args = #[v0, v1] := Array.toList_inj.1 hargs0
  obtain ⟨s0, rfl, rfl, rfl, z0⟩ := open_string Try.underlying9 (hval 0 9 v0 rfl rfl) h0
  obtain ⟨s1, rfl, rfl, rfl⟩ := open_bool Try.underlying4 (hval 1 4 v1 rfl rfl) h1
  clear hA0
  refine (walk s0 z0 s1 W).mono fun e W' ⟨he, hx⟩ => ?_
  subst he
  exact ⟨_, rfl, post_true (tb := 4) laidOut (by rw [Try.params3]; intro t ht; simp at ht; rcases ht with rfl | rfl <;> exact ⟨by kernel_rfl, of_decide_eq_true (by kernel_rfl)⟩) (by kernel_rfl) hW' hx (by obtain ⟨rfl, rfl⟩ := trodVars_none hV; rfl) rfl Try.underlying4⟩

set_option maxRecDepth 100000 in
theorem lifted (os : Os) (started : os.Started) (H : Type) (enc : TypeId × Value → H) :
    ReturnsInHanded {} Try.checked os 3 .any (Rows.fnExactFarthestNextSpec.pre6 enc Try.prog Try.f3 Rows.fnExactFarthestNextRow.domain false) (Rows.fnExactFarthestNextSpec.post enc Try.prog Try.f3 false true false false) := by
  refine returnsInHanded_of_change (C := Try.checked) own started (by kernel_rfl) Try.func3
    (ChangeSpec.witness6 (enc := enc) (C := Try.checked) false ⟨#[], #[.string ByteArray.empty, .bool false], []⟩ 8 (by kernel_rfl) (by kernel_rfl) (by kernel_rfl) (by kernel_rfl)) ?_
  intro W base args ds gs before hval hW _ _
  exact contract H enc W base args ds gs before hval hW

theorem said : Rows.FnExactFarthestNextSaid :=
  OpenClaim.holds_of_wide 3 Try.f3 rfl rfl rfl rfl rfl rfl rfl ⟨rfl, rfl, rfl, rfl, rfl⟩ rfl rfl rfl rfl rfl (by kernel_rfl) Try.func3 (by kernel_rfl)
    (of_decide_eq_true (by kernel_rfl)) (by unfold Func.isWrapper; first | (rw [if_pos (by decide +kernel)]; kernel_rfl) | (rw [if_neg (by decide +kernel)]; exact ⟨rfl, rfl⟩))
    (fun os started H enc _ => lifted os started H enc)
end Go.Proofs.Ytnnbpcookemilab.farthestNext
