/- For every keys, starts, list of thumbs and kind of distance the program's ThumbPlan answers as its model does, and leaves the list alone. No conditions. -/
import Derived.Test.YtnnbpcookemilaaRows
import Derived.Test.YtnnbpcookemilaaLaw
import Derived.Test.YtnnbpcookemilaaPlan
import Derived.Test.YtnnbpcookemilaaBld2
import Derived.StillTailTactics
import Derived.Deep.RegionWith
namespace Go.Proofs.Ytnnbpcookemilaa.thumbPlan
open Go.ChangeShapes Go.WideShapes Go.ChangeAt Go.RowKit
open Go.ChangeMaps (open_string shut_string)

/-- Where both thumbs are, and the steps, behind so many presses. -/
def tp (c : Bool) (ps : List Nat) (ts : List Int) (x y : Nat) : Nat → Nat × Nat × Nat
  | 0 => (x, y, 0)
  | k + 1 => if ts.getD k 0 = 0 then (ps.getD k 0, (tp c ps ts x y k).2.1, (tp c ps ts x y k).2.2 + far c (tp c ps ts x y k).1 (ps.getD k 0)) else ((tp c ps ts x y k).1, ps.getD k 0, (tp c ps ts x y k).2.2 + far c (tp c ps ts x y k).2.1 (ps.getD k 0))
theorem tp_zero {c : Bool} {ps : List Nat} {ts : List Int} {x y k p q s : Nat} (h : tp c ps ts x y k = (p, q, s)) (hk : k < ps.length) (hk2 : k < ts.length) (ht : ts[k] = 0) : tp c ps ts x y (k + 1) = (ps[k], q, s + far c p ps[k]) := by
  show (if _ then _ else _) = _
  rw [List.getD_eq_getElem?_getD, List.getElem?_eq_getElem hk2, List.getD_eq_getElem?_getD, List.getElem?_eq_getElem hk]
  show (if ts[k] = 0 then _ else _) = _
  rw [if_pos ht, h]; rfl
theorem tp_one {c : Bool} {ps : List Nat} {ts : List Int} {x y k p q s : Nat} (h : tp c ps ts x y k = (p, q, s)) (hk : k < ps.length) (hk2 : k < ts.length) (ht : ts[k] = 1) : tp c ps ts x y (k + 1) = (p, ps[k], s + far c q ps[k]) := by
  show (if _ then _ else _) = _
  rw [List.getD_eq_getElem?_getD, List.getElem?_eq_getElem hk2, List.getD_eq_getElem?_getD, List.getElem?_eq_getElem hk]
  show (if ts[k] = 0 then _ else _) = _
  rw [if_neg (by rw [ht]; decide), h]; rfl
def tpOk (s l r : ByteArray) (ts : List Int) : Bool := dlB s [l, r] && plB ts s
def tpV (s l r : ByteArray) (ts : List Int) (c : Bool) : Int := (if tpOk s l r ts then (tp c (plcs s) ts (p1 l) (p1 r) s.size).2.2 else 0 : Nat)
theorem tpV_no {s l r : ByteArray} {ts : List Int} {c : Bool} (h : tpOk s l r ts = false) : tpV s l r ts c = 0 := by unfold tpV; rw [h]; rfl
theorem tpV_yes {s l r : ByteArray} {ts : List Int} {c : Bool} {p q n : Nat} (h : tpOk s l r ts = true) (h2 : tp c (plcs s) ts (p1 l) (p1 r) s.size = (p, q, n)) : tpV s l r ts c = (n : Nat) := by unfold tpV; rw [h, h2]; rfl
theorem tpOk_no1 {s l r : ByteArray} {ts : List Int} (h : dlB s [l, r] = false) : tpOk s l r ts = false := by unfold tpOk; rw [h]; rfl
theorem tpOk_no2 {s l r : ByteArray} {ts : List Int} (h : plB ts s = false) : tpOk s l r ts = false := by unfold tpOk; rw [h, Bool.and_false]
theorem tpOk_yes {s l r : ByteArray} {ts : List Int} (h : dlB s [l, r] = true) (h2 : plB ts s = true) : tpOk s l r ts = true := by unfold tpOk; rw [h, h2]; rfl
theorem ps1 (w : World) (q : Nat) (t : TypeId) : Ps (w.alloc (.cells #[.int .i64 (q : Int)] t)) (.slice (some ⟨w.heap.size, 0, none⟩) 1 1) [q] := by
  refine ⟨by unfold maxLen; simp, .inr ⟨w.heap.size, 0, 1, rfl, by simp [go_sem], fun j hj => ?_⟩⟩
  have : j = 0 := by simpa using hj
  subst this
  simp [go_sem]
theorem set_cells {w : World} {b j : Nat} {cs : Array Value} {T : TypeId} {u : Value} (h : w.heap[b]? = some (.cells cs T (0, 0))) : (w.setCell ⟨b, j, none⟩ u).heap[b]? = some (.cells (cs.setIfInBounds j u) T (0, 0)) := by
  simp [World.setCell, Array.getElem?_modify, h]
theorem one_lt {q : Nat} (h : q < 12) : ∀ x ∈ [q], x < 12 := by
  intro x hx
  rw [List.mem_singleton] at hx
  omega

set_option maxHeartbeats 4000000 in
theorem impl_any (s l r : ByteArray) (v : Value) (ts : List Int) (c : Bool) (w : World) (h : IntsA w v ts) (hs : s.size ≤ maxLen) (hl : l.size ≤ maxLen) (hr : r.size ≤ maxLen) : Calls Try.prog 32 #[.string s, .string l, .string r, v, .bool c] w fun e w' => e = .returned (.tuple #[.int .i64 (tpV s l r ts c), .bool (tpOk s l r ts)]) ∧ Ext w w' := by
  have H := Lib.hid h
  have X0 : Ext w (w.alloc (.cells #[.string l, .string r] 9)) := Below.alloc (Ext.refl _) (Nat.le_refl _) _
  have S0 := Lib.hid (strs2 w l r 9 hl hr)
  obtain ⟨a, cap, hv⟩ := h.at
  rw [hv] at H ⊢
  clear hv h
  cases h1 : dlB s [l, r]
  · have HO := Lib.hid (tpOk_no1 (ts := ts) h1)
    have HV := Lib.hid (tpV_no (c := c) HO.out)
    go_enter Try.func32, Try.ntmps32
    go_wp2_with (go_at_call 51; refine (canDial_any _ _ _ _ S0.out hs).mono ?_; rintro e w1 ⟨rfl, x1⟩; rw [h1])
    go_ret2
    exact ⟨by rw [HV.out, HO.out]; rfl, X0.trans x1⟩
  cases h2 : plB ts s
  · have HO := Lib.hid (tpOk_no2 (l := l) (r := r) h2)
    have HV := Lib.hid (tpV_no (c := c) HO.out)
    go_enter Try.func32, Try.ntmps32
    go_wp2_with (first | (go_at_call 51; refine (canDial_any _ _ _ _ S0.out hs).mono ?_; rintro e w1 ⟨rfl, x1⟩; rw [h1]) | (go_at_call 62; refine (isPlan_any _ _ _ _ (H.out.ext (X0.trans x1)) hs).mono ?_; rintro e w2 ⟨rfl, x2⟩; rw [h2]))
    go_ret2
    exact ⟨by rw [HV.out, HO.out]; rfl, (X0.trans x1).trans x2⟩
  have HO := Lib.hid (tpOk_yes h1 h2)
  obtain ⟨ho1, ho2, hd⟩ := dl2 h1
  have hp1 := p1_lt l
  have hp2 := p1_lt r
  have HPL := Lib.hid (plcs_lt s)
  have HLEN := Lib.hid (plB_len h2)
  have HALL := Lib.hid (plB_all h2)
  have h30 : (plcs s).length ≤ 30 := by rw [plcs_len]; exact isD_size hd
  have hml : (plcs s).length ≤ maxLen := by unfold maxLen; omega
  go_enter Try.func32, Try.ntmps32
  go_wp2_with (first | (go_at_call 51; refine (canDial_any _ _ _ _ S0.out hs).mono ?_; rintro e w1 ⟨rfl, x1⟩; rw [h1]) | (go_at_call 62; refine (isPlan_any _ _ _ _ (H.out.ext (X0.trans x1)) hs).mono ?_; rintro e w2 ⟨rfl, x2⟩; rw [h2]))
  have X2 : Ext w w2 := (X0.trans x1).trans x2
  refine (walkWith_any c _).mono ?_
  rintro e w3 ⟨f, rfl, hf, x3⟩
  obtain ⟨C, rfl, hC, hcC⟩ := hf
  go_wp2_with fail
  refine (pairOf_any l r _ ho1 ho2).mono ?_
  rintro e w4 ⟨rfl, x4⟩
  go_wp2_with fail
  refine (placesOf_any s _ hd).mono ?_
  rintro e w5 ⟨v, rfl, hv, x5⟩
  obtain ⟨b, hbe⟩ : ∃ b, b = w4.heap.size := ⟨_, rfl⟩
  have hb0 : b < (w4.alloc (.cells #[.int .i64 (p1 l : Nat), .int .i64 (p1 r : Nat)] 68)).heap.size := by simp [go_sem]; omega
  have hb5 : w5.heap[b]? = some (.cells #[.int .i64 (p1 l : Nat), .int .i64 (p1 r : Nat)] 68 (0, 0)) := by
    rw [x5.block b hb0, hbe]
    exact heap_alloc_new w4 _
  have hvb : v.ownBlock ≠ some b := by
    intro e
    have := (World.ownsRow.lt hv b e).1
    omega
  have hb35 := Nat.lt_of_lt_of_le hb0 x5.size
  have X4 : Ext w w4 := (X2.trans x3).trans x4
  have X5 : Ext w w5 := Below.trans X4 (Below.trans (Below.alloc (Below.refl _ _) X4.size _) (x5.mono (by have := X4.size; simp [go_sem]; omega)))
  have hbw : w.heap.size ≤ b := by rw [hbe]; exact X4.size
  have hCb : C < b := by rw [hbe]; exact Nat.lt_of_lt_of_le hC x4.size
  have hcC5 : w5.cell? ⟨C, 0, none⟩ = some (.bool c) := by
    rw [x5.cell (p := ⟨C, 0, none⟩) (by show C < _; omega)]
    rw [World.cell?_of_block (w := w4) (a := ⟨C, 0, none⟩) (Below.heap_alloc _ _ _ (by show C < _; omega))]
    exact (x4.cell (p := ⟨C, 0, none⟩) hC).trans hcC
  obtain ⟨ps, hps⟩ : ∃ ps, ps = plcs s := ⟨_, rfl⟩
  have HP := Lib.hid (RowP.ps hv hml)
  have HLP := Lib.hid (plcs_len s)
  have HPS := Lib.hid hps
  rw [← hps] at HPL h30 HP HLP
  rw [← hbe]
  obtain ⟨a0, cap0, hvs⟩ := hv.shape
  rw [← hps] at hvs
  rw [hvs] at HP hvb ⊢
  clear hv hvs hps hcC hb0 hbe
  have HVB := Lib.hid hvb
  have HB5 := Lib.hid hb5
  clear hvb hb5
  obtain ⟨R, hR⟩ : ∃ R, R = w5.heap.size := ⟨_, rfl⟩
  have hbR : b < R := by rw [hR]; exact hb35
  have hwR : w.heap.size ≤ R := by rw [hR]; exact X5.size
  have HR := Lib.hid hR
  clear hR hb35
  have HX := Lib.hid X5
  go_wp2_with fail
  go_loopw [14, 37] (fun t i wr => ∃ k p q n : Nat, k ≤ ps.length ∧ i = .int .i64 k ∧ t = .int .i64 (n : Nat) ∧ p < 12 ∧ q < 12 ∧ n ≤ 5 * k ∧ tp c ps ts (p1 l) (p1 r) k = (p, q, n) ∧ wr.heap[b]? = some (.cells #[.int .i64 (p : Nat), .int .i64 (q : Nat)] 68 (0, 0)) ∧ But R b w5 wr) (fun _ i _ => ps.length - (intOf i).toNat)
  case atStart => exact ⟨0, p1 l, p1 r, 0, Nat.zero_le _, rfl, rfl, hp1, hp2, Nat.le_refl _, rfl, HB5.out, But.refl _ _ _⟩
  case round =>
    obtain ⟨k, p, q, n, hk, rfl, rfl, hp, hq, hn, htp, hbb, hx⟩ := hrel
    have HTP := Lib.hid htp
    have HBB := Lib.hid hbb
    clear htp hbb
    have hRr : R ≤ wr.heap.size := by rw [HR.out]; exact hx.size
    have hbr : b < wr.heap.size := by omega
    by_cases hlt : k < ps.length
    · have htl : k < ts.length := by have := HLEN.out; have := HLP.out; omega
      have htli : (k : Int) < (ts.length : Int) := by omega
      obtain ⟨g, off, ha, _, e1⟩ := (hx.ps HP.out HR.out HVB.out).get k hlt
      subst ha
      obtain ⟨g2, off2, ha2, _, e2⟩ := (IntsA.get (H.out.ext (Below.trans HX.out (hx.below hwR hbw))) k htl)
      subst ha2
      have hz12 : ps[k] < 12 := HPL.out _ (List.getElem_mem hlt)
      have c0 : wr.cell? ⟨b, 0, none⟩ = some (.int .i64 (p : Nat)) := by rw [Lib.cell_of_heap HBB.out]; rfl
      have c1 : wr.cell? ⟨b, 1, none⟩ = some (.int .i64 (q : Nat)) := by rw [Lib.cell_of_heap HBB.out]; rfl
      have hcC := (World.cell?_of_block (w := w5) (a := ⟨C, 0, none⟩) (hx.2.2.2.2 C (by omega) (by omega))).trans hcC5
      have hts := allT_at HALL.out k htl
      obtain ⟨t, hte⟩ : ∃ t, t = ts[k] := ⟨_, rfl⟩
      have HTH := Lib.hid hte
      rw [← hte] at e2 hts
      have hzz : ∃ z, z = ps[k] := ⟨_, rfl⟩
      have hC6 : C < (wr.alloc (.cells #[.int .i64 (ps[k] : Int)] 3)).heap.size := by simp [go_sem]; omega
      have hcC6 : (wr.alloc (.cells #[.int .i64 (ps[k] : Int)] 3)).cell? ⟨C, 0, none⟩ = some (.bool c) := (World.cell?_of_block (w := wr) (a := ⟨C, 0, none⟩) (Below.heap_alloc _ _ _ (by show C < _; omega))).trans hcC
      clear hte hzz
      rcases hts with ht | ht
      · have hlem := fun (h1 : tp c ps ts (p1 l) (p1 r) k = (p, q, n)) (h2 : ts[k] = 0) => tp_zero h1 hlt htl h2
        obtain ⟨z, hz⟩ : ∃ z, z = ps[k] := ⟨_, rfl⟩
        rw [← hz] at hlem hz12 e1 hC6 hcC6
        clear hz
        obtain ⟨D, hDe⟩ : ∃ D, D = far c p z := ⟨_, rfl⟩
        have hD5 : D ≤ 5 := by rw [hDe]; exact far_le c p z (by assumption) hz12
        have HW := Lib.hid (show wlk c p [z] = D by rw [hDe]; rfl)
        have HN := Lib.hid (show tp c ps ts (p1 l) (p1 r) (k + 1) = (z, q, n + D) by rw [hDe]; exact hlem HTP.out (by rw [← HTH.out]; exact ht))
        subst ht
        clear hDe
        go_wp2_with fail
        refine (wlk_any p _ [z] C c _ (ps1 wr z 3) hC6 hcC6 (by assumption) (one_lt hz12) (show [z].length ≤ 1000 from Nat.succ_le_succ (Nat.zero_le _))).mono ?_
        rintro e w9 ⟨rfl, x9⟩
        rw [HW.out]
        have hb9 : w9.heap[b]? = some (.cells #[.int .i64 (p : Nat), .int .i64 (q : Nat)] 68 (0, 0)) := by
          rw [x9.block b (by simp [go_sem]; omega), Below.heap_alloc _ _ _ hbr]
          exact HBB.out
        have hx9 : But R b w5 w9 := hx.trans ((But.of (Below.alloc (Below.refl _ _) hRr _)).trans (But.ext x9 (by simp [go_sem]; omega)))
        have e9 := (IntsA.get (H.out.ext (Below.trans HX.out (hx9.below hwR hbw))) k htl)
        obtain ⟨g3, off3, ha3, _, e93⟩ := e9
        injection ha3 with ha4
        injection ha4 with ha5 ha6
        subst ha5
        subst ha6
        rw [← HTH.out] at e93
        have c9 : w9.cell? ⟨b, 0, none⟩ = some (.int .i64 (p : Nat)) := by rw [Lib.cell_of_heap hb9]; rfl
        have f9 : w9.frozen? ⟨b, 0, none⟩ = false := Lib.frozen_of_heap hb9 0
        have HB9 := Lib.hid (show (w9.setCell ⟨b, 0, none⟩ (.int .i64 (z : Nat))).heap[b]? = some (.cells #[.int .i64 (z : Nat), .int .i64 (q : Nat)] 68 (0, 0)) by simp [World.setCell, Array.getElem?_modify, hb9])
        have HX9 := Lib.hid (hx9.put 0 (.int .i64 (z : Nat)))
        clear hb9 hx9
        go_wp2
        go_roundw
        case rel => exact ⟨k + 1, z, q, n + D, by omega, by go_num, by go_num, by assumption, by assumption, by omega, HN.out, HB9.out, HX9.out⟩
        case measure => simp [intOf]; omega
      · have hlem := fun (h1 : tp c ps ts (p1 l) (p1 r) k = (p, q, n)) (h2 : ts[k] = 1) => tp_one h1 hlt htl h2
        obtain ⟨z, hz⟩ : ∃ z, z = ps[k] := ⟨_, rfl⟩
        rw [← hz] at hlem hz12 e1 hC6 hcC6
        clear hz
        obtain ⟨D, hDe⟩ : ∃ D, D = far c q z := ⟨_, rfl⟩
        have hD5 : D ≤ 5 := by rw [hDe]; exact far_le c q z (by assumption) hz12
        have HW := Lib.hid (show wlk c q [z] = D by rw [hDe]; rfl)
        have HN := Lib.hid (show tp c ps ts (p1 l) (p1 r) (k + 1) = (p, z, n + D) by rw [hDe]; exact hlem HTP.out (by rw [← HTH.out]; exact ht))
        subst ht
        clear hDe
        go_wp2_with fail
        refine (wlk_any q _ [z] C c _ (ps1 wr z 3) hC6 hcC6 (by assumption) (one_lt hz12) (show [z].length ≤ 1000 from Nat.succ_le_succ (Nat.zero_le _))).mono ?_
        rintro e w9 ⟨rfl, x9⟩
        rw [HW.out]
        have hb9 : w9.heap[b]? = some (.cells #[.int .i64 (p : Nat), .int .i64 (q : Nat)] 68 (0, 0)) := by
          rw [x9.block b (by simp [go_sem]; omega), Below.heap_alloc _ _ _ hbr]
          exact HBB.out
        have hx9 : But R b w5 w9 := hx.trans ((But.of (Below.alloc (Below.refl _ _) hRr _)).trans (But.ext x9 (by simp [go_sem]; omega)))
        have e9 := (IntsA.get (H.out.ext (Below.trans HX.out (hx9.below hwR hbw))) k htl)
        obtain ⟨g3, off3, ha3, _, e93⟩ := e9
        injection ha3 with ha4
        injection ha4 with ha5 ha6
        subst ha5
        subst ha6
        rw [← HTH.out] at e93
        have c9 : w9.cell? ⟨b, 1, none⟩ = some (.int .i64 (q : Nat)) := by rw [Lib.cell_of_heap hb9]; rfl
        have f9 : w9.frozen? ⟨b, 1, none⟩ = false := Lib.frozen_of_heap hb9 1
        have HB9 := Lib.hid (show (w9.setCell ⟨b, 1, none⟩ (.int .i64 (z : Nat))).heap[b]? = some (.cells #[.int .i64 (p : Nat), .int .i64 (z : Nat)] 68 (0, 0)) by simp [World.setCell, Array.getElem?_modify, hb9])
        have HX9 := Lib.hid (hx9.put 1 (.int .i64 (z : Nat)))
        clear hb9 hx9
        go_wp2
        go_roundw
        case rel => exact ⟨k + 1, p, z, n + D, by omega, by go_num, by go_num, by assumption, by assumption, by omega, HN.out, HB9.out, HX9.out⟩
        case measure => simp [intOf]; omega
    · have HE := Lib.hid (show tp c (plcs s) ts (p1 l) (p1 r) s.size = (p, q, n) by rw [← HPS.out, ← HLP.out, show ps.length = k by omega]; exact HTP.out)
      have HV := Lib.hid (tpV_yes HO.out HE.out)
      go_wp2
      go_ret2
      exact ⟨by rw [HV.out, HO.out]; rfl, Below.trans HX.out (hx.below hwR hbw)⟩

set_option maxHeartbeats 4000000 in
theorem spec_any (s l r : ByteArray) (v : Value) (ts : List Int) (c : Bool) (w : World) (h : IntsA w v ts) (hs : s.size ≤ maxLen) (hl : l.size ≤ maxLen) (hr : r.size ≤ maxLen) : Calls Try.prog 30 #[.string s, .string l, .string r, v, .bool c] w fun e w' => e = .returned (.tuple #[.int .i64 (tpV s l r ts c), .bool (tpOk s l r ts)]) ∧ Ext w w' := by
  have H := Lib.hid h
  have hlm := h.1
  unfold maxLen at hlm
  obtain ⟨a, cap, hv⟩ := h.at
  rw [hv] at H ⊢
  clear hv h
  cases h1 : dlB s [l, r]
  · have HO := Lib.hid (tpOk_no1 (ts := ts) h1)
    have HV := Lib.hid (tpV_no (c := c) HO.out)
    go_enter Try.func30, Try.ntmps30
    go_wp2_with (go_at_call 54; refine (both_any _ _ _ _ hs hl hr).mono ?_; rintro e w' ⟨rfl, rfl⟩; rw [h1])
    go_ret2
    exact ⟨by rw [HV.out, HO.out]; rfl, Ext.refl _⟩
  by_cases hn : ts.length = s.size
  · have hnn : ((ts.length : Int) != (s.size : Int)) = false := by rw [hn]; exact bne_self_eq_false _
    have HLEN := Lib.hid hn
    clear hn
    cases h2 : ts.all okT
    · have HO := Lib.hid (tpOk_no2 (l := l) (r := r) (plB_no2 (s := s) h2))
      have HV := Lib.hid (tpV_no (c := c) HO.out)
      go_enter Try.func30, Try.ntmps30
      go_wp2_with (first | (go_at_call 54; refine (both_any _ _ _ _ hs hl hr).mono ?_; rintro e w' ⟨rfl, rfl⟩; rw [h1]) | (go_at_call 61; refine (allT_any _ _ _ H.out).mono ?_; rintro e w1 ⟨rfl, x1⟩; rw [h2]))
      go_ret2
      exact ⟨by rw [HV.out, HO.out]; rfl, x1⟩
    have HO := Lib.hid (tpOk_yes h1 (plB_yes HLEN.out h2))
    have HALL := Lib.hid h2
    obtain ⟨ho1, ho2, hd⟩ := dl2 h1
    have h30 := isD_size hd
    have HD := Lib.hid hd
    have HLP := Lib.hid (plcs_len s)
    have g1 := oneD_get ho1
    have e1 := Lib.hid (p1_get ho1)
    have k1 := oneD_size ho1
    have i1 : 0 < l.size := by omega
    have g2 := oneD_get ho2
    have e2 := Lib.hid (p1_get ho2)
    have k2 := oneD_size ho2
    have i2 : 0 < r.size := by omega
    have z1 : ∀ w, (Instr.index 9 (.string l) (.int .i64 0)).run Try.prog w = .ok (.int .u8 (l[0]'i1).toNat) w := fun w => ixS0 l i1 w
    have z2 : ∀ w, (Instr.index 9 (.string r) (.int .i64 0)).run Try.prog w = .ok (.int .u8 (r[0]'i2).toNat) w := fun w => ixS0 r i2 w
    go_enter Try.func30, Try.ntmps30
    go_wp2_with (first | (go_at_call 54; refine (both_any _ _ _ _ hs hl hr).mono ?_; rintro e w' ⟨rfl, rfl⟩; rw [h1]) | (go_at_call 61; refine (allT_any _ _ _ H.out).mono ?_; rintro e w1 ⟨rfl, x1⟩; rw [h2]))
    go_region
    all_goals go_wp2
    obtain ⟨B, hBe⟩ : ∃ B, B = w1.heap.size := ⟨_, rfl⟩
    have hwB : w.heap.size ≤ B := by rw [hBe]; exact x1.size
    have X1 : Ext w (w1.alloc (.cells #[.int .u8 ((l[0]'i1).toNat : Int), .int .u8 ((r[0]'i2).toNat : Int)] 5)).drew := (Below.alloc x1 x1.size _).drew
    have HB0 := Lib.hid (show (w1.alloc (.cells #[.int .u8 ((l[0]'i1).toNat : Int), .int .u8 ((r[0]'i2).toNat : Int)] 5)).drew.heap[B]? = some (.cells #[.int .u8 ((l[0]'i1).toNat : Int), .int .u8 ((r[0]'i2).toNat : Int)] 5 (0, 0)) by rw [hBe]; exact heap_alloc_new w1 _)
    rw [← hBe]
    clear hBe
    go_loopw [13, 40] (fun t i wr => ∃ (k n : Nat) (bx by0 : UInt8), k ≤ ts.length ∧ i = .int .i64 k ∧ t = .int .i64 (n : Nat) ∧ isK bx.toNat = true ∧ isK by0.toNat = true ∧ n ≤ 5 * k ∧ tp c (plcs s) ts (p1 l) (p1 r) k = (pn bx, pn by0, n) ∧ wr.heap[B]? = some (.cells #[.int .u8 (bx.toNat : Int), .int .u8 (by0.toNat : Int)] 5 (0, 0)) ∧ Ext w wr) (fun _ i _ => ts.length - (intOf i).toNat)
    case atStart => exact ⟨0, 0, _, _, Nat.zero_le _, rfl, rfl, g1, g2, Nat.le_refl _, by rw [e1.out, e2.out]; rfl, HB0.out, X1⟩
    case round =>
      obtain ⟨k, n, bx, by0, hk, rfl, rfl, hbx, hby, hn, htp, hbb, hx⟩ := hrel
      have HTP := Lib.hid htp
      have HBB := Lib.hid hbb
      clear htp hbb
      by_cases htl : k < ts.length
      · have hlt : k < s.size := by have := HLEN.out; omega
        have hlt' : k < (plcs s).length := by rw [HLP.out]; exact hlt
        have hlti : (k : Int) < (s.size : Int) := by omega
        obtain ⟨g0, off0, ha2, _, et⟩ := (IntsA.get (H.out.ext hx) k htl)
        subst ha2
        have c0 : wr.cell? ⟨B, 0, none⟩ = some (.int .u8 (bx.toNat : Int)) := by rw [Lib.cell_of_heap HBB.out]; rfl
        have c1 : wr.cell? ⟨B, 1, none⟩ = some (.int .u8 (by0.toNat : Int)) := by rw [Lib.cell_of_heap HBB.out]; rfl
        have f0 : wr.frozen? ⟨B, 0, none⟩ = false := Lib.frozen_of_heap HBB.out 0
        have f1 : wr.frozen? ⟨B, 1, none⟩ = false := Lib.frozen_of_heap HBB.out 1
        have hKk := isD_get HD.out k hlt
        have zk : ∀ w, (Instr.index 9 (.string s) (.int .i64 (k : Int))).run Try.prog w = .ok (.int .u8 (s[k]'hlt).toNat) w := fun w => ixS s k hlt w
        have hpk := plcs_at s k hlt'
        have HL0 := Lib.hid (fun (h2 : ts[k] = 0) => tp_zero HTP.out hlt' htl h2)
        have HL1 := Lib.hid (fun (h2 : ts[k] = 1) => tp_one HTP.out hlt' htl h2)
        rw [hpk] at HL0 HL1
        have hmz : ∀ z, z = s[k]'hlt → s[k]'hlt = z := fun z h => h.symm
        obtain ⟨z, hz⟩ : ∃ z, z = s[k]'hlt := ⟨_, rfl⟩
        have hz2 := hmz z hz
        rw [← hz] at hKk zk HL0 HL1
        clear hmz hz hpk
        have hts := allT_at HALL.out k htl
        obtain ⟨t, hte⟩ : ∃ t, t = ts[k] := ⟨_, rfl⟩
        rw [← hte] at et hts HL0 HL1
        clear hte
        rcases hts with ht | ht
        · have HN := Lib.hid (HL0.out ht)
          subst ht
          have hfar := far_le c (pn bx) (pn z) (pn_lt _) (pn_lt _)
          go_wp2
          go_quiet (first | (exact Calls.quiet_of_same ((thFar_any _ _ _ _ (by assumption) (by assumption)).mono fun e w' h => ⟨h.1, h.2.symm⟩)))
          have HB9 := Lib.hid (show ((wr.drewN nq).setCell ⟨B, 0, none⟩ (.int .u8 (z.toNat : Int))).heap[B]? = some (.cells #[.int .u8 (z.toNat : Int), .int .u8 (by0.toNat : Int)] 5 (0, 0)) from set_cells (w := wr.drewN nq) (cs := #[.int .u8 (bx.toNat : Int), .int .u8 (by0.toNat : Int)]) HBB.out)
          go_wp2
          exact ⟨⟨k + 1, n + far c (pn bx) (pn z), z, by0, by omega, by go_num, by go_num, by assumption, by assumption, by omega, HN.out, HB9.out, (ext_drewN hx _).setCell (p := ⟨B, 0, none⟩) hwB _⟩, by simp [intOf]; omega⟩
        · have HN := Lib.hid (HL1.out ht)
          subst ht
          have hfar := far_le c (pn by0) (pn z) (pn_lt _) (pn_lt _)
          go_wp2
          go_quiet (first | (exact Calls.quiet_of_same ((thFar_any _ _ _ _ (by assumption) (by assumption)).mono fun e w' h => ⟨h.1, h.2.symm⟩)))
          have HB9 := Lib.hid (show ((wr.drewN nq).setCell ⟨B, 1, none⟩ (.int .u8 (z.toNat : Int))).heap[B]? = some (.cells #[.int .u8 (bx.toNat : Int), .int .u8 (z.toNat : Int)] 5 (0, 0)) from set_cells (w := wr.drewN nq) (cs := #[.int .u8 (bx.toNat : Int), .int .u8 (by0.toNat : Int)]) HBB.out)
          go_wp2
          exact ⟨⟨k + 1, n + far c (pn by0) (pn z), bx, z, by omega, by go_num, by go_num, by assumption, by assumption, by omega, HN.out, HB9.out, (ext_drewN hx _).setCell (p := ⟨B, 1, none⟩) hwB _⟩, by simp [intOf]; omega⟩
      · have HE := Lib.hid (show tp c (plcs s) ts (p1 l) (p1 r) s.size = (pn bx, pn by0, n) by rw [← HLEN.out, show ts.length = k by omega]; exact HTP.out)
        have HV := Lib.hid (tpV_yes HO.out HE.out)
        go_wp2
        go_ret2
        exact ⟨by rw [HV.out, HO.out]; rfl, hx⟩
  · have hnn : ((ts.length : Int) != (s.size : Int)) = true := bne_iff_ne.2 (by omega)
    have HO := Lib.hid (tpOk_no2 (l := l) (r := r) (plB_no1 hn))
    have HV := Lib.hid (tpV_no (c := c) HO.out)
    clear hn
    go_enter Try.func30, Try.ntmps30
    go_wp2_with (first | (go_at_call 54; refine (both_any _ _ _ _ hs hl hr).mono ?_; rintro e w' ⟨rfl, rfl⟩; rw [h1]))
    go_ret2
    exact ⟨by rw [HV.out, HO.out]; rfl, Ext.refl _⟩

set_option maxHeartbeats 4000000 in
theorem walk (w : World) (s0 : ByteArray) (hs0 : s0.size ≤ maxLen) (s1 : ByteArray) (hs1 : s1.size ≤ maxLen) (s2 : ByteArray) (hs2 : s2.size ≤ maxLen) (v : Value) (zs : List Int) (h : IntsA w v zs) (c : Bool) : Calls Try.prog 9 #[.string s0, .string s1, .string s2, v, .bool c] w fun e w' => e = .returned (.bool true) ∧ Ext w w' := by
  have H := Lib.hid h
  have hlm := h.1
  unfold maxLen at hlm
  have h63_0 : s0.size ≤ 9223372036854775807 := hs0
  have h63_1 : s1.size ≤ 9223372036854775807 := hs1
  have h63_2 : s2.size ≤ 9223372036854775807 := hs2
  obtain ⟨a, cap, hv⟩ := h.at
  rw [hv] at H ⊢
  clear hv h v
  obtain ⟨X, hX⟩ : ∃ X, X = (tpV s0 s1 s2 zs c) := ⟨_, rfl⟩
  obtain ⟨ok, hok⟩ : ∃ X, X = (tpOk s0 s1 s2 zs) := ⟨_, rfl⟩
  have HP := Lib.hid (show ∀ (v : Value) (w : World), IntsA w v zs → Calls Try.prog 30 #[.string s0, .string s1, .string s2, v, .bool c] w fun e w' => e = .returned (.tuple #[.int .i64 X, .bool ok]) ∧ Ext w w' from fun v w h => by rw [hX, hok]; exact spec_any s0 s1 s2 v zs c w h hs0 hs1 hs2)
  have HM := Lib.hid (show ∀ (v : Value) (w : World), IntsA w v zs → Calls Try.prog 32 #[.string s0, .string s1, .string s2, v, .bool c] w fun e w' => e = .returned (.tuple #[.int .i64 X, .bool ok]) ∧ Ext w w' from fun v w h => by rw [hX, hok]; exact impl_any s0 s1 s2 v zs c w h hs0 hs1 hs2)
  clear hX hok
  by_cases hb0 : 1048576 < s0.size
  · go_enter Try.func9, Try.ntmps9
    go_wp2
    go_ret
    exact ⟨rfl, Ext.refl _⟩
  by_cases hb1 : 1048576 < s1.size
  · go_enter Try.func9, Try.ntmps9
    go_wp2
    go_ret
    exact ⟨rfl, Ext.refl _⟩
  by_cases hb2 : 1048576 < s2.size
  · go_enter Try.func9, Try.ntmps9
    go_wp2
    go_ret
    exact ⟨rfl, Ext.refl _⟩
  by_cases hbig : 1048576 < zs.length
  · go_enter Try.func9, Try.ntmps9
    go_wp2
    go_ret
    exact ⟨rfl, Ext.refl _⟩
  have hn : zs.length ≤ 1048576 := by omega
  go_enter Try.func9, Try.ntmps9
  go_wp2_with fail
  refine (toI_any _ _ _ H.out hn).mono ?_
  rintro e w1 ⟨u1, rfl, hu1, x1, gx1, cx1, rfl, hgx1, hgl1, hox1⟩
  have H1 := Lib.hid hu1
  clear hu1 hox1
  go_wp2_with fail
  refine (HP.out _ _ H1.out).mono ?_
  rintro e w2 ⟨rfl, x2⟩
  have X2 : Ext w w2 := x1.trans x2
  go_wp2_with fail
  refine (toI_any _ _ _ (H.out.ext X2) hn).mono ?_
  rintro e w3 ⟨u3, rfl, hu3, x3, gx3, cx3, rfl, hgx3, hgl3, hox3⟩
  have H3 := Lib.hid hu3
  have O3 := Lib.hid hox3
  clear hu3 hox3
  have X3 : Ext w w3 := X2.trans x3
  go_wp2_with fail
  refine (HM.out _ _ H3.out).mono ?_
  rintro e w4 ⟨rfl, x4⟩
  have X4 : Ext w w4 := X3.trans x4
  go_wp2_with fail
  refine (toI_any _ _ _ (H.out.ext X4) hn).mono ?_
  rintro e w6 ⟨u6, rfl, hu6, x6, gx6, cx6, rfl, hgx6, hgl6, hox6⟩
  have O6 := Lib.hid hox6
  clear hu6 hox6
  have X6 : Ext w w6 := X4.trans x6
  go_wp2_with fail
  refine (eqI_any _ _ _ _ _ _ (O3.out.ext (x4.trans x6)) O6.out hn).mono ?_
  rintro e w7 ⟨rfl, x7⟩
  go_wp2
  go_ret
  exact ⟨rfl, X6.trans x7⟩

set_option maxRecDepth 100000 in
theorem contract (H : Type) (enc : TypeId × Value → H) (W : World) (base : Nat) (args : Array Value) (ds gs : List (DataW H)) (before : List MemPlace)
    (hval : ∀ (j : Nat) t v, Try.f9.params[j]? = some t → args[j]? = some v → Value.okWide Try.prog W .any base t v)
    (hW : DataW.Whole enc Try.prog Try.f9.params.toList Rows.fnExactThumbPlanSpec.vars false W args.toList ds gs before) :
    Calls Try.prog 9 args W fun e W' => ∃ v, e = .returned v ∧ Rows.fnExactThumbPlanSpec.post enc Try.prog Try.f9 false true false false W args v W' := by
  have hW' := hW
  obtain ⟨p, q, hA0, hV, rfl, hfz, hnd⟩ := hW
  have hA : DataW.TrodAll enc Try.prog W 0 (fun _ => true) true Try.f9.params.toList args.toList ds p := hA0
  rw [Try.params9] at hA hval
  obtain ⟨v0, vs0, d0, ds0, p0, q0, hargs0, rfl, rfl, h0, r0⟩ := trodAll_cons hA
  obtain ⟨v1, vs1, d1, ds1, p1, q1, hargs1, rfl, rfl, h1, r1⟩ := trodAll_cons r0
  obtain ⟨v2, vs2, d2, ds2, p2, q2, hargs2, rfl, rfl, h2, r2⟩ := trodAll_cons r1
  obtain ⟨v3, vs3, d3, ds3, p3, q3, hargs3, rfl, rfl, h3, r3⟩ := trodAll_cons r2
  obtain ⟨v4, vs4, d4, ds4, p4, q4, hargs4, rfl, rfl, h4, r4⟩ := trodAll_cons r3
  obtain ⟨rfl, rfl, rfl⟩ := trodAll_nil r4
  subst hargs4
  subst hargs3
  subst hargs2
  subst hargs1
  obtain rfl : args = #[v0, v1, v2, v3, v4] := Array.toList_inj.1 hargs0
  obtain ⟨s0, rfl, rfl, rfl, z0⟩ := open_string Try.underlying9 (hval 0 9 v0 rfl rfl) h0
  obtain ⟨s1, rfl, rfl, rfl, z1⟩ := open_string Try.underlying9 (hval 1 9 v1 rfl rfl) h1
  obtain ⟨s2, rfl, rfl, rfl, z2⟩ := open_string Try.underlying9 (hval 2 9 v2 rfl rfl) h2
  obtain ⟨s3, z3⟩ := ints_of (hval 3 28 v3 rfl rfl) h3
  obtain ⟨s4, rfl, rfl, rfl⟩ := open_bool Try.underlying4 (hval 4 4 v4 rfl rfl) h4
  clear hA0
  refine (walk W s0 z0 s1 z1 s2 z2 v3 s3 z3 s4).mono fun e W' ⟨he, hx⟩ => ?_
  subst he
  exact ⟨_, rfl, post_true (tb := 4) laidOut (by rw [Try.params9]; intro t ht; simp at ht; rcases ht with rfl | rfl | rfl <;> exact ⟨by kernel_rfl, of_decide_eq_true (by kernel_rfl)⟩) (by kernel_rfl) hW' hx (by obtain ⟨rfl, rfl⟩ := trodVars_none hV; rfl) rfl Try.underlying4⟩

set_option maxRecDepth 100000 in
theorem lifted (os : Os) (started : os.Started) (H : Type) (enc : TypeId × Value → H) :
    ReturnsInHanded {} Try.checked os 9 .any (Rows.fnExactThumbPlanSpec.pre6 enc Try.prog Try.f9 Rows.fnExactThumbPlanRow.domain false) (Rows.fnExactThumbPlanSpec.post enc Try.prog Try.f9 false true false false) := by
  refine returnsInHanded_of_change (C := Try.checked) own started (by kernel_rfl) Try.func9
    (ChangeSpec.witness6 (enc := enc) (C := Try.checked) false ⟨#[], #[.string ByteArray.empty, .string ByteArray.empty, .string ByteArray.empty, .slice none 0 0, .bool false], []⟩ 8 (by kernel_rfl) (by kernel_rfl) (by kernel_rfl) (by kernel_rfl)) ?_
  intro W base args ds gs before hval hW _ _
  exact contract H enc W base args ds gs before hval hW

theorem said : Rows.FnExactThumbPlanSaid :=
  OpenClaim.holds_of_wide 9 Try.f9 rfl rfl rfl rfl rfl rfl rfl ⟨rfl, rfl, rfl, rfl, rfl⟩ rfl rfl rfl rfl rfl (by kernel_rfl) Try.func9 (by kernel_rfl)
    (of_decide_eq_true (by kernel_rfl)) (by unfold Func.isWrapper; first | (rw [if_pos (by decide +kernel)]; kernel_rfl) | (rw [if_neg (by decide +kernel)]; exact ⟨rfl, rfl⟩))
    (fun os started H enc _ => lifted os started H enc)
end Go.Proofs.Ytnnbpcookemilaa.thumbPlan
