/- Puzzles that are made: the values; the model. No conditions. -/
import Derived.Test.YtpdnpphjlnlneaaGreatDoorMak
import Derived.Test.YtpdnpphjlnlneaaGreatDoorMkC
import Derived.Deep.RegionWith
import Derived.Deep.AppendLies
import Derived.Deep.RegionLaw
namespace Go.Proofs.YtpdnpphjlnlneaaGreatDoor
open Go.RowKit

/-- What each clue begins with, and the clues. -/
def yk (s : Nat) : Nat → Nat
  | 0 => s
  | t + 1 => nxt (nxt (yk s t))
theorem yk_lt {s : Nat} (h : s < 10007) : ∀ t, yk s t < 10007
  | 0 => h
  | _ + 1 => nxt_lt _
def mks (s : Nat) (n : ByteArray) : Nat → List Cl
  | 0 => []
  | t + 1 => mks s n t ++ [mkCl (nxt (yk s t) % 6) (yk s (t + 1)) n]
theorem mks_len (s : Nat) (n : ByteArray) : ∀ t, (mks s n t).length = t
  | 0 => rfl
  | t + 1 => by rw [mks, List.length_append, mks_len s n t]; rfl
def mpOk (n : ByteArray) (c s : Int) : Bool := isDg 2 3 n && (inW c 0 6 && inW s 0 9999)
def mpD (n : ByteArray) (c s : Int) : Int := if mpOk n c s then (n.size : Nat) else 0
def mpV (n : ByteArray) (c s : Int) : List Cl := if mpOk n c s then mks s.toNat n c.toNat else []
theorem mpOk_n {n : ByteArray} {c s : Int} (h : isDg 2 3 n = false) : mpOk n c s = false := by unfold mpOk; rw [h]; rfl
theorem mpOk_c {n : ByteArray} {c s : Int} (h : inW c 0 6 = false) : mpOk n c s = false := by unfold mpOk; rw [h, Bool.false_and, Bool.and_false]
theorem mpOk_s {n : ByteArray} {c s : Int} (h : inW s 0 9999 = false) : mpOk n c s = false := by unfold mpOk; rw [h, Bool.and_false, Bool.and_false]
theorem mpOk_y {n : ByteArray} {c s : Int} (h1 : isDg 2 3 n = true) (h2 : inW c 0 6 = true) (h3 : inW s 0 9999 = true) : mpOk n c s = true := by unfold mpOk; rw [h1, h2, h3]; rfl
theorem mp_no {n : ByteArray} {c s : Int} (h : mpOk n c s = false) : mpD n c s = 0 ∧ mpV n c s = [] := by unfold mpD mpV; rw [h]; exact ⟨rfl, rfl⟩
theorem mp_yes {n : ByteArray} {c s : Int} (h : mpOk n c s = true) : mpD n c s = (n.size : Nat) ∧ mpV n c s = mks s.toNat n c.toNat := by unfold mpD mpV; rw [h]; exact ⟨rfl, rfl⟩

/-- A puzzle of the call's own, and whether there is one. -/
def ResP (D : Int) (gs : List Cl) (ok : Bool) (w : World) (e : Ending) (w' : World) : Prop := ∃ u, e = .returned (.tuple #[.agg #[.int .i64 D, u], .bool ok]) ∧ OwnR w.heap.size w' u gs ∧ Ext w w'
theorem results_pz {fn : Func} {p q : Tmp} (h : fn.results = #[.cell p 37, .tmp q]) (tmps : Array Value) (w : World) (g : Nat) (t : TypeId) (m : Int) (u : Value) (fr : Nat × Nat)
    (hp : tmps.getD p undef = .pointer (some ⟨g, 0, none⟩)) (hg : w.heap[g]? = some (.cells #[.int .i64 m, u] t fr)) :
    (results fn tmps).run Tryz.prog w = .ok (.tuple #[.agg #[.int .i64 m, u], tmps.getD q undef]) w := by
  have hp' : tmps[p]?.getD undef = .pointer (some ⟨g, 0, none⟩) := by simpa using hp
  simp [results, h, hp', asAddr, run_loadVar_row (P := Tryz.prog) w g t 37 #[.int .i64 m, u] fr _ hg Tryz.underlying37 rfl (pz_size _ _)]
theorem ret_pzb {m m' : Int} {v : Value} {b b' : Bool} (h : m = m') (h2 : b = b') : Ending.returned (.tuple #[.agg #[.int .i64 m, v], .bool b]) = .returned (.tuple #[.agg #[.int .i64 m', v], .bool b']) := by rw [h, h2]

/-- One clue more in a list of the call's own, at a step of a region that draws. -/
theorem step_clue {ops : Array Oper} {o : Oper} {a : Act} {K : Act → World → Prop} {Q : Exit → Act → World → Prop} {E : Prop} (hgd : o.guard = none) (s x : Operand)
    (ho : o.op = .call { callee := .builtin .append, args := #[s, x], argTypes := #[35, 35] })
    (u : World) (B : Nat) (wr : World) (v : Value) (l : List Cl) (g : Cl) (hs : a.eval s = v) (hrow : OwnR B wr v l) (hx : Ext u wr) (hB : u.heap.size ≤ B) (hBw : B ≤ wr.heap.size) (hl : l.length ≤ 1000000)
    (hxe : a.eval x = .slice (some ⟨wr.heap.size, 0, none⟩) 1 1)
    (h : ∀ v' w', OwnR B w' v' (l ++ [g]) → Ext u w' → (∀ k, k < B → w'.heap[k]? = wr.heap[k]?) → K (a.put o.dst v') w') : if Region.wanted o (yielded ops a.tmps) = true then Oper.wp Tryz.prog o a (wr.alloc (.cells #[.int .i64 g.k, .int .i64 g.a, .int .i64 g.b] 26)) K Q else E := by
  obtain ⟨i0, hi, hz0, hzs, hzb⟩ := info_parts info_cl
  have hnew := heap_alloc_new wr (.cells #[.int .i64 g.k, .int .i64 g.a, .int .i64 g.b] 26)
  refine step_append_lies _ hgd s x 35 ho B 26 i0 (.agg #[.int .i64 0, .int .i64 0, .int .i64 0]) 3 24 Tryz.underlying35 hi hz0 hzs hzb rfl (by decide) v l.length (flat l) hs (World.ownsRow.alloc hrow _) ⟨wr.heap.size, 0, none⟩ 1 1 g.cs hxe rfl (fun j y hy => ?_) (fun y hy => ?_) (by decide) (by unfold maxLen; omega) (by omega) (by simp; omega) _ rfl ?_
  · rw [Go.WideShapes.add_plain, Nat.zero_add]
    match j, hy with
    | 0, hy => rw [← hy]; exact (cell_of hnew (j := 0) rfl).1
    | 1, hy => rw [← hy]; exact (cell_of hnew (j := 1) rfl).1
    | 2, hy => rw [← hy]; exact (cell_of hnew (j := 2) rfl).1
  · simp only [Cl.cs, List.mem_cons, List.not_mem_nil, or_false] at hy
    rcases hy with rfl | rfl | rfl <;> rfl
  · intro gg cap w' hown hg _ _
    refine h _ w' ?_ (ext_grown (hx.alloc _) hg (fun j hj => Nat.le_trans hB (hrow.own_le j hj))) (fun k hk => ?_)
    · unfold OwnR
      rw [List.length_append, flat_app, show flat [g] = g.cs by simp [flat]]
      exact hown
    · rw [hg.block k (by simp; omega) (fun e => by have := hrow.own_le k e.symm; omega), heap_alloc_old _ _ (by omega)]

set_option maxRecDepth 100000 in
set_option maxHeartbeats 4000000 in
theorem mpS_any (n : ByteArray) (c s : Int) (w : World) (hn : n.size ≤ maxLen) : Calls Tryz.prog 46 #[.string n, .int .i64 c, .int .i64 s] w (ResP (mpD n c s) (mpV n c s) (mpOk n c s) w) := by
  have X0 := Lib.hid (show Ext w (w.alloc (.cells #[.int .i64 0, .slice none 0 0] 37)) from (Ext.refl w).alloc _)
  cases h1 : isDg 2 3 n
  · have HO := Lib.hid (mpOk_n (c := c) (s := s) h1)
    go_enter Tryz.func46, Tryz.ntmps46
    go_wp2_with (first | (go_at_call 48; refine (pzHid_any _ _ hn).mono ?_; rintro e w' ⟨rfl, rfl⟩; rw [h1]))
    exact bodyPost_ret (results_pz (p := 6) (q := 7) rfl _ _ w.heap.size _ 0 (.slice none 0 0) (0, 0) rfl (heap_alloc_new w _)) rfl ⟨_, ret_pzb (mp_no HO.out).1.symm HO.out.symm, by rw [(mp_no HO.out).2]; exact World.ownsRow_nil _ _ _ _, X0.out⟩
  cases h2 : inW c 0 6
  · have HO := Lib.hid (mpOk_c (n := n) (s := s) h2)
    go_enter Tryz.func46, Tryz.ntmps46
    go_wp2_with (first | (go_at_call 48; refine (pzHid_any _ _ hn).mono ?_; rintro e w' ⟨rfl, rfl⟩; rw [h1]) | (go_at_call 73; refine (inW_any _ _ _ _).mono ?_; rintro e w' ⟨rfl, rfl⟩; first | rw [h2]))
    exact bodyPost_ret (results_pz (p := 6) (q := 7) rfl _ _ w.heap.size _ 0 (.slice none 0 0) (0, 0) rfl (heap_alloc_new w _)) rfl ⟨_, ret_pzb (mp_no HO.out).1.symm HO.out.symm, by rw [(mp_no HO.out).2]; exact World.ownsRow_nil _ _ _ _, X0.out⟩
  cases h3 : inW s 0 9999
  · have HO := Lib.hid (mpOk_s (n := n) (c := c) h3)
    go_enter Tryz.func46, Tryz.ntmps46
    go_wp2_with (first | (go_at_call 48; refine (pzHid_any _ _ hn).mono ?_; rintro e w' ⟨rfl, rfl⟩; rw [h1]) | (go_at_call 73; refine (inW_any _ _ _ _).mono ?_; rintro e w' ⟨rfl, rfl⟩; first | rw [h2] | rw [h3]))
    exact bodyPost_ret (results_pz (p := 6) (q := 7) rfl _ _ w.heap.size _ 0 (.slice none 0 0) (0, 0) rfl (heap_alloc_new w _)) rfl ⟨_, ret_pzb (mp_no HO.out).1.symm HO.out.symm, by rw [(mp_no HO.out).2]; exact World.ownsRow_nil _ _ _ _, X0.out⟩
  have HO := Lib.hid (mpOk_y h1 h2 h3)
  obtain ⟨c1, c2⟩ := inW_bd' h2
  obtain ⟨s1, s2⟩ := inW_bd' h3
  obtain ⟨z1, z2⟩ := isHid_bd h1
  obtain ⟨C, rfl⟩ := Int.eq_ofNat_of_zero_le c1
  obtain ⟨q, rfl⟩ := Int.eq_ofNat_of_zero_le s1
  have HD := Lib.hid (mp_yes HO.out).1
  have HV := Lib.hid (show mpV n (C : Int) (q : Int) = mks q n C from (mp_yes HO.out).2)
  have HDG := Lib.hid h1
  go_enter Tryz.func46, Tryz.ntmps46
  go_wp2_with (first | (go_at_call 48; refine (pzHid_any _ _ hn).mono ?_; rintro e w' ⟨rfl, rfl⟩; rw [h1]) | (go_at_call 73; refine (inW_any _ _ _ _).mono ?_; rintro e w' ⟨rfl, rfl⟩; first | rw [h2] | rw [h3]))
  clear h1 h2 h3 c1 s1
  have HBR := Lib.hid (show ((w.alloc (.cells #[.int .i64 0, .slice none 0 0] 37)).alloc (.cells #[.int .i64 (n.size : Int), .slice none 0 0] 37)).heap[w.heap.size]? = some (.cells #[.int .i64 0, .slice none 0 0] 37 (0, 0)) from (heap_alloc_old _ _ (by simp)).trans (heap_alloc_new w _))
  have HBP := Lib.hid (show ((w.alloc (.cells #[.int .i64 0, .slice none 0 0] 37)).alloc (.cells #[.int .i64 (n.size : Int), .slice none 0 0] 37)).heap[w.heap.size + 1]? = some (.cells #[.int .i64 (n.size : Int), .slice none 0 0] 37 (0, 0)) from heap_alloc2_new w _ _)
  have XW := Lib.hid (X0.out.alloc (.cells #[.int .i64 (n.size : Int), .slice none 0 0] 37))
  have HSZ := Lib.hid (show ((w.alloc (.cells #[.int .i64 0, .slice none 0 0] 37)).alloc (.cells #[.int .i64 (n.size : Int), .slice none 0 0] 37)).heap.size = w.heap.size + 2 by simp)
  go_loopw [1, 9] (fun cc z wr => ∃ t : Nat, t ≤ C ∧ cc = .int .i64 ((C - t : Nat) : Int) ∧ z = .int .i64 ((yk q t : Nat) : Int) ∧ w.heap.size + 2 ≤ wr.heap.size ∧ wr.heap[w.heap.size]? = some (.cells #[.int .i64 0, .slice none 0 0] 37 (0, 0)) ∧ (∃ u, wr.heap[w.heap.size + 1]? = some (.cells #[.int .i64 (n.size : Int), u] 37 (0, 0)) ∧ OwnR (w.heap.size + 2) wr u (mks q n t)) ∧ Ext w wr) (fun cc _ _ => (intOf cc).toNat)
  case atStart => exact ⟨0, Nat.zero_le _, rfl, rfl, by rw [HSZ.out]; exact Nat.le_refl _, HBR.out, ⟨_, HBP.out, World.ownsRow_nil _ _ _ _⟩, XW.out⟩
  case round =>
    obtain ⟨t, ht, rfl, rfl, hsz, hb0, ⟨u, hb1, hr⟩, hx⟩ := hrel
    have HX := Lib.hid hx
    have HR := Lib.hid hr
    have HB0 := Lib.hid hb0
    have HB1 := Lib.hid hb1
    obtain ⟨ua, uc, rfl⟩ := hr.shape
    have HL := Lib.hid (mks_len q n t)
    clear hx hr HBR HBP XW HSZ
    by_cases hlt : t < C
    · have hy0 := yk_lt (s := q) (by omega) t
      have hy1 := nxt_lt (yk q t)
      have hy2 := nxt_lt (nxt (yk q t))
      have HM := Lib.hid (show mks q n (t + 1) = mks q n t ++ [mkCl (nxt (yk q t) % 6) (nxt (nxt (yk q t))) n] from rfl)
      have HYK := Lib.hid (show yk q (t + 1) = nxt (nxt (yk q t)) from rfl)
      have HN0 := Lib.hid (fun w => pzNext_any (yk q t) w hy0)
      have HN1 := Lib.hid (fun w => pzNext_any (nxt (yk q t)) w hy1)
      have hk6 := Nat.mod_lt (nxt (yk q t)) (show 0 < 6 by omega)
      have HO2 := Lib.hid (fun w => (show Calls Tryz.prog 75 #[.int .i64 (((nxt (yk q t) : Nat) : Int) % 6), .int .i64 ((nxt (nxt (yk q t)) : Nat) : Int), .string n] w fun e w' => e = .returned (.agg #[.int .i64 (mkCl (nxt (yk q t) % 6) (nxt (nxt (yk q t))) n).k, .int .i64 (mkCl (nxt (yk q t) % 6) (nxt (nxt (yk q t))) n).a, .int .i64 (mkCl (nxt (yk q t) % 6) (nxt (nxt (yk q t))) n).b]) ∧ Ext w w' from pzOf_any (nxt (yk q t) % 6) (nxt (nxt (yk q t))) n w HDG.out hk6 hy2))
      obtain ⟨g, hg⟩ : ∃ g, g = mkCl (nxt (yk q t) % 6) (nxt (nxt (yk q t))) n := ⟨_, rfl⟩
      rw [← hg] at HM HO2
      obtain ⟨y0, e0⟩ : ∃ y, y = yk q t := ⟨_, rfl⟩
      rw [← e0] at HN0 HN1 HO2 HYK hy1 hy2 ⊢
      obtain ⟨y1, e1⟩ : ∃ y, y = nxt y0 := ⟨_, rfl⟩
      rw [← e1] at HN0 HN1 HO2 HYK hy1 hy2
      obtain ⟨y2, e2⟩ : ∃ y, y = nxt y1 := ⟨_, rfl⟩
      rw [← e2] at HN1 HO2 HYK hy2
      obtain ⟨m, hm⟩ : ∃ m : Nat, m = C - t := ⟨_, rfl⟩
      have HMM := Lib.hid (show C - (t + 1) = m - 1 by omega)
      have hm1 : 1 ≤ m := by omega
      have hm2 : m ≤ 6 := by omega
      have W3 : IntKind.i64.wrap ((m : Int) - 1) = ((m - 1 : Nat) : Int) := by simp only [IntKind.wrap_i64]; omega
      have g1 : (m : Int) > 0 := by omega
      have g2 : (0 : Int) < (m : Int) := by omega
      have g3 : decide ((0 : Int) < (m : Int)) = true := decide_eq_true g2
      rw [← hm]
      clear hg e0 e1 e2 hm hk6 hy0
      obtain ⟨b1, f1⟩ := cell_of hb1 (j := 1) rfl
      go_wp2_with (go_at_call 74; first | (refine (HN0.out _).mono ?_; rintro e w' ⟨rfl, rfl⟩) | (refine (HN1.out _).mono ?_; rintro e w' ⟨rfl, rfl⟩))
      go_region_law (first | (refine step_clue rfl _ _ rfl w (w.heap.size + 2) _ _ _ g rfl (by exact R2.out) X2.out (by omega) (by have := heapLt HB12.out; omega) (by rw [HL.out]; omega) rfl ?_; intro v9 w9 r9 x9 k9; obtain ⟨a9, c9, rfl⟩ := r9.shape; have R9 := Lib.hid (show OwnR (w.heap.size + 2) w9 (.slice a9 ((mks q n t).length + 1) c9) (mks q n t ++ [g]) from (by rw [List.length_append, List.length_singleton] at r9; exact r9)); have X9 := Lib.hid x9; have HB9 := Lib.hid ((k9 (w.heap.size + 1) (by omega)).trans HB12.out); have HB90 := Lib.hid ((k9 w.heap.size (by omega)).trans HB02.out); obtain ⟨b9, f9⟩ := cell_of HB9.out (j := 1) rfl; clear r9 x9 k9) | (go_simp; go_at_call 75; refine (HO2.out _).mono ?_; rintro e w2 ⟨rfl, x2⟩; have X2 := Lib.hid ((ext_drewN HX.out _).trans x2); have R2 := Lib.hid ((HR.out.ext (ext_drewN (Ext.refl _) _)).ext x2); have HB12 := Lib.hid ((x2.block (w.heap.size + 1) (show w.heap.size + 1 < wr.heap.size by omega)).trans HB1.out); have HB02 := Lib.hid ((x2.block w.heap.size (show w.heap.size < wr.heap.size by omega)).trans HB0.out); obtain ⟨b12, f12⟩ := cell_of HB12.out (j := 1) rfl; obtain ⟨b13, f13⟩ := cell_of ((heap_alloc_old w2 (.cells #[.int .i64 g.k, .int .i64 g.a, .int .i64 g.b] 26) (heapLt HB12.out)).trans HB12.out) (j := 1) rfl; clear x2))
      all_goals go_wp2
      all_goals go_roundw
      all_goals first
        | exact ⟨t + 1, by omega, by rw [HMM.out], by rw [HYK.out], by have := heapLt HB9.out; simp; omega, (Below.heap_setCell _ ⟨w.heap.size + 1, 1, none⟩ _ w.heap.size (show w.heap.size ≠ w.heap.size + 1 by omega)).trans HB90.out, ⟨_, set_cells2 (j := 1) HB9.out, by rw [HM.out]; exact row_sameS R9.out (fun k hk => Below.heap_setCell _ ⟨w.heap.size + 1, 1, none⟩ _ k (show k ≠ w.heap.size + 1 by omega))⟩, X9.out.setCell (p := ⟨w.heap.size + 1, 1, none⟩) (show w.heap.size ≤ w.heap.size + 1 by omega) _⟩
        | (simp [intOf]; omega)
    · obtain rfl : t = C := by omega
      rw [Nat.sub_self]
      obtain ⟨e0, h0⟩ := cell_of hb0 (j := 0) rfl
      obtain ⟨e1, h1⟩ := cell_of hb0 (j := 1) rfl
      have HSB := Lib.hid (set_cells2 (j := 1) (u := .slice ua (mks q n t).length uc) (set_cells2 (j := 0) (u := .int .i64 (n.size : Int)) HB0.out))
      go_wp2_with (refine wpList_load_row rfl _ _ rfl (w.heap.size + 1) rfl 37 #[.int .i64 (n.size : Int), .slice ua (mks q n t).length uc] (0, 0) _ HB1.out Tryz.underlying37 rfl (pz_size _ _) ?_)
      exact bodyPost_ret (results_pz (p := 6) (q := 7) rfl _ _ w.heap.size _ (n.size : Int) (.slice ua (mks q n t).length uc) (0, 0) rfl HSB.out) rfl ⟨_, ret_pzb HD.out.symm HO.out.symm, by
        rw [HV.out]
        exact OwnR.down (B := w.heap.size + 2) (row_sameS HR.out (fun k hk => (Below.heap_setCell _ ⟨w.heap.size, 1, none⟩ _ k (show k ≠ w.heap.size by omega)).trans (Below.heap_setCell _ ⟨w.heap.size, 0, none⟩ _ k (show k ≠ w.heap.size by omega)))) (by omega), (HX.out.setCell (p := ⟨w.heap.size, 0, none⟩) (Nat.le_refl _) _).setCell (p := ⟨w.heap.size, 1, none⟩) (Nat.le_refl _) _⟩
end Go.Proofs.YtpdnpphjlnlneaaGreatDoor
