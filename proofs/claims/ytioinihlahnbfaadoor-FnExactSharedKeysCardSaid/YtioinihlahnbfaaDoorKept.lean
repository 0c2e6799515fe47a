/- The words of a dictionary kept by their keys: the program's map. No conditions but the table's content. -/
import Derived.Test.YtioinihlahnbfaaDoorRowKey
import Derived.Lib.SlBuf
import Derived.WideKeyEntry
import Derived.Laws.Tables
namespace Go.Proofs.YtioinihlahnbfaaDoor
open Go.RowKit Go.Maps Go.Lib

theorem add_block (a : Addr) (j : Nat) : (a.add j).block = a.block := by cases a; simp only [Addr.add]; split <;> rfl
theorem ext_setRow {w w1 : World} (h : Ext w w1) (g : Nat) (cs : Array Value) (hg : w.heap.size ≤ g) : Ext w (w1.setRow g cs) :=
  ⟨h.os, h.tape, h.output, by simpa [World.setRow] using h.size, fun k hk => (setRow_other w1 g k cs (by omega)).trans (h.block k hk)⟩
/-- Twenty zeros. -/
def zero20 : Array Value := #[.int .u8 0, .int .u8 0, .int .u8 0, .int .u8 0, .int .u8 0, .int .u8 0, .int .u8 0, .int .u8 0, .int .u8 0, .int .u8 0, .int .u8 0, .int .u8 0, .int .u8 0, .int .u8 0, .int .u8 0, .int .u8 0, .int .u8 0, .int .u8 0, .int .u8 0, .int .u8 0]
theorem zero20_list : zero20.toList = (List.range 20).map fun _ => Value.int .u8 0 := rfl
theorem copied (q : ByteArray) (hq : q.size ≤ 20) : (zero20.toList.take 0 ++ byteCells q.data.toList ++ zero20.toList.drop (0 + q.size)).toArray = (rowCells q).toArray := by
  congr 1
  apply List.ext_getElem?
  intro i
  have hb : (byteCells q.data.toList).length = q.size := by rw [byteCells_length]; simp
  rw [List.take_zero, List.nil_append, Nat.zero_add]
  have hqd : q.data.toList.length = q.size := by simp
  by_cases h1 : i < q.size
  · rw [List.getElem?_append_left (by omega)]
    unfold rowCells byteCells
    rw [List.getElem?_map, List.getElem?_map, List.getElem?_range (by omega), List.getElem?_eq_getElem (by omega)]
    simp only [Option.map_some, List.getD_eq_getElem?_getD]
    rw [List.getElem?_eq_getElem (by omega)]
    rfl
  · rw [List.getElem?_append_right (by omega), hb, List.getElem?_drop, zero20_list]
    unfold rowCells
    rw [List.getElem?_map, List.getElem?_map]
    by_cases h2 : i < 20
    · rw [show q.size + (i - q.size) = i by omega, List.getElem?_range h2]
      simp only [Option.map_some, List.getD_eq_getElem?_getD]
      rw [List.getElem?_eq_none (by omega)]
      rfl
    · rw [show q.size + (i - q.size) = i by omega, List.getElem?_eq_none (by simp; omega)]
      rfl

set_option maxRecDepth 100000 in
set_option maxHeartbeats 2000000 in
theorem rowOf_any (q : ByteArray) (w : World) (hq : q.size ≤ 20) : Calls Tryd.prog 68 #[.string q] w fun e w' => e = .returned (rowV q) ∧ Ext w w' := by
  go_enter Tryd.func68, Tryd.ntmps68
  have hinfo : (Tryd.prog.info? 81).map (·.size) = some 20 := by kernel_rfl
  have hinf : (Tryd.prog.info? 81).map (·.size) = some (rowCells q).toArray.size := by rw [hinfo, List.size_toArray, rowCells_len]
  have HN := Lib.hid hinf
  clear hinf hinfo
  have hone : (rowCells q).toArray.all (·.oneCell') = true := by
    rw [Array.all_eq_true_iff_forall_mem]
    intro v hv
    rw [List.mem_toArray] at hv
    obtain ⟨i, _, rfl⟩ := List.mem_map.1 hv
    rfl
  obtain ⟨W2, hW2⟩ : ∃ W2, W2 = (w.alloc (.cells zero20 81)).alloc (.cells zero20 81) := ⟨_, rfl⟩
  have hg : W2.heap[w.heap.size + 1]? = some (.cells zero20 81) := by rw [hW2]; exact heap_alloc2_new w _ _
  have hg0 : W2.heap[w.heap.size]? = some (.cells zero20 81) := by rw [hW2]; exact heap_alloc2_old w _ _
  have X2 : Ext w W2 := by rw [hW2]; exact ((Ext.refl _).alloc _).alloc _
  have hcopy := Lib.run_copy_row_string (P := Tryd.prog) W2 46 9 3 5 (w.heap.size + 1) 0 20 20 q zero20 81 Tryd.underlying46 (by kernel_rfl) hg hq (by show 0 + q.size ≤ 20; omega)
  rw [copied q hq] at hcopy
  obtain ⟨W3, hW3⟩ : ∃ W3, W3 = W2.setRow (w.heap.size + 1) (rowCells q).toArray := ⟨_, rfl⟩
  have hg3 : W3.heap[w.heap.size + 1]? = some (.cells (rowCells q).toArray 81) := by rw [hW3]; exact setRow_heap W2 _ _ _ _ _ hg
  have hg03 : W3.heap[w.heap.size]? = some (.cells zero20 81) := by rw [hW3, setRow_other W2 _ _ _ (by omega)]; exact hg0
  have X3 : Ext w W3 := by rw [hW3]; exact ext_setRow X2 _ _ (by omega)
  rw [← hW3] at hcopy
  rw [hW2] at hcopy
  have G3 := Lib.hid hg3
  have G03 := Lib.hid hg03
  clear hg hg0 X2 hW3 hg3 hg03 hW2 W2
  unfold zero20 at hcopy
  have hx0 : w.heap.size ≤ W3.heap.size := X3.size
  have h20 : (rowCells q).length = 20 := rowCells_len q
  have honeL : ∀ v ∈ rowCells q, v.oneCell' = true := by
    intro v hv
    obtain ⟨i, _, rfl⟩ := List.mem_map.1 hv
    rfl
  have hstore := run_storeCells_at Tryd.prog w.heap.size 0 81 (rowCells q) 0 zero20 W3 G03.out (by rw [h20]; decide) honeL
  rw [h20, Nat.add_zero, show (zero20.toList.take 0 ++ rowCells q ++ zero20.toList.drop (0 + 20)).toArray = (rowCells q).toArray by
    rw [List.take_zero, List.nil_append, List.drop_of_length_le (by decide), List.append_nil]] at hstore
  obtain ⟨W4, hW4⟩ : ∃ W4, W4 = W3.setRow w.heap.size (rowCells q).toArray := ⟨_, rfl⟩
  have hg4 : W4.heap[w.heap.size]? = some (.cells (rowCells q).toArray 81) := by rw [hW4]; exact setRow_heap W3 _ _ _ _ _ G03.out
  have X4 : Ext w W4 := by rw [hW4]; exact ext_setRow X3 _ _ (Nat.le_refl _)
  rw [← hW4] at hstore
  have G4 := Lib.hid hg4
  clear hW4 hg4 honeL hone
  go_wp2_with (first | (refine wpList_load_row rfl _ _ rfl (w.heap.size + 1) rfl 81 (rowCells q).toArray (0, 0) _ G3.out Tryd.underlying81 rfl HN.out ?_))
  exact bodyPost_ret (results_cell_row (P := Tryd.prog) (p := 2) (ty := 81) rfl _ _ w.heap.size 81 (rowCells q).toArray (0, 0) _ rfl G4.out Tryd.underlying81 rfl HN.out) rfl ⟨rfl, X4⟩

/-- An element of the map, read as itself. -/
def opq (v : Value) : Option (DataW Value × List MemPlace) := some (.held v, [])
/-- The words of a list kept by their keys: the map in block B, each list a row of the call's own, no two in one row. -/
def Kept (B n : Nat) (w : World) (l : List ByteArray) : Prop := ∃ (D : DataW Value) (G : ByteArray → Value), w.ownsMap Tryd.prog 81 opq B n D ∧ B + 1 ≤ w.heap.size ∧
  (∀ q, okQ q → D.atKey (kl q) (.held (.slice none 0 0)) = .held (G q) ∧ RowS (B + 1) w (G q) (fors l q)) ∧
  ∀ q q', okQ q → okQ q' → ¬ q = q' → (G q).ownBlock = none ∨ (G q).ownBlock ≠ (G q').ownBlock
theorem ownsMap_isMap {P : Program} {k : TypeId} {R : Value → Option (DataW Value × List MemPlace)} {w : World} {b n : Nat} {D : DataW Value} (h : w.ownsMap P k R b n D) : IsMap D := by
  obtain ⟨es, clock, _, _, _, hD⟩ := h
  exact ⟨_, hD⟩
theorem kept_grown {B n : Nat} {w w' : World} {l : List ByteArray} (h : Kept B n w l) (hx : Ext w w') : Kept B n w' l := by
  obtain ⟨D, G, h1, h2, h3, h4⟩ := h
  have hg : w.grownBy w' none := ⟨hx.os, hx.tape, hx.output, hx.size, fun k hk _ => hx.block k hk⟩
  exact ⟨D, G, h1.kept hg (by simp), Nat.le_trans h2 hx.size, fun q hq => ⟨(h3 q hq).1, (h3 q hq).2.ext hx⟩, h4⟩
theorem kept_made (w : World) : Kept w.heap.size 0 (w.alloc (.map #[] 0)) [] :=
  ⟨.map [], fun _ => .slice none 0 0, World.ownsMap_made _ _ _ _, by simp, fun q _ => ⟨rfl, RowS.nil _ _⟩, fun q q' _ _ _ => .inl rfl⟩
theorem zeroList (w : World) : (zeroValue 22).run Tryd.prog w = .ok (.slice none 0 0) w := by kernel_rfl
/-- The list at a key. -/
theorem kept_look {B n : Nat} {w : World} {l : List ByteArray} (h : Kept B n w l) (q : ByteArray) (hq : okQ q) : ∃ v, (Instr.lookup 58 (.map (some B)) (rowV q) false).run Tryd.prog w = .ok v w ∧ RowS (B + 1) w v (fors l q) := by
  obtain ⟨D, G, h1, h2, h3, h4⟩ := h
  obtain ⟨v, ps, hr, hv⟩ := h1.lookup rowLaw Tryd.underlying58 (zeroList w) (zd := .held (.slice none 0 0)) (zp := []) rfl (row_key q)
  unfold opq at hv
  injection hv with hv
  injection hv with hv _
  rw [(h3 q hq).1] at hv
  injection hv with hv
  subst hv
  exact ⟨_, hr, (h3 q hq).2⟩

set_option maxRecDepth 100000 in
set_option maxHeartbeats 4000000 in
theorem with_any (B n : Nat) (l : List ByteArray) (q : ByteArray) (w : World) (h : Kept B n w l) (hq : okQ q) : Calls Tryd.prog 51 #[.map (some B), .string q] w fun e w' => ∃ v, e = .returned v ∧ RowS (B + 1) w' v (fors l q) ∧ Ext w w' := by
  go_enter Tryd.func51, Tryd.ntmps51
  go_wp2_with (go_at_call 68; refine (rowOf_any _ _ hq.1).mono ?_; rintro e w1 ⟨rfl, x1⟩; obtain ⟨v, hv, hr⟩ := kept_look (kept_grown h x1) q hq)
  go_ret
  exact ⟨_, rfl, hr, x1⟩

/-- A row's variable, written: the world behind the store. -/
theorem row_var (w3 : World) (q : ByteArray) : ∃ W4, (storeCells ⟨w3.heap.size, 0, none⟩ (rowCells q)).run Tryd.prog (w3.alloc (.cells zero20 81)) = .ok () W4 ∧ W4.heap[w3.heap.size]? = some (.cells (rowCells q).toArray 81) ∧ Ext w3 W4 := by
  have honeL : ∀ v ∈ rowCells q, v.oneCell' = true := by
    intro v hv
    obtain ⟨i, _, rfl⟩ := List.mem_map.1 hv
    rfl
  have h20 : (rowCells q).length = 20 := rowCells_len q
  have hg : (w3.alloc (.cells zero20 81)).heap[w3.heap.size]? = some (.cells zero20 81) := heap_alloc_new w3 _
  have hstore := run_storeCells_at Tryd.prog w3.heap.size 0 81 (rowCells q) 0 zero20 _ hg (by rw [h20]; decide) honeL
  rw [h20, Nat.add_zero, show (zero20.toList.take 0 ++ rowCells q ++ zero20.toList.drop (0 + 20)).toArray = (rowCells q).toArray by
    rw [List.take_zero, List.nil_append, List.drop_of_length_le (by decide), List.append_nil]] at hstore
  exact ⟨_, hstore, setRow_heap _ _ _ _ _ _ hg, ext_setRow ((Ext.refl _).alloc _) _ _ (Nat.le_refl _)⟩
theorem fors_snoc (l : List ByteArray) (s p : ByteArray) : fors (l ++ [s]) p = fors l p ++ (if keysB s = p then [s] else []) := by
  unfold fors
  rw [List.filter_append]
  by_cases hp : keysB s = p <;> simp [hp]
theorem rowLawK : Go.WideMaps.KeyLaw Tryd.prog 81 := deep_law_laid laidOutK (m := 2) (by decide) (of_decide_eq_true (by kernel_rfl)) (by kernel_rfl) (by kernel_rfl)
theorem kept_put {B n : Nat} {U1 w5 w6 : World} {l : List ByteArray} {s q : ByteArray} {D : DataW Value} {G : ByteArray → Value} {v' : Value} (hq : okQ q) (hqs : keysB s = q) (hD : IsMap D) (hB : B + 1 ≤ U1.heap.size)
    (hG : ∀ q, okQ q → D.atKey (kl q) (.held (.slice none 0 0)) = .held (G q) ∧ RowS (B + 1) U1 (G q) (fors l q))
    (hap : ∀ q q', okQ q → okQ q' → ¬ q = q' → (G q).ownBlock = none ∨ (G q).ownBlock ≠ (G q').ownBlock)
    (hv : RowS (B + 1) w5 v' (fors l q ++ [s])) (hgr : U1.grownBy w5 (G q).ownBlock) (hloc : v'.ownBlock = (G q).ownBlock ∨ v'.ownBlock = some U1.heap.size)
    (hown6 : w6.ownsMap Tryd.prog 81 opq B (n + 1) (D.put (kl q) (.held v'))) (hgr6 : w5.grownBy w6 (some B)) : Kept B (n + 1) w6 (l ++ [s]) := by
  have hsz := hgr.size
  have hsz6 := hgr6.size
  refine ⟨_, fun p => if p = q then v' else G p, hown6, by omega, fun p hp => ?_, fun p p' hp hp' hne => ?_⟩
  · by_cases e : p = q
    · subst e
      simp only [if_true]
      refine ⟨atKey_put_same hD (rowLaw.key (row_key p)) _ _, ?_⟩
      rw [fors_snoc, if_pos hqs]
      exact hv.kept hgr6 (hv.apart B (.inl (by omega)))
    · simp only [if_neg e]
      refine ⟨by rw [atKey_put_other (kl_ne hq hp e)]; exact (hG p hp).1, ?_⟩
      rw [fors_snoc, if_neg (by rw [hqs]; exact fun h => e h.symm), List.append_nil]
      have r1 : RowS (B + 1) w5 (G p) (fors l p) := RowS.kept (hG p hp).2 hgr (hap p q hp hq e)
      exact r1.kept hgr6 (r1.apart B (.inl (by omega)))
  · have fresh : ∀ p, okQ p → (G p).ownBlock ≠ some U1.heap.size := by
      intro p hp h1
      rcases (hG p hp).2.own with h0 | ⟨g, h0, _, h2⟩
      · rw [h0] at h1; cases h1
      · rw [h0] at h1
        injection h1 with h1
        omega
    by_cases e : p = q
    · subst e
      have e' : ¬ p' = p := fun h => hne h.symm
      simp only [if_true, if_neg e']
      rcases hloc with h1 | h1
      · rw [h1]; exact hap p p' hp hp' hne
      · rw [h1]; exact .inr (fun h => fresh p' hp' h.symm)
    · by_cases e' : p' = q
      · subst e'
        simp only [if_true, if_neg e]
        rcases hloc with h1 | h1
        · rw [h1]; exact hap p p' hp hp' e
        · rw [h1]; exact .inr (fresh p hp)
      · simp only [if_neg e, if_neg e']
        exact hap p p' hp hp' hne
set_option maxRecDepth 100000 in
/-- 'm[k] = f(m[k])': the entry is fetched once, and stored into later. -/
theorem entry_put {B n : Nat} {U : World} {D : DataW Value} (q : ByteArray) (hown : U.ownsMap Tryd.prog 81 opq B n D) (hn : n < maxLen) :
    ∃ (v0 : Value) (st : Nat) (U1 : World), (Instr.mapEntry 58 (.map (some B)) (rowV q)).run Tryd.prog U = .ok (.tuple #[v0, .int .i64 st]) U1 ∧ D.atKey (kl q) (.held (.slice none 0 0)) = .held v0 ∧ U.grownBy U1 (some B) ∧ U1.heap.size = U.heap.size ∧
      ∀ (w2 : World) (val : Value), w2.heap[B]? = U1.heap[B]? → ∃ w', (Instr.entryStore 58 (.map (some B)) (.int .i64 st) val).run Tryd.prog w2 = .ok () w' ∧ w'.ownsMap Tryd.prog 81 opq B (n + 1) (D.put (kl q) (.held val)) ∧ w2.grownBy w' (some B) := by
  have hown0 := hown
  obtain ⟨es, clock, hb, F, hs, hD⟩ := hown
  obtain ⟨v0, st, es1, clock1, h1, h2, h3⟩ := Go.WideElems.entry_then_store rowLawK Tryd.underlying58 (fun u => zeroList u) hb F (row_key q)
  refine ⟨v0, st, _, h1, ?_, ⟨rfl, rfl, rfl, by simp [Go.ChangeMaps.setBlock], fun i _ hi => Go.ChangeMaps.heap_setBlock_other hb _ (fun e => hi (by rw [e]))⟩, by simp [Go.ChangeMaps.setBlock], fun w2 val hw2 => ?_⟩
  · rw [hD]
    rcases Maps.fit_look false rowLaw Tryd.underlying58 (zeroList U) hb F (row_key q) with ⟨_, hno, hat⟩ | ⟨e0, y, hm, hk, _, hR, hat, _⟩
    · rw [hat]
      rcases h2 with ⟨e1, he1, hk1, _⟩ | ⟨_, rfl⟩
      · exact absurd hk1 (hno e1 he1)
      · rfl
    · rw [hat]
      unfold opq at hR
      injection hR with hR
      subst hR
      rcases h2 with ⟨e1, he1, hk1, rfl⟩ | ⟨hno, _⟩
      · have : e0 = e1 := by
          obtain ⟨i, hi, rfl⟩ := List.mem_iff_getElem.1 hm
          obtain ⟨j, hj, rfl⟩ := List.mem_iff_getElem.1 he1
          have hnd := F.stamped.2.2
          have : i = j := (List.getElem_inj (h₀ := by rw [List.length_map]; exact hi) (h₁ := by rw [List.length_map]; exact hj) hnd).1 (by rw [List.getElem_map, List.getElem_map, hk, hk1])
          subst this
          rfl
        rw [this]
      · exact absurd hk (hno e0 hm)
  · rw [Go.ChangeMaps.heap_setBlock_same hb] at hw2
    obtain ⟨es', clock', hst, hupd⟩ := h3 w2 val hw2
    obtain ⟨w', hr, ho, _⟩ := hown0.update rowLaw Tryd.underlying58 hn (row_key q) (val := val) (d := .held val) (ps := []) rfl
    rw [hupd] at hr
    injection hr with _ hr
    subst hr
    obtain ⟨es2, clock2, hb2, F2, hs2, hD2⟩ := ho
    rw [Go.ChangeMaps.heap_setBlock_same hb] at hb2
    injection hb2 with hb2
    injection hb2 with e1 e2
    subst e1; subst e2
    exact ⟨_, hst, ⟨_, _, Go.ChangeMaps.heap_setBlock_same hw2 _, F2, hs2, hD2⟩, ⟨rfl, rfl, rfl, by simp [Go.ChangeMaps.setBlock], fun i _ hi => Go.ChangeMaps.heap_setBlock_other hw2 _ (fun e => hi (by rw [e]))⟩⟩

/-- What the round's store needs, all told ahead: behind the row's variable, the one cell and the fetched entry. -/
theorem round_put {B n : Nat} {W4 : World} {l : List ByteArray} (s q : ByteArray) (h : Kept B n W4 l) (hq : okQ q) (hqs : keysB s = q) (hn : n < maxLen) :
    ∃ (v0 : Value) (st : Nat) (U1 : World), (Instr.mapEntry 58 (.map (some B)) (.agg (rowCells q).toArray)).run Tryd.prog (W4.alloc (.cells #[.string s] 9)) = .ok (.tuple #[v0, .int .i64 st]) U1 ∧
      RowS (B + 1) U1 v0 (fors l q) ∧ (∀ j u, [Value.string s][j]? = some u → U1.cell? ((⟨W4.heap.size, 0, none⟩ : Addr).add j) = some u) ∧ B + 1 ≤ U1.heap.size ∧ (W4.alloc (.cells #[.string s] 9)).grownBy U1 (some B) ∧
      ∀ (w5 : World) (v' : Value), w5.ownsRow (B + 1) 9 1 v' ((fors l q).length + 1) ((fors l q).map Value.string ++ [.string s]) → U1.grownBy w5 v0.ownBlock → (v'.ownBlock = v0.ownBlock ∨ v'.ownBlock = some U1.heap.size) →
        ∃ w6, (Instr.entryStore 58 (.map (some B)) (.int .i64 st) v').run Tryd.prog w5 = .ok () w6 ∧ Kept B (n + 1) w6 (l ++ [s]) ∧ w5.grownBy w6 (some B) := by
  obtain ⟨D, G, hown, hB, hG, hap⟩ := h
  obtain ⟨v0, st, U1, hent, hat, hgU, hsU, hsto⟩ := entry_put q (hown.alloc (.cells #[.string s] 9)) hn
  have e0 : G q = v0 := by
    have h1 := (hG q hq).1
    rw [h1] at hat
    injection hat
  have hsz : (W4.alloc (.cells #[.string s] 9)).heap.size = W4.heap.size + 1 := by simp
  have hG1 : ∀ p, okQ p → D.atKey (kl p) (.held (.slice none 0 0)) = .held (G p) ∧ RowS (B + 1) U1 (G p) (fors l p) := fun p hp =>
    have ra : RowS (B + 1) (W4.alloc (.cells #[.string s] 9)) (G p) (fors l p) := World.ownsRow.alloc (hG p hp).2 _
    ⟨(hG p hp).1, ra.kept hgU (ra.apart B (.inl (by omega)))⟩
  refine ⟨v0, st, U1, hent, by rw [← e0]; exact (hG1 q hq).2, fun j u hj => ?_, by omega, hgU, fun w5 v' hv hgr hloc => ?_⟩
  · have hc := cell_one_new W4 (.string s) 9 j u hj
    refine hgU.cell hc ?_
    rw [add_block]
    intro e
    injection e with e
    have : W4.heap.size = B := e
    omega
  · have hne : some B ≠ v0.ownBlock := by
      intro e
      have := (by rw [← e0]; exact (hG1 q hq).2 : RowS (B + 1) U1 v0 (fors l q)).own_le B e.symm
      omega
    obtain ⟨w6, h1, h2, h3⟩ := hsto w5 v' (hgr.block B (by omega) hne)
    refine ⟨w6, h1, ?_, h3⟩
    have hv2 : RowS (B + 1) w5 v' (fors l q ++ [s]) := by
      unfold RowS
      rw [List.length_append, List.map_append]
      exact hv
    exact kept_put hq hqs (ownsMap_isMap hown) (by omega) hG1 hap hv2 (e0 ▸ hgr) (e0 ▸ hloc) h2 h3

set_option maxRecDepth 100000 in
set_option maxHeartbeats 4000000 in
theorem keep_any (v : Value) (ss : List ByteArray) (w : World) (h : Strs w v ss) (hd : dicB ss = true) (hp : PadIs w) : Calls Tryd.prog 48 #[v] w fun e w' => e = .returned (.map (some w.heap.size)) ∧ Kept w.heap.size ss.length w' ss ∧ Ext w w' := by
  have hmm := @run_makeMap Tryd.prog
  have HS := Lib.hid h
  obtain ⟨hl1, hl2⟩ := dicB_len hd
  have HD := Lib.hid hd
  obtain ⟨a, cap, hv, hnil⟩ := h.at
  rw [hv] at HS ⊢
  clear hv hnil h v hd
  obtain ⟨i0, hi, hz0, hzs, hzb⟩ := info_parts info_strN
  have HI := Lib.hid (show Tryd.prog.info? 9 = some i0 ∧ i0.zero = some (.string ⟨#[]⟩) ∧ i0.size = 1 ∧ i0.bytes = 16 from ⟨hi, hz0, hzs, hzb⟩)
  clear hi hz0 hzs hzb
  have HK0 := Lib.hid (kept_made w)
  go_enter Tryd.func48, Tryd.ntmps48
  go_wp2
  go_loopw [10] (fun i wr => ∃ k : Nat, k ≤ ss.length ∧ i = .int .i64 k ∧ Kept w.heap.size k wr (ss.take k) ∧ Ext w wr) (fun i _ => ss.length - (RowKit.intOf i).toNat)
  case atStart => exact ⟨0, Nat.zero_le _, rfl, HK0.out, (Ext.refl _).alloc _⟩
  case round =>
    obtain ⟨k, hk, rfl, hkept, hx⟩ := hrel
    have HK := Lib.hid hkept
    clear hkept
    by_cases hlt : k < ss.length
    · rcases (HS.out.ext hx).2.2 with ⟨h3, _⟩ | ⟨b, off, cap', h4, hb, hc⟩
      · rw [h3] at hlt; exact absurd hlt (by simp)
      have ha : a = some ⟨b, off, none⟩ := by injection h4
      have e1 := hc k hlt
      have HW := Lib.hid (wdW_isW (dicB_at HD.out k hlt))
      obtain ⟨q, hq⟩ : ∃ q, q = keysB ss[k] := ⟨_, rfl⟩
      have HQ := Lib.hid hq
      have HOK := Lib.hid (show okQ q by rw [hq]; exact keysB_ok (by have := wdW_size (dicB_at HD.out k hlt); omega))
      have hlen : (fors (ss.take k) q).length ≤ 12 := Nat.le_trans (fors_len _ _) (by rw [List.length_take]; omega)
      have h20 : (rowCells q).length = 20 := rowCells_len q
      have HN := Lib.hid (show (Tryd.prog.info? 81).map (·.size) = some (rowCells q).toArray.size by rw [List.size_toArray, rowCells_len]; kernel_rfl)
      rw [ha]
      clear hc h4 ha hb hq
      go_wp2_with (first | (go_at_call 33; refine (keysL_any _ _ HW.out (hp.ext hx)).mono ?_; rintro e w2 ⟨rfl, x2⟩; rw [← HQ.out]) | (go_at_call 68; refine (rowOf_any _ _ HOK.out.1).mono ?_; rintro e w3 ⟨rfl, x3⟩; unfold rowV; obtain ⟨W4, hst, hg4, x4⟩ := row_var w3 q; unfold zero20 at hst; have G4 := Lib.hid hg4; clear hg4; obtain ⟨v0, st, U1, hent, r0, hcell, hB1, hgU, hput⟩ := round_put ss[k] q (kept_grown HK.out ((x2.trans x3).trans x4)) HOK.out HQ.out.symm (by unfold maxLen; omega); have R0 := Lib.hid r0; have HCELL := Lib.hid hcell; have HPUT := Lib.hid hput; clear r0 hcell hput) | (refine wpList_load_row rfl _ _ rfl w3.heap.size rfl 81 (rowCells q).toArray (0, 0) _ G4.out Tryd.underlying81 rfl HN.out ?_) | (at_builtin; refine wpList_append_own_at _ rfl _ _ 22 rfl (w.heap.size + 1) 9 i0 (.string ⟨#[]⟩) 1 16 Tryd.underlying22 HI.out.1 HI.out.2.1 HI.out.2.2.1 HI.out.2.2.2 rfl (by decide) _ _ _ rfl R0.out ⟨W4.heap.size, 0, none⟩ 1 1 [.string ss[k]] rfl rfl HCELL.out (oneS _) (by unfold maxLen; omega) (by omega) hB1 ?_; intro v' w5 hown' hgr' _ hloc; obtain ⟨w6, hst6, hk6, hgr6⟩ := HPUT.out w5 v' hown' hgr' hloc; have K6 := Lib.hid hk6; clear hk6 hown' hloc))
      have XU : Ext w (W4.alloc (.cells #[.string ss[k]] 9)) := (((hx.trans x2).trans x3).trans x4).alloc _
      have X1 : Ext w U1 := ext_grown XU hgU (fun j hj => by cases hj; exact Nat.le_refl _)
      have X5 : Ext w w5 := ext_grown X1 hgr' (fun j hj => Nat.le_trans (Nat.le_succ _) (R0.out.own_le j hj))
      have X6 : Ext w w6 := ext_grown X5 hgr6 (fun j hj => by cases hj; exact Nat.le_refl _)
      go_roundw
      case rel => exact ⟨k + 1, by omega, by go_num, by rw [takeS ss k hlt]; exact K6.out, X6⟩
      case measure => simp [RowKit.intOf]; omega
    · have HT := Lib.hid (show ss.take k = ss from List.take_of_length_le (by omega))
      obtain rfl : k = ss.length := by omega
      go_wp2
      go_ret
      exact ⟨rfl, by rw [HT.out] at HK; exact HK.out, hx⟩

end Go.Proofs.YtioinihlahnbfaaDoor
