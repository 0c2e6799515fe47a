/- Texts that come of a text when two neighbours are exchanged: the program's way and its model's. No conditions. -/
import Derived.Test.YtnoidabmbckfkabOnce
import Derived.Test.YtnoidabmbckfkabPutIn
import Derived.Test.YtnoidabmbckfkabByR
import Derived.Deep.RegionWith
import Derived.Deep.AppendLies
import Derived.Deep.RegionLaw
namespace Go.Proofs.Ytnoidabmbckfkab
open Go.RowKit Go.Sort

def ResS (ts : List ByteArray) (ok : Bool) (w : World) (e : Ending) (w' : World) : Prop := ∃ v, e = .returned (.tuple #[v, .bool ok]) ∧ RowS w.heap.size w' v ts ∧ Ext w w'
theorem ret_vb {v : Value} {b b' : Bool} (h : b = b') : Ending.returned (.tuple #[v, .bool b]) = .returned (.tuple #[v, .bool b']) := by rw [h]
theorem sg_eq {s t : ByteArray} {i j : Nat} : sg s i = sg t j ↔ ((sg s i).toNat : Int) = ((sg t j).toNat : Int) := by
  constructor
  · intro h; rw [h]
  · intro h; exact UInt8.toNat_inj.1 (by omega)
theorem all_len (l : List ByteArray) : (putAll l).length ≤ l.length := by
  have := putAll_len l []
  simpa [putAll] using this
/-- One more text in a list of the call's own. -/
theorem app_str {ops : Array Oper} {rest : List Oper} {o : Oper} {a : Act} {Q : Exit → Act → World → Prop} (hgd : o.guard = none) (s x : Operand)
    (ho : o.op = .call { callee := .builtin .append, args := #[s, x], argTypes := #[25, 25] })
    (u : World) (B : Nat) (wr : World) (v : Value) (l : List ByteArray) (c : ByteArray) (hs : a.eval s = v) (hrow : RowS B wr v l) (hx : Ext u wr) (hB : u.heap.size ≤ B) (hBw : B ≤ wr.heap.size) (hl : l.length ≤ 1000000)
    (hxe : a.eval x = .slice (some ⟨wr.heap.size, 0, none⟩) 1 1)
    (h : ∀ v' w', RowS B w' v' (l ++ [c]) → Ext u w' → (∀ (k : Nat) (q : ByteArray) (p : Nat), wr.heap[k]? = some (Obj.stringIter q p) → w'.heap[k]? = some (Obj.stringIter q p)) → wpList Try.prog ops Q rest (a.put o.dst v') w') : wpList Try.prog ops Q (o :: rest) a (wr.alloc (.cells #[.string c] 9)) := by
  obtain ⟨i0, hi, hz0, hzs, hzb⟩ := info_parts info_strC
  refine wpList_append_own _ hgd s x 25 ho B 9 i0 (.string ⟨#[]⟩) 1 16 Try.underlying25 hi hz0 hzs hzb rfl (by decide) v l.length (l.map Value.string) hs (World.ownsRow.alloc hrow _) ⟨wr.heap.size, 0, none⟩ 1 1 [.string c] hxe rfl (cell_one_new _ _ _) (oneSS _) (by unfold maxLen; omega) (by omega) (by simp; omega) ?_
  intro v' w' hown hg _
  refine h v' w' ?_ (ext_grown (hx.alloc _) hg (fun j hj => Nat.le_trans hB (hrow.own_le j hj))) (fun k q p hk => ?_)
  · unfold RowS
    rw [List.length_append, List.map_append]
    exact hown
  · have hlt := (Array.getElem?_eq_some_iff.1 hk).1
    rw [hg.block k (by simp; omega) (row_not_iter hrow hk)]
    exact iter_ext hk ((Ext.refl _).alloc _)
/-- The same, at a step of a region that draws. -/
theorem step_str {ops : Array Oper} {o : Oper} {a : Act} {K : Act → World → Prop} {Q : Exit → Act → World → Prop} {E : Prop} (hgd : o.guard = none) (s x : Operand)
    (ho : o.op = .call { callee := .builtin .append, args := #[s, x], argTypes := #[25, 25] })
    (u : World) (B : Nat) (wr : World) (v : Value) (l : List ByteArray) (c : ByteArray) (hs : a.eval s = v) (hrow : RowS B wr v l) (hx : Ext u wr) (hB : u.heap.size ≤ B) (hBw : B ≤ wr.heap.size) (hl : l.length ≤ 1000000)
    (hxe : a.eval x = .slice (some ⟨wr.heap.size, 0, none⟩) 1 1)
    (h : ∀ v' w', RowS B w' v' (l ++ [c]) → Ext u w' → (∀ (k : Nat) (q : ByteArray) (p : Nat), wr.heap[k]? = some (Obj.stringIter q p) → w'.heap[k]? = some (Obj.stringIter q p)) → K (a.put o.dst v') w') : if Region.wanted o (yielded ops a.tmps) = true then Oper.wp Try.prog o a (wr.alloc (.cells #[.string c] 9)) K Q else E := by
  obtain ⟨i0, hi, hz0, hzs, hzb⟩ := info_parts info_strC
  refine step_append_lies _ hgd s x 25 ho B 9 i0 (.string ⟨#[]⟩) 1 16 Try.underlying25 hi hz0 hzs hzb rfl (by decide) v l.length (l.map Value.string) hs (World.ownsRow.alloc hrow _) ⟨wr.heap.size, 0, none⟩ 1 1 [.string c] hxe rfl (cell_one_new _ _ _) (oneSS _) (by decide) (by unfold maxLen; omega) (by omega) (by simp; omega) _ rfl ?_
  intro g cap w' hown hg _ _
  refine h _ w' ?_ (ext_grown (hx.alloc _) hg (fun j hj => Nat.le_trans hB (hrow.own_le j hj))) (fun k q p hk => ?_)
  · unfold RowS
    rw [List.length_append, List.map_append]
    exact hown
  · have hlt := (Array.getElem?_eq_some_iff.1 hk).1
    rw [hg.block k (by simp; omega) (row_not_iter hrow hk)]
    exact iter_ext hk ((Ext.refl _).alloc _)
/-- The text with two neighbours exchanged. -/
def swp (s : ByteArray) (i : Nat) : ByteArray := s.extract 0 i ++ s.extract (i + 1) (i + 1 + 1) ++ s.extract i (i + 1) ++ s.extract (i + 1 + 1) s.size
/-- All of them, of the first so many neighbours. -/
def sws (s : ByteArray) : Nat → List ByteArray
  | 0 => []
  | j + 1 => if sg s j = sg s (j + 1) then sws s j else sws s j ++ [swp s j]
theorem sws_len (s : ByteArray) : ∀ j, (sws s j).length ≤ j
  | 0 => Nat.le_refl _
  | j + 1 => by
    have := sws_len s j
    rw [sws]
    split
    · omega
    · rw [List.length_append, List.length_singleton]; omega
theorem sws_yes {s : ByteArray} {j : Nat} (h : sg s j = sg s (j + 1)) : sws s (j + 1) = sws s j := by rw [sws, if_pos h]
theorem sws_no {s : ByteArray} {j : Nat} (h : ¬ sg s j = sg s (j + 1)) : sws s (j + 1) = sws s j ++ [swp s j] := by rw [sws, if_neg h]
theorem swp_size {s : ByteArray} {i : Nat} (h : i + 1 < s.size) : (swp s i).size = s.size := by
  unfold swp
  simp only [ByteArray.size_append, ByteArray.size_extract]
  omega
theorem sws_size {s : ByteArray} : ∀ j, j < s.size → ∀ t ∈ sws s j, t.size = s.size
  | 0, _, t, h => by cases h
  | j + 1, hj, t, h => by
    rw [sws] at h
    split at h
    · exact sws_size j (by omega) t h
    · rcases List.mem_append.1 h with h | h
      · exact sws_size j (by omega) t h
      · rw [List.mem_singleton] at h
        rw [h, swp_size hj]
def swV (s : ByteArray) : List ByteArray := if isT 20 s then putAll (sws s (s.size - 1)) else []
theorem swV_no {s : ByteArray} (h : isT 20 s = false) : swV s = [] := by unfold swV; rw [h]; rfl
theorem swV_yes {s : ByteArray} (h : isT 20 s = true) : swV s = putAll (sws s (s.size - 1)) := by unfold swV; rw [h]; rfl
theorem swV_len (s : ByteArray) : (swV s).length ≤ 1048576 := by
  cases h : isT 20 s
  · rw [swV_no h]; simp
  · rw [swV_yes h]
    have := all_len (sws s (s.size - 1))
    have := sws_len s (s.size - 1)
    have := isT_size h
    omega
theorem swV_mem (s : ByteArray) : ∀ t ∈ swV s, t.size ≤ maxLen := by
  intro t ht
  cases h : isT 20 s
  · rw [swV_no h] at ht; cases ht
  · rw [swV_yes h] at ht
    have h20 := isT_size h
    have hm := (putAll_mem _ t).1 ht
    by_cases h0 : s.size = 0
    · rw [h0] at hm; cases hm
    · have := sws_size _ (by omega) t hm
      unfold maxLen
      omega

set_option maxRecDepth 100000 in
set_option maxHeartbeats 4000000 in
theorem swI_any (s : ByteArray) (w : World) (hs : s.size ≤ maxLen) : Calls Try.prog 26 #[.string s] w (ResS (swV s) (isT 20 s) w) := by
  cases h : isT 20 s
  · have HV := Lib.hid (swV_no h)
    go_enter Try.func26, Try.ntmps26
    go_wp2_with (go_at_call 53; refine (isTyped_any s _ hs).mono ?_; rintro e w1 ⟨rfl, x1⟩; rw [h])
    go_ret2
    exact ⟨_, rfl, by rw [HV.out]; exact RowS.nil _ _, x1⟩
  have HV := Lib.hid (swV_yes h)
  have h20 := isT_size h
  go_enter Try.func26, Try.ntmps26
  go_wp2_with (go_at_call 53; refine (isTyped_any s _ hs).mono ?_; rintro e w1 ⟨rfl, x1⟩; rw [h])
  clear h
  go_loopw [4, 5] (fun o i wr => ∃ j : Nat, (j + 1 ≤ s.size ∨ j = 0) ∧ i = .int .i64 (j + 1 : Nat) ∧ RowS w.heap.size wr o (sws s j) ∧ ((sws s j).length = 0 → o = .slice none 0 0) ∧ Ext w wr) (fun _ i _ => s.size - (intOf i).toNat)
  case atStart => exact ⟨0, .inr rfl, rfl, RowS.nil _ _, fun _ => rfl, x1⟩
  case round =>
    obtain ⟨j, hj, rfl, hr, hn, hx⟩ := hrel
    have HR := Lib.hid hr
    have HZ := Lib.hid hn
    clear hr hn
    have hcl := sws_len s j
    obtain ⟨k, hk⟩ : ∃ k, k = j + 1 := ⟨_, rfl⟩
    have HK := Lib.hid hk
    rw [← hk]
    by_cases hlt : k < s.size
    · have ik : ∀ w, (Instr.index 9 (.string s) (.int .i64 (k : Int))).run Try.prog w = .ok (.int .u8 ((sg s k).toNat : Int)) w := fun w => ixB s k hlt w
      have hjl : j < s.size := by omega
      have ij : ∀ w, (Instr.index 9 (.string s) (.int .i64 (j : Int))).run Try.prog w = .ok (.int .u8 ((sg s j).toNat : Int)) w := fun w => ixB s j hjl w
      have W1 : IntKind.i64.wrap ((k : Int) - 1) = ((j : Nat) : Int) := by simp only [IntKind.wrap_i64]; omega
      have W2 : IntKind.i64.wrap ((k : Int) + 1) = ((k + 1 : Nat) : Int) := by simp only [IntKind.wrap_i64]; omega
      by_cases he : ((sg s j).toNat : Int) = ((sg s k).toNat : Int)
      · have HN := Lib.hid (sws_yes (s := s) (j := j) (by rw [← hk]; exact sg_eq.2 he))
        clear hk
        go_wp2
        go_quiet (fail)
        go_wp2
        exact ⟨⟨k, by omega, by go_num, by rw [HK.out, HN.out]; exact HR.out.ext (ext_drewN (Ext.refl _) _), by rw [HK.out, HN.out]; exact HZ.out, ext_drewN hx _⟩, by simp [intOf]; omega⟩
      · have HN := Lib.hid (sws_no (s := s) (j := j) (by rw [← hk]; exact fun h => he (sg_eq.1 h)))
        have hb : (((sg s j).toNat : Int) != ((sg s k).toNat : Int)) = true := bne_iff_ne.2 he
        have HSW := Lib.hid (show swp s j = s.extract 0 j ++ s.extract k (k + 1) ++ s.extract j k ++ s.extract (k + 1) s.size by rw [hk]; rfl)
        have HNZ := Lib.hid (show ¬ (sws s (j + 1)).length = 0 by rw [HN.out, List.length_append]; simp)
        have b1 : (j : Int) ≤ (s.size : Int) := by omega
        have b2 : (k : Int) ≤ ((k + 1 : Nat) : Int) := by omega
        have b3 : ((k + 1 : Nat) : Int) ≤ (s.size : Int) := by omega
        have b4 : (j : Int) ≤ (k : Int) := by omega
        have b5 : (k : Int) ≤ (s.size : Int) := by omega
        have n1 : j ≤ s.size := by omega
        have n2 : k ≤ k + 1 := by omega
        have n3 : k + 1 ≤ s.size := by omega
        have n4 : j ≤ k := by omega
        have n5 : k ≤ s.size := by omega
        obtain ⟨A1, hA1⟩ : ∃ A, A = s.extract 0 j := ⟨_, rfl⟩
        obtain ⟨A2, hA2⟩ : ∃ A, A = s.extract k (k + 1) := ⟨_, rfl⟩
        obtain ⟨A3, hA3⟩ : ∃ A, A = s.extract j k := ⟨_, rfl⟩
        obtain ⟨A4, hA4⟩ : ∃ A, A = s.extract (k + 1) s.size := ⟨_, rfl⟩
        have z1 : A1.size ≤ 20 := by rw [hA1, ByteArray.size_extract]; omega
        have z2 : A2.size ≤ 20 := by rw [hA2, ByteArray.size_extract]; omega
        have z3 : A3.size ≤ 20 := by rw [hA3, ByteArray.size_extract]; omega
        have z4 : A4.size ≤ 20 := by rw [hA4, ByteArray.size_extract]; omega
        rw [← hA1, ← hA2, ← hA3, ← hA4] at HSW
        have q1 : ¬ 9223372036854775807 < A1.size + A2.size := by omega
        have q2 : ¬ 9223372036854775807 < (A1 ++ A2).size + A3.size := by rw [ByteArray.size_append]; omega
        have q3 : ¬ 9223372036854775807 < (A1 ++ A2 ++ A3).size + A4.size := by rw [ByteArray.size_append, ByteArray.size_append]; omega
        have q4 : ¬ 9223372036854775807 < A1.size + A2.size + A3.size := by omega
        have q5 : ¬ 9223372036854775807 < A1.size + A2.size + A3.size + A4.size := by omega
        have l1 : ∀ w, (Instr.slice 9 (.string s) none (some (.int .i64 (j : Int))) none).run Try.prog w = .ok (.string A1) w := fun w => by rw [hA1]; exact slB_to s j n1 w
        have l2 : ∀ w, (Instr.slice 9 (.string s) (some (.int .i64 (k : Int))) (some (.int .i64 ((k : Int) + 1))) none).run Try.prog w = .ok (.string A2) w := fun w => by rw [hA2]; exact slB s k (k + 1) n2 n3 w
        have l3 : ∀ w, (Instr.slice 9 (.string s) (some (.int .i64 (j : Int))) (some (.int .i64 (k : Int))) none).run Try.prog w = .ok (.string A3) w := fun w => by rw [hA3]; exact slB s j k n4 n5 w
        have l4 : ∀ w, (Instr.slice 9 (.string s) (some (.int .i64 ((k : Int) + 1))) none none).run Try.prog w = .ok (.string A4) w := fun w => by rw [hA4]; exact slB_from s (k + 1) n3 w
        clear hk hA1 hA2 hA3 hA4
        go_wp2
        go_quiet (fail)
        go_wp2
        go_region_law (refine step_str rfl _ _ rfl w w.heap.size _ _ _ (A1 ++ A2 ++ A3 ++ A4) rfl (by exact HR.out.ext (ext_drewN (Ext.refl _) _)) (by exact ext_drewN hx _) (Nat.le_refl _) (ext_drewN hx _).size (by omega) rfl ?_; intro v5 w5 r5 x5 _; have R5 := Lib.hid r5; clear r5)
        go_wp2
        exact ⟨⟨k, by omega, by go_num, by rw [HK.out, HN.out, HSW.out]; exact R5.out, fun h => absurd (by rw [← HK.out]; exact h) HNZ.out, x5⟩, by simp [intOf]; omega⟩
    · have HE := Lib.hid (show swV s = putAll (sws s j) by rw [HV.out, show s.size - 1 = j by omega])
      clear hk
      by_cases h0 : (sws s j).length = 0
      · obtain rfl := HZ.out h0
        have HE2 := Lib.hid (show swV s = [] by rw [HE.out, List.length_eq_zero_iff.1 h0]; rfl)
        clear h0
        go_wp2_with (go_at_call 59; refine (once_zero _ _ _).mono ?_; rintro e w3 ⟨rfl, rfl⟩)
        go_ret2
        exact ⟨_, rfl, by rw [HE2.out]; exact RowS.nil _ _, hx⟩
      · obtain ⟨a, cap, rfl⟩ := HR.out.shape
        obtain ⟨g, rfl, hBg, _⟩ := HR.out.at 0 (by omega)
        obtain ⟨n, hn⟩ : ∃ n, n = (sws s j).length := ⟨_, rfl⟩
        have HNN := Lib.hid hn
        have HR2 := Lib.hid (show wr.ownsRow w.heap.size 9 1 (.slice (some ⟨g, 0, none⟩) n cap) n ((sws s j).map Value.string) by rw [hn]; exact HR.out)
        have hn20 : n ≤ 20 := by omega
        rw [← hn]
        clear hn
        go_wp2_with (go_at_call 59; refine (once_any w.heap.size g n cap (sws s j) _ HNN.out.symm (by omega) HR2.out).mono ?_; rintro e w3 ⟨v3, rfl, r3, x3⟩)
        go_ret2
        exact ⟨_, rfl, by rw [HE.out]; exact r3, x3 _ hx hBg⟩

set_option maxRecDepth 100000 in
set_option maxHeartbeats 4000000 in
theorem swS_any (s : ByteArray) (w : World) (hs : s.size ≤ maxLen) : Calls Try.prog 25 #[.string s] w (ResS (swV s) (isT 20 s) w) := by
  cases h : isT 20 s
  · have HV := Lib.hid (swV_no h)
    go_enter Try.func25, Try.ntmps25
    go_wp2_with (go_at_call 50; refine (bkText_any s _ hs).mono ?_; rintro e w1 ⟨rfl, rfl⟩; rw [h])
    go_ret2
    exact ⟨_, rfl, by rw [HV.out]; exact RowS.nil _ _, Ext.refl _⟩
  have HV := Lib.hid (swV_yes h)
  have h20 := isT_size h
  go_enter Try.func25, Try.ntmps25
  go_wp2_with (go_at_call 50; refine (bkText_any s _ hs).mono ?_; rintro e w1 ⟨rfl, rfl⟩; rw [h])
  clear h
  go_loopw [4, 5] (fun o i wr => ∃ j : Nat, (j + 1 ≤ s.size ∨ j = 0) ∧ i = .int .i64 (j + 1 : Nat) ∧ RowS w.heap.size wr o (putAll (sws s j)) ∧ ((sws s j).length = 0 → o = .slice none 0 0) ∧ Ext w wr) (fun _ i _ => s.size - (intOf i).toNat)
  case atStart => exact ⟨0, .inr rfl, rfl, RowS.nil _ _, fun _ => rfl, Ext.refl _⟩
  case round =>
    obtain ⟨j, hj, rfl, hr, hn, hx⟩ := hrel
    have HR := Lib.hid hr
    have HZ := Lib.hid hn
    clear hr hn
    have hcl := sws_len s j
    have hpl := all_len (sws s j)
    obtain ⟨k, hk⟩ : ∃ k, k = j + 1 := ⟨_, rfl⟩
    have HK := Lib.hid hk
    rw [← hk]
    by_cases hlt : k < s.size
    · have ik : ∀ w, (Instr.index 9 (.string s) (.int .i64 (k : Int))).run Try.prog w = .ok (.int .u8 ((sg s k).toNat : Int)) w := fun w => ixB s k hlt w
      have hjl : j < s.size := by omega
      have ij : ∀ w, (Instr.index 9 (.string s) (.int .i64 (j : Int))).run Try.prog w = .ok (.int .u8 ((sg s j).toNat : Int)) w := fun w => ixB s j hjl w
      have W1 : IntKind.i64.wrap ((k : Int) - 1) = ((j : Nat) : Int) := by simp only [IntKind.wrap_i64]; omega
      have W2 : IntKind.i64.wrap ((k : Int) + 1) = ((k + 1 : Nat) : Int) := by simp only [IntKind.wrap_i64]; omega
      by_cases he : ((sg s j).toNat : Int) = ((sg s k).toNat : Int)
      · have HN := Lib.hid (sws_yes (s := s) (j := j) (by rw [← hk]; exact sg_eq.2 he))
        clear hk
        go_wp2
        go_quiet (fail)
        go_wp2
        exact ⟨⟨k, by omega, by go_num, by rw [HK.out, HN.out]; exact HR.out.ext (ext_drewN (Ext.refl _) _), by rw [HK.out, HN.out]; exact HZ.out, ext_drewN hx _⟩, by simp [intOf]; omega⟩
      · have HN := Lib.hid (sws_no (s := s) (j := j) (by rw [← hk]; exact fun h => he (sg_eq.1 h)))
        have hb : (((sg s j).toNat : Int) != ((sg s k).toNat : Int)) = true := bne_iff_ne.2 he
        have HSW := Lib.hid (show swp s j = s.extract 0 j ++ s.extract k (k + 1) ++ s.extract j k ++ s.extract (k + 1) s.size by rw [hk]; rfl)
        have HNZ := Lib.hid (show ¬ (sws s (j + 1)).length = 0 by rw [HN.out, List.length_append]; simp)
        have HSZ := Lib.hid (show ∀ t ∈ putAll (sws s j), t.size ≤ maxLen from fun t ht => by
          have := sws_size j hjl t ((putAll_mem _ t).1 ht)
          unfold maxLen
          omega)
        have HPN := Lib.hid (show putAll (sws s k) = putL (putAll (sws s j)) (swp s j) by rw [hk, HN.out, putAll_snoc])
        have n1 : j ≤ s.size := by omega
        have n2 : k ≤ k + 1 := by omega
        have n3 : k + 1 ≤ s.size := by omega
        have n4 : j ≤ k := by omega
        have n5 : k ≤ s.size := by omega
        obtain ⟨A1, hA1⟩ : ∃ A, A = s.extract 0 j := ⟨_, rfl⟩
        obtain ⟨A2, hA2⟩ : ∃ A, A = s.extract k (k + 1) := ⟨_, rfl⟩
        obtain ⟨A3, hA3⟩ : ∃ A, A = s.extract j k := ⟨_, rfl⟩
        obtain ⟨A4, hA4⟩ : ∃ A, A = s.extract (k + 1) s.size := ⟨_, rfl⟩
        have z1 : A1.size ≤ 20 := by rw [hA1, ByteArray.size_extract]; omega
        have z2 : A2.size ≤ 20 := by rw [hA2, ByteArray.size_extract]; omega
        have z3 : A3.size ≤ 20 := by rw [hA3, ByteArray.size_extract]; omega
        have z4 : A4.size ≤ 20 := by rw [hA4, ByteArray.size_extract]; omega
        rw [← hA1, ← hA2, ← hA3, ← hA4] at HSW
        have q1 : ¬ 9223372036854775807 < A1.size + A2.size := by omega
        have q2 : ¬ 9223372036854775807 < (A1 ++ A2).size + A3.size := by rw [ByteArray.size_append]; omega
        have q3 : ¬ 9223372036854775807 < (A1 ++ A2 ++ A3).size + A4.size := by rw [ByteArray.size_append, ByteArray.size_append]; omega
        have q4 : ¬ 9223372036854775807 < A1.size + A2.size + A3.size := by omega
        have q5 : ¬ 9223372036854775807 < A1.size + A2.size + A3.size + A4.size := by omega
        have l1 : ∀ w, (Instr.slice 9 (.string s) none (some (.int .i64 (j : Int))) none).run Try.prog w = .ok (.string A1) w := fun w => by rw [hA1]; exact slB_to s j n1 w
        have l2 : ∀ w, (Instr.slice 9 (.string s) (some (.int .i64 (k : Int))) (some (.int .i64 ((k : Int) + 1))) none).run Try.prog w = .ok (.string A2) w := fun w => by rw [hA2]; exact slB s k (k + 1) n2 n3 w
        have l3 : ∀ w, (Instr.slice 9 (.string s) (some (.int .i64 (j : Int))) (some (.int .i64 (k : Int))) none).run Try.prog w = .ok (.string A3) w := fun w => by rw [hA3]; exact slB s j k n4 n5 w
        have l4 : ∀ w, (Instr.slice 9 (.string s) (some (.int .i64 ((k : Int) + 1))) none none).run Try.prog w = .ok (.string A4) w := fun w => by rw [hA4]; exact slB_from s (k + 1) n3 w
        obtain ⟨Z, hZ⟩ : ∃ Z, Z = swp s j := ⟨_, rfl⟩
        have HZZ := Lib.hid (show A1 ++ A2 ++ A3 ++ A4 = Z by rw [hZ, HSW.out])
        rw [← hZ] at HPN
        clear hk hA1 hA2 hA3 hA4 hZ
        by_cases h0 : (sws s j).length = 0
        · obtain rfl := HZ.out h0
          have HE := Lib.hid (show putAll (sws s j) = [] by rw [List.length_eq_zero_iff.1 h0]; rfl)
          clear h0
          go_wp2
          go_quiet (fail)
          go_wp2
          go_region_with (go_at_call 58; rw [HZZ.out]; refine (wdPut_nil _ _).mono ?_; rintro e w9 ⟨v9, rfl, r9, x9⟩; have R9 := Lib.hid (r9.down (B' := w.heap.size) (ext_drewN hx _).size); have X9 := (ext_drewN hx _).trans x9; clear r9 x9)
          go_wp2
          exact ⟨⟨k, by omega, by go_num, by rw [HPN.out, HE.out]; exact R9.out, fun h => absurd (by rw [← HK.out]; exact h) HNZ.out, X9⟩, by simp [intOf]; omega⟩
        · have HPOS := Lib.hid (show 0 < (putAll (sws s j)).length from List.length_pos_of_mem ((putAll_mem _ ((sws s j)[0]'(by omega))).2 (List.getElem_mem _)))
          clear h0
          go_wp2
          go_quiet (fail)
          go_wp2
          go_region_with (go_at_call 58; rw [HZZ.out]; refine (wdPut_any w.heap.size _ _ _ _ (HR.out.ext (ext_drewN (Ext.refl _) _)) (ext_drewN hx _).size (by omega) HSZ.out HPOS.out).mono ?_; rintro e w9 ⟨v9, rfl, r9, x9, _⟩; have R9 := Lib.hid r9; have X9 := (ext_drewN hx _).trans x9; clear r9 x9)
          go_wp2
          exact ⟨⟨k, by omega, by go_num, by rw [HPN.out]; exact R9.out, fun h => absurd (by rw [← HK.out]; exact h) HNZ.out, X9⟩, by simp [intOf]; omega⟩
    · have HE := Lib.hid (show swV s = putAll (sws s j) by rw [HV.out, show s.size - 1 = j by omega])
      clear hk
      go_wp2
      go_ret2
      exact ⟨_, rfl, by rw [HE.out]; exact HR.out, hx⟩
end Go.Proofs.Ytnoidabmbckfkab
