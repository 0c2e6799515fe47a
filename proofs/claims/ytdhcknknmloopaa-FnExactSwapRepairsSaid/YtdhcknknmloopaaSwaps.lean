/- Texts that come of a text when two neighbours are exchanged: the program's way and its model's. No conditions. -/
import Derived.Test.YtdhcknknmloopaaOnce
import Derived.Test.YtdhcknknmloopaaPutIn
import Derived.Test.YtdhcknknmloopaaByR
import Derived.Deep.RegionWith
import Derived.Deep.AppendLies
import Derived.Deep.RegionLaw
namespace Go.Proofs.Ytdhcknknmloopaa
open Go.RowKit Go.Sort

def ResS (ts : List ByteArray) (ok : Bool) (w : World) (e : Ending) (w' : World) : Prop := ∃ v, e = .returned (.tuple #[v, .bool ok]) ∧ RowS w.heap.size w' v ts ∧ Ext w w'
theorem ret_vb {v : Value} {b b' : Bool} (h : b = b') : Ending.returned (.tuple #[v, .bool b]) = .returned (.tuple #[v, .bool b']) := by rw [h]
theorem sg_eq {s t : ByteArray} {i j : Nat} : sg s i = sg t j ↔ ((sg s i).toNat : Int) = ((sg t j).toNat : Int) := by
  constructor
  · intro h; rw [h]
  · intro h; exact UInt8.toNat_inj.1 (by omega)
theorem all_len (l : List ByteArray) : (putAll l).length ≤ l.length := by
  have := putAll_len l []
  simpa [putAll] using this
/-- One more text in a list of the call's own. -/
theorem app_str {ops : Array Oper} {rest : List Oper} {o : Oper} {a : Act} {Q : Exit → Act → World → Prop} (hgd : o.guard = none) (s x : Operand)
    (ho : o.op = .call { callee := .builtin .append, args := #[s, x], argTypes := #[46, 46] })
    (u : World) (B : Nat) (wr : World) (v : Value) (l : List ByteArray) (c : ByteArray) (hs : a.eval s = v) (hrow : RowS B wr v l) (hx : Ext u wr) (hB : u.heap.size ≤ B) (hBw : B ≤ wr.heap.size) (hl : l.length ≤ 1000000)
    (hxe : a.eval x = .slice (some ⟨wr.heap.size, 0, none⟩) 1 1)
    (h : ∀ v' w', RowS B w' v' (l ++ [c]) → Ext u w' → (∀ (k : Nat) (q : ByteArray) (p : Nat), wr.heap[k]? = some (Obj.stringIter q p) → w'.heap[k]? = some (Obj.stringIter q p)) → wpList Try.prog ops Q rest (a.put o.dst v') w') : wpList Try.prog ops Q (o :: rest) a (wr.alloc (.cells #[.string c] 9)) := by
  obtain ⟨i0, hi, hz0, hzs, hzb⟩ := info_parts info_strC
  refine wpList_append_own _ hgd s x 46 ho B 9 i0 (.string ⟨#[]⟩) 1 16 Try.underlying46 hi hz0 hzs hzb rfl (by decide) v l.length (l.map Value.string) hs (World.ownsRow.alloc hrow _) ⟨wr.heap.size, 0, none⟩ 1 1 [.string c] hxe rfl (cell_one_new _ _ _) (oneSS _) (by unfold maxLen; omega) (by omega) (by simp; omega) ?_
  intro v' w' hown hg _
  refine h v' w' ?_ (ext_grown (hx.alloc _) hg (fun j hj => Nat.le_trans hB (hrow.own_le j hj))) (fun k q p hk => ?_)
  · unfold RowS
    rw [List.length_append, List.map_append]
    exact hown
  · have hlt := (Array.getElem?_eq_some_iff.1 hk).1
    rw [hg.block k (by simp; omega) (row_not_iter hrow hk)]
    exact iter_ext hk ((Ext.refl _).alloc _)
/-- The same, at a step of a region that draws. -/
theorem step_str {ops : Array Oper} {o : Oper} {a : Act} {K : Act → World → Prop} {Q : Exit → Act → World → Prop} {E : Prop} (hgd : o.guard = none) (s x : Operand)
    (ho : o.op = .call { callee := .builtin .append, args := #[s, x], argTypes := #[46, 46] })
    (u : World) (B : Nat) (wr : World) (v : Value) (l : List ByteArray) (c : ByteArray) (hs : a.eval s = v) (hrow : RowS B wr v l) (hx : Ext u wr) (hB : u.heap.size ≤ B) (hBw : B ≤ wr.heap.size) (hl : l.length ≤ 1000000)
    (hxe : a.eval x = .slice (some ⟨wr.heap.size, 0, none⟩) 1 1)
    (h : ∀ v' w', RowS B w' v' (l ++ [c]) → Ext u w' → (∀ (k : Nat) (q : ByteArray) (p : Nat), wr.heap[k]? = some (Obj.stringIter q p) → w'.heap[k]? = some (Obj.stringIter q p)) → K (a.put o.dst v') w') : if Region.wanted o (yielded ops a.tmps) = true then Oper.wp Try.prog o a (wr.alloc (.cells #[.string c] 9)) K Q else E := by
  obtain ⟨i0, hi, hz0, hzs, hzb⟩ := info_parts info_strC
  refine step_append_lies _ hgd s x 46 ho B 9 i0 (.string ⟨#[]⟩) 1 16 Try.underlying46 hi hz0 hzs hzb rfl (by decide) v l.length (l.map Value.string) hs (World.ownsRow.alloc hrow _) ⟨wr.heap.size, 0, none⟩ 1 1 [.string c] hxe rfl (cell_one_new _ _ _) (oneSS _) (by decide) (by unfold maxLen; omega) (by omega) (by simp; omega) _ rfl ?_
  intro g cap w' hown hg _ _
  refine h _ w' ?_ (ext_grown (hx.alloc _) hg (fun j hj => Nat.le_trans hB (hrow.own_le j hj))) (fun k q p hk => ?_)
  · unfold RowS
    rw [List.length_append, List.map_append]
    exact hown
  · have hlt := (Array.getElem?_eq_some_iff.1 hk).1
    rw [hg.block k (by simp; omega) (row_not_iter hrow hk)]
    exact iter_ext hk ((Ext.refl _).alloc _)
/-- The text with two neighbours exchanged. -/
def swp (s : ByteArray) (i : Nat) : ByteArray := s.extract 0 i ++ s.extract (i + 1) (i + 1 + 1) ++ s.extract i (i + 1) ++ s.extract (i + 1 + 1) s.size
/-- All of them, of the first so many neighbours. -/
def sws (s : ByteArray) : Nat → List ByteArray
  | 0 => []
  | j + 1 => if sg s j = sg s (j + 1) then sws s j else sws s j ++ [swp s j]
theorem sws_len (s : ByteArray) : ∀ j, (sws s j).length ≤ j
  | 0 => Nat.le_refl _
  | j + 1 => by
    have := sws_len s j
    rw [sws]
    split
    · omega
    · rw [List.length_append, List.length_singleton]; omega
theorem sws_yes {s : ByteArray} {j : Nat} (h : sg s j = sg s (j + 1)) : sws s (j + 1) = sws s j := by rw [sws, if_pos h]
theorem sws_no {s : ByteArray} {j : Nat} (h : ¬ sg s j = sg s (j + 1)) : sws s (j + 1) = sws s j ++ [swp s j] := by rw [sws, if_neg h]
theorem swp_size {s : ByteArray} {i : Nat} (h : i + 1 < s.size) : (swp s i).size = s.size := by
  unfold swp
  simp only [ByteArray.size_append, ByteArray.size_extract]
  omega
theorem sws_size {s : ByteArray} : ∀ j, j < s.size → ∀ t ∈ sws s j, t.size = s.size
  | 0, _, t, h => by cases h
  | j + 1, hj, t, h => by
    rw [sws] at h
    split at h
    · exact sws_size j (by omega) t h
    · rcases List.mem_append.1 h with h | h
      · exact sws_size j (by omega) t h
      · rw [List.mem_singleton] at h
        rw [h, swp_size hj]
def swV (s : ByteArray) : List ByteArray := if isT 20 s then putAll (sws s (s.size - 1)) else []
theorem swV_no {s : ByteArray} (h : isT 20 s = false) : swV s = [] := by unfold swV; rw [h]; rfl
theorem swV_yes {s : ByteArray} (h : isT 20 s = true) : swV s = putAll (sws s (s.size - 1)) := by unfold swV; rw [h]; rfl
theorem swV_len (s : ByteArray) : (swV s).length ≤ 1048576 := by
  cases h : isT 20 s
  · rw [swV_no h]; simp
  · rw [swV_yes h]
    have := all_len (sws s (s.size - 1))
    have := sws_len s (s.size - 1)
    have := isT_size h
    omega
theorem swV_mem (s : ByteArray) : ∀ t ∈ swV s, t.size ≤ maxLen := by
  intro t ht
  cases h : isT 20 s
  · rw [swV_no h] at ht; cases ht
  · rw [swV_yes h] at ht
    have h20 := isT_size h
    have hm := (putAll_mem _ t).1 ht
    by_cases h0 : s.size = 0
    · rw [h0] at hm; cases hm
    · have := sws_size _ (by omega) t hm
      unfold maxLen
      omega