/- A layout is told alike by the program and by its model. No conditions but that the texts are not too long together. -/
import Derived.Test.YtfekamknnmhgpabStrs
import Derived.Lib.Strings
import Derived.IntWalk
namespace Go.Proofs.Ytfekamknnmhgpab
open Go.RowKit

/-! ### The plain test -/
def slot (c : UInt8) : Nat := c.toNat - 97
/-- The letters marked so far, with those of a text more, if each is a letter that is not marked. -/
def markT : List Bool → List UInt8 → Option (List Bool)
  | seen, [] => some seen
  | seen, c :: l => if isL c.toNat && !(seen.getD (slot c) false) then markT (seen.set (slot c) true) l else none
def markS : List Bool → List ByteArray → Option (List Bool)
  | seen, [] => some seen
  | seen, s :: l => if s.size = 0 then none else match markT seen s.data.toList with
    | some t => markS t l
    | none => none
theorem sumLen_app (m : List ByteArray) : ∀ l : List ByteArray, sumLen l ≤ sumLen (l ++ m)
  | [] => Nat.zero_le _
  | d :: l => by have := sumLen_app m l; simp only [List.cons_append, sumLen]; omega
theorem sumLen_take (ss : List ByteArray) (k : Nat) : sumLen (ss.take k) ≤ sumLen ss := by
  have := sumLen_app (ss.drop k) (ss.take k)
  rwa [List.take_append_drop] at this
def no26 : List Bool := List.replicate 26 false
def layB (ss : List ByteArray) : Bool := decide (1 ≤ ss.length) && decide (ss.length ≤ 8) && (markS no26 ss).isSome && decide (sumLen ss = 26)
theorem markT_snoc : ∀ (l : List UInt8) (seen : List Bool) (c : UInt8), markT seen (l ++ [c]) = match markT seen l with
    | some t => if isL c.toNat && !(t.getD (slot c) false) then some (t.set (slot c) true) else none
    | none => none
  | [], seen, c => by simp only [List.nil_append, markT]
  | d :: l, seen, c => by
    simp only [List.cons_append, markT]
    split
    · exact markT_snoc l _ c
    · rfl
theorem markT_none : ∀ (l m : List UInt8) (seen : List Bool), markT seen l = none → markT seen (l ++ m) = none
  | [], _, seen, h => by simp [markT] at h
  | d :: l, m, seen, h => by
    simp only [List.cons_append, markT] at h ⊢
    split
    · rename_i hc
      rw [if_pos hc] at h
      exact markT_none l m _ h
    · rfl
theorem markT_len : ∀ (l : List UInt8) (seen t : List Bool), markT seen l = some t → t.length = seen.length
  | [], seen, t, h => by simp [markT] at h; rw [h]
  | d :: l, seen, t, h => by
    simp only [markT] at h
    split at h
    · have := markT_len l _ t h
      rw [this, List.length_set]
    · cases h
theorem markS_snoc : ∀ (ss : List ByteArray) (seen : List Bool) (s : ByteArray), markS seen (ss ++ [s]) = match markS seen ss with
    | some t => if s.size = 0 then none else markT t s.data.toList
    | none => none
  | [], seen, s => by
    simp only [List.nil_append, markS]
    split
    · rfl
    · cases markT seen s.data.toList <;> rfl
  | d :: l, seen, s => by
    simp only [List.cons_append, markS]
    split
    · rfl
    · cases markT seen d.data.toList with
      | none => rfl
      | some t => exact markS_snoc l t s
theorem markS_none : ∀ (l m : List ByteArray) (seen : List Bool), markS seen l = none → markS seen (l ++ m) = none
  | [], _, seen, h => by simp [markS] at h
  | d :: l, m, seen, h => by
    simp only [List.cons_append, markS] at h ⊢
    split
    · rfl
    · rename_i hc
      rw [if_neg hc] at h
      cases he : markT seen d.data.toList with
      | none => rfl
      | some t => rw [he] at h; exact markS_none l m t h
theorem markS_len : ∀ (l : List ByteArray) (seen t : List Bool), markS seen l = some t → t.length = seen.length
  | [], seen, t, h => by simp [markS] at h; rw [h]
  | d :: l, seen, t, h => by
    simp only [markS] at h
    split at h
    · cases h
    · cases he : markT seen d.data.toList with
      | none => rw [he] at h; cases h
      | some t2 =>
        rw [he] at h
        rw [markS_len l t2 t h, markT_len _ _ _ he]
theorem layB_none {ss : List ByteArray} {k : Nat} (h : markS no26 (ss.take k) = none) : layB ss = false := by
  have := markS_none (ss.take k) (ss.drop k) no26 h
  rw [List.take_append_drop] at this
  unfold layB
  rw [this]
  simp
theorem layB_count {ss : List ByteArray} (h : ¬ sumLen ss = 26) : layB ss = false := by unfold layB; simp [h]
theorem layB_few {ss : List ByteArray} (h : ss.length < 1 ∨ 8 < ss.length) : layB ss = false := by unfold layB; simp; intros; omega
theorem layB_yes {ss : List ByteArray} {t : List Bool} (h1 : 1 ≤ ss.length) (h2 : ss.length ≤ 8) (h3 : markS no26 ss = some t) (h4 : sumLen ss = 26) : layB ss = true := by unfold layB; rw [h3]; simp [h1, h2, h4]

/-! ### The marks in memory -/
def Seen (w : World) (b : Nat) (seen : List Bool) : Prop := seen.length = 26 ∧ b < w.heap.size ∧ (∀ i, i < 26 → w.cell? ⟨b, i, none⟩ = some (.bool (seen.getD i false))) ∧ ∀ i, i < 26 → w.frozen? ⟨b, i, none⟩ = false
theorem Seen.set {w : World} {b : Nat} {seen : List Bool} (h : Seen w b seen) {i : Nat} (hi : i < 26) : Seen (w.setCell ⟨b, i, none⟩ (.bool true)) b (seen.set i true) := by
  obtain ⟨h1, h2, h3, h4⟩ := h
  refine ⟨by rw [List.length_set]; exact h1, by simpa using h2, fun j hj => ?_, fun j hj => ?_⟩
  · by_cases e : j = i
    · subst e
      rw [World.cell?_setCell_same (h := h3 j hj)]
      rw [List.getD_eq_getElem?_getD, List.getElem?_set_self (by omega)]
      rfl
    · rw [World.cell?_setCell_other (h := by intro h; injection h with _ h; exact e h.symm), h3 j hj]
      congr 2
      rw [List.getD_eq_getElem?_getD, List.getD_eq_getElem?_getD, List.getElem?_set_ne (by omega)]
  · rw [World.frozen?_setCell]; exact h4 j hj
theorem slot_lt {c : UInt8} (h : isL c.toNat = true) : slot c < 26 ∧ 97 ≤ (c.toNat : Int) ∧ (c.toNat : Int) ≤ 122 := by
  unfold isL at h; simp at h
  unfold slot
  omega

theorem Seen.ext {w w' : World} {b : Nat} {seen : List Bool} (h : Seen w b seen) (hx : Ext w w') : Seen w' b seen :=
  ⟨h.1, Nat.lt_of_lt_of_le h.2.1 hx.size, fun i hi => (hx.cell (p := ⟨b, i, none⟩) h.2.1).trans (h.2.2.1 i hi), fun i hi => (hx.frozen (p := ⟨b, i, none⟩) h.2.1).trans (h.2.2.2 i hi)⟩
theorem no26_at (i : Nat) (h : i < 26) : (no26.map Value.bool).toArray[i]? = some (.bool (no26.getD i false)) := by
  have hl : i < no26.length := h
  rw [List.getElem?_toArray, List.getElem?_map, List.getD_eq_getElem?_getD, List.getElem?_eq_getElem hl]
  rfl
theorem seen_new (w : World) (t : TypeId) : Seen (w.alloc (.cells (no26.map Value.bool).toArray t)) w.heap.size no26 :=
  ⟨rfl, by simp, fun i hi => by rw [World.cell?_alloc_new]; exact no26_at i hi, fun i _ => by simp [go_sem]⟩

set_option maxRecDepth 100000 in
set_option maxHeartbeats 2000000 in
theorem impLayout_any (v : Value) (ss : List ByteArray) (w : World) (h : Strs w v ss) (hb : sumLen ss ≤ 1048576) : Calls Try.prog 10 #[v] w fun e w' => e = .returned (.bool (layB ss)) ∧ Ext w w' := by
  have HS := Lib.hid h
  have hl := h.1
  unfold maxLen at hl
  obtain ⟨a, cap, hv, _⟩ := h.at
  rw [hv] at HS ⊢
  clear hv h v
  by_cases n1 : ss.length < 1
  · have H := Lib.hid (layB_few (.inl n1))
    go_enter Try.func10, Try.ntmps10
    go_wp2
    go_ret
    exact ⟨ret_bool H.out.symm, Ext.refl _⟩
  by_cases n2 : 8 < ss.length
  · have H := Lib.hid (layB_few (.inr n2))
    go_enter Try.func10, Try.ntmps10
    go_wp2
    go_ret
    exact ⟨ret_bool H.out.symm, Ext.refl _⟩
  go_enter Try.func10, Try.ntmps10
  go_wp2
  go_loopw [4, 18] (fun l i wr => ∃ k : Nat, k ≤ ss.length ∧ i = .int .i64 k ∧ ∃ t, markS no26 (ss.take k) = some t ∧ l = .int .i64 (sumLen (ss.take k)) ∧ sumLen (ss.take k) ≤ 1048576 ∧ Seen wr w.heap.size t ∧ Ext w wr) (fun _ i _ => ss.length - (intOf i).toNat)
  case atStart => exact ⟨0, Nat.zero_le _, rfl, no26, rfl, rfl, Nat.zero_le _, seen_new w _, (Ext.refl _).alloc _⟩
  case round =>
    obtain ⟨k, hk, rfl, t, ht, rfl, hsl, hseen, hx⟩ := hrel
    have HT := Lib.hid ht
    have HSE := Lib.hid hseen
    clear ht hseen
    by_cases hlt : k < ss.length
    · rcases (HS.out.ext hx).2.2 with ⟨h2, _⟩ | ⟨b, off, cap', h1, hbb, hc⟩
      · rw [h2] at hlt; exact absurd hlt (by simp)
      have ha : a = some ⟨b, off, none⟩ := by injection h1
      have hcell := hc k hlt
      have hsz : ss[k].size ≤ 1048576 := by
        have := sumLen_take ss (k + 1)
        rw [takeS ss k hlt, sumLen_snoc] at this
        omega
      have HSL := Lib.hid (show sumLen (ss.take (k + 1)) = sumLen (ss.take k) + ss[k].size by rw [takeS ss k hlt, sumLen_snoc])
      have HMS := Lib.hid (show markS no26 (ss.take (k + 1)) = if ss[k].size = 0 then none else markT t ss[k].data.toList by rw [takeS ss k hlt, markS_snoc, HT.out])
      rw [ha]
      clear hc h1 ha
      obtain ⟨s, hs⟩ : ∃ s, s = ss[k] := ⟨_, rfl⟩
      rw [← hs] at hcell hsz HSL HMS
      have HSS := Lib.hid hs
      clear hs
      by_cases hz : s.size = 0
      · have he : s.toList.isEmpty = true := by
          rw [Lib.toList_data, List.isEmpty_iff_length_eq_zero]
          simpa using hz
        have HN := Lib.hid (layB_none (ss := ss) (k := k + 1) (by rw [HMS.out, if_pos hz]))
        clear hz
        go_wp2
        go_ret
        exact ⟨ret_bool HN.out.symm, hx⟩
      have he : s.toList.isEmpty = false := by
        have h3 : ¬ s.toList.length = 0 := by rw [Lib.toList_data]; simpa using hz
        cases h4 : s.toList.isEmpty
        · rfl
        · rw [List.isEmpty_iff_length_eq_zero] at h4; exact absurd h4 h3
      have HM2 := Lib.hid (show markS no26 (ss.take (k + 1)) = markT t s.data.toList by rw [HMS.out, if_neg hz])
      clear HMS hz
      go_wp2
      go_loopw [4, 26] (fun l i wz => ∃ j : Nat, j ≤ s.size ∧ i = .int .i64 j ∧ ∃ u, markT t (s.data.toList.take j) = some u ∧ l = .int .i64 ((sumLen (ss.take k) : Int) + j) ∧ Seen wz w.heap.size u ∧ Ext w wz) (fun _ i _ => s.size - (intOf i).toNat)
      case atStart => exact ⟨0, Nat.zero_le _, rfl, t, rfl, by simp, HSE.out, hx⟩
      case round =>
        obtain ⟨j, hj, rfl, u, hu, rfl, hseen, hxz⟩ := hrel
        have HUU := Lib.hid hu
        have HSZ := Lib.hid hseen
        clear hu hseen
        by_cases hjl : j < s.size
        · have HJ := Lib.hid (show markT t (s.data.toList.take (j + 1)) = if isL s[j].toNat && !(u.getD (slot s[j]) false) then some (u.set (slot s[j]) true) else none by
            have e : s.data.toList.take (j + 1) = s.data.toList.take j ++ [s[j]] := by
              rw [List.take_succ_eq_append_getElem (by simpa using hjl)]; rfl
            rw [e, markT_snoc, HUU.out])
          have HR := Lib.hid (fun (hn : markT t (s.data.toList.take (j + 1)) = none) => (layB_none (ss := ss) (k := k + 1) (by
            rw [HM2.out, ← List.take_append_drop (j + 1) s.data.toList]
            exact markT_none _ _ _ hn)))
          cases hL : isL s[j].toNat
          · have HN := Lib.hid (HR.out (by rw [HJ.out, hL]; rfl))
            go_wp2_with (go_at_call 24; refine (isL_any _ _).mono ?_; rintro e w' ⟨rfl, rfl⟩)
            go_ret
            exact ⟨ret_bool HN.out.symm, hxz⟩
          · obtain ⟨hs1, hs2, hs3⟩ := slot_lt hL
            have hw1 : IntKind.u8.wrap ((s[j].toNat : Int) - 97) = (s[j].toNat : Int) - 97 := IntWalk.u8_in _ (by omega)
            have hc1 := HSZ.out.2.2.1 _ hs1
            have hf1 := HSZ.out.2.2.2 _ hs1
            unfold slot at hc1 hf1
            have hlt26 : (s[j].toNat : Int) - 97 < 26 := by omega
            cases hm : u.getD (s[j].toNat - 97) false
            · rw [hm] at hc1
              have HJ2 := Lib.hid (show markT t (s.data.toList.take (j + 1)) = some (u.set (slot s[j]) true) by rw [HJ.out, hL, show u.getD (slot s[j]) false = false from hm]; rfl)
              have HSET := Lib.hid (HSZ.out.set hs1)
              go_wp2_with (go_at_call 24; refine (isL_any _ _).mono ?_; rintro e w' ⟨rfl, rfl⟩)
              go_roundw
              case rel => exact ⟨j + 1, by omega, by go_num, _, HJ2.out, by go_num, HSET.out, hxz.setCell (Nat.le_refl _) _⟩
              case measure => simp [intOf]; omega
            · rw [hm] at hc1
              have HN := Lib.hid (HR.out (by rw [HJ.out, hL, show u.getD (slot s[j]) false = true from hm]; rfl))
              go_wp2_with (go_at_call 24; refine (isL_any _ _).mono ?_; rintro e w' ⟨rfl, rfl⟩)
              go_ret
              exact ⟨ret_bool HN.out.symm, hxz⟩
        · obtain rfl : j = s.size := by omega
          have hall : s.data.toList.take s.size = s.data.toList := List.take_of_length_le (by simp)
          rw [hall] at HUU
          clear hall
          go_wp2
          go_roundw
          case rel => exact ⟨k + 1, by omega, by go_num, u, HM2.out.trans HUU.out, by rw [HSL.out]; go_num, Nat.le_trans (sumLen_take ss (k + 1)) hb, HSZ.out, hxz⟩
          case measure => simp [intOf]; omega
    · obtain rfl : k = ss.length := by omega
      rw [List.take_length] at HT hsl ⊢
      by_cases h26 : sumLen ss = 26
      · have H := Lib.hid (layB_yes (by omega) (by omega) HT.out h26)
        rw [h26]
        clear h26
        go_wp2
        go_ret
        exact ⟨ret_bool H.out.symm, hx⟩
      · have H := Lib.hid (layB_count h26)
        have hq : ((sumLen ss : Int) == 26) = false := by rw [beq_eq_false_iff_ne]; omega
        clear h26
        go_wp2
        go_ret
        exact ⟨ret_bool H.out.symm, hx⟩

set_option maxRecDepth 100000 in
set_option maxHeartbeats 2000000 in
theorem prLayout_any (v : Value) (ss : List ByteArray) (w : World) (h : Strs w v ss) (hb : sumLen ss ≤ 1048576) : Calls Try.prog 23 #[v] w fun e w' => e = .returned (.bool (layB ss)) ∧ Ext w w' := by
  have HS := Lib.hid h
  have hl := h.1
  unfold maxLen at hl
  obtain ⟨a, cap, hv, _⟩ := h.at
  rw [hv] at HS ⊢
  clear hv h v
  cases hin : inB ss.length 1 8
  · have H := Lib.hid (layB_few (ss := ss) (by unfold inB at hin; simp at hin; omega))
    go_enter Try.func23, Try.ntmps23
    go_wp2_with (go_at_call 32; refine (in_any _ _ _ _).mono ?_; rintro e w' ⟨rfl, rfl⟩)
    go_ret
    exact ⟨ret_bool H.out.symm, Ext.refl _⟩
  have n1 : 1 ≤ ss.length ∧ ss.length ≤ 8 := by unfold inB at hin; simp at hin; omega
  obtain ⟨n1, n2⟩ := n1
  have hmk : ∀ w, (Instr.makeSlice 57 (.int .i64 26) (.int .i64 26)).run Try.prog w = .ok (.slice (some ⟨w.heap.size, 0, none⟩) 26 26) (w.alloc (.cells (no26.map Value.bool).toArray 4)) := fun _ => by kernel_rfl
  go_enter Try.func23, Try.ntmps23
  go_wp2_with (go_at_call 32; refine (in_any _ _ _ _).mono ?_; rintro e w' ⟨rfl, rfl⟩)
  clear hin hmk
  go_loopw [4, 15] (fun l i wr => ∃ k : Nat, k ≤ ss.length ∧ i = .int .i64 k ∧ ∃ t, markS no26 (ss.take k) = some t ∧ l = .int .i64 (sumLen (ss.take k)) ∧ sumLen (ss.take k) ≤ 1048576 ∧ Seen wr w.heap.size t ∧ Ext w wr) (fun _ i _ => ss.length - (intOf i).toNat)
  case atStart => exact ⟨0, Nat.zero_le _, rfl, no26, rfl, rfl, Nat.zero_le _, seen_new w _, (Ext.refl _).alloc _⟩
  case round =>
    obtain ⟨k, hk, rfl, t, ht, rfl, hsl, hseen, hx⟩ := hrel
    have HT := Lib.hid ht
    have HSE := Lib.hid hseen
    clear ht hseen
    by_cases hlt : k < ss.length
    · rcases (HS.out.ext hx).2.2 with ⟨h2, _⟩ | ⟨b, off, cap', h1, hbb, hc⟩
      · rw [h2] at hlt; exact absurd hlt (by simp)
      have ha : a = some ⟨b, off, none⟩ := by injection h1
      have hcell := hc k hlt
      have hsz : ss[k].size ≤ 1048576 := by
        have := sumLen_take ss (k + 1)
        rw [takeS ss k hlt, sumLen_snoc] at this
        omega
      have HSL := Lib.hid (show sumLen (ss.take (k + 1)) = sumLen (ss.take k) + ss[k].size by rw [takeS ss k hlt, sumLen_snoc])
      have HMS := Lib.hid (show markS no26 (ss.take (k + 1)) = if ss[k].size = 0 then none else markT t ss[k].data.toList by rw [takeS ss k hlt, markS_snoc, HT.out])
      rw [ha]
      clear hc h1 ha
      obtain ⟨s, hs⟩ : ∃ s, s = ss[k] := ⟨_, rfl⟩
      rw [← hs] at hcell hsz HSL HMS
      have HSS := Lib.hid hs
      clear hs
      by_cases hz : s.size = 0
      · have he : s.toList.isEmpty = true := by
          rw [Lib.toList_data, List.isEmpty_iff_length_eq_zero]
          simpa using hz
        have HN := Lib.hid (layB_none (ss := ss) (k := k + 1) (by rw [HMS.out, if_pos hz]))
        clear hz
        go_wp2
        go_ret
        exact ⟨ret_bool HN.out.symm, hx⟩
      have he : s.toList.isEmpty = false := by
        have h3 : ¬ s.toList.length = 0 := by rw [Lib.toList_data]; simpa using hz
        cases h4 : s.toList.isEmpty
        · rfl
        · rw [List.isEmpty_iff_length_eq_zero] at h4; exact absurd h4 h3
      have HM2 := Lib.hid (show markS no26 (ss.take (k + 1)) = markT t s.data.toList by rw [HMS.out, if_neg hz])
      clear HMS hz
      go_wp2
      go_loopw [4, 7] (fun l i wz => ∃ j : Nat, j ≤ s.size ∧ i = .int .i64 j ∧ ∃ u, markT t (s.data.toList.take j) = some u ∧ l = .int .i64 ((sumLen (ss.take k) : Int) + j) ∧ Seen wz w.heap.size u ∧ Ext w wz) (fun _ i _ => s.size - (intOf i).toNat)
      case atStart => exact ⟨0, Nat.zero_le _, rfl, t, rfl, by simp, HSE.out, hx⟩
      case round =>
        obtain ⟨j, hj, rfl, u, hu, rfl, hseen, hxz⟩ := hrel
        have HUU := Lib.hid hu
        have HSZ := Lib.hid hseen
        clear hu hseen
        by_cases hjl : j < s.size
        · have HJ := Lib.hid (show markT t (s.data.toList.take (j + 1)) = if isL s[j].toNat && !(u.getD (slot s[j]) false) then some (u.set (slot s[j]) true) else none by
            have e : s.data.toList.take (j + 1) = s.data.toList.take j ++ [s[j]] := by
              rw [List.take_succ_eq_append_getElem (by simpa using hjl)]; rfl
            rw [e, markT_snoc, HUU.out])
          have HR := Lib.hid (fun (hn : markT t (s.data.toList.take (j + 1)) = none) => (layB_none (ss := ss) (k := k + 1) (by
            rw [HM2.out, ← List.take_append_drop (j + 1) s.data.toList]
            exact markT_none _ _ _ hn)))
          cases hL : isL s[j].toNat
          · have HN := Lib.hid (HR.out (by rw [HJ.out, hL]; rfl))
            by_cases hA : (s[j].toNat : Int) < 97
            · go_wp2
              go_ret
              exact ⟨ret_bool HN.out.symm, hxz⟩
            · have hB : 122 < (s[j].toNat : Int) := by unfold isL at hL; simp at hL; omega
              go_wp2
              go_ret
              exact ⟨ret_bool HN.out.symm, hxz⟩
          · obtain ⟨hs1, hs2, hs3⟩ := slot_lt hL
            have hw1 : IntKind.u8.wrap ((s[j].toNat : Int) - 97) = (s[j].toNat : Int) - 97 := IntWalk.u8_in _ (by omega)
            have hc1 := HSZ.out.2.2.1 _ hs1
            have hf1 := HSZ.out.2.2.2 _ hs1
            unfold slot at hc1 hf1
            have hlt26 : (s[j].toNat : Int) - 97 < 26 := by omega
            cases hm : u.getD (s[j].toNat - 97) false
            · rw [hm] at hc1
              have HJ2 := Lib.hid (show markT t (s.data.toList.take (j + 1)) = some (u.set (slot s[j]) true) by rw [HJ.out, hL, show u.getD (slot s[j]) false = false from hm]; rfl)
              have HSET := Lib.hid (HSZ.out.set hs1)
              go_wp2
              go_roundw
              case rel => exact ⟨j + 1, by omega, by go_num, _, HJ2.out, by go_num, HSET.out, hxz.setCell (Nat.le_refl _) _⟩
              case measure => simp [intOf]; omega
            · rw [hm] at hc1
              have HN := Lib.hid (HR.out (by rw [HJ.out, hL, show u.getD (slot s[j]) false = true from hm]; rfl))
              go_wp2
              go_ret
              exact ⟨ret_bool HN.out.symm, hxz⟩
        · obtain rfl : j = s.size := by omega
          have hall : s.data.toList.take s.size = s.data.toList := List.take_of_length_le (by simp)
          rw [hall] at HUU
          clear hall
          go_wp2
          go_roundw
          case rel => exact ⟨k + 1, by omega, by go_num, u, HM2.out.trans HUU.out, by rw [HSL.out]; go_num, Nat.le_trans (sumLen_take ss (k + 1)) hb, HSZ.out, hxz⟩
          case measure => simp [intOf]; omega
    · obtain rfl : k = ss.length := by omega
      rw [List.take_length] at HT hsl ⊢
      by_cases h26 : sumLen ss = 26
      · have H := Lib.hid (layB_yes (by omega) (by omega) HT.out h26)
        rw [h26]
        clear h26
        go_wp2
        go_ret
        exact ⟨ret_bool H.out.symm, hx⟩
      · have H := Lib.hid (layB_count h26)
        have hq : ((sumLen ss : Int) == 26) = false := by rw [beq_eq_false_iff_ne]; omega
        clear h26
        go_wp2
        go_ret
        exact ⟨ret_bool H.out.symm, hx⟩

end Go.Proofs.Ytfekamknnmhgpab
