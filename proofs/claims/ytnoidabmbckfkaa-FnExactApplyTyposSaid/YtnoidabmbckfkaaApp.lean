/- The text behind signs of typos: the program's way and its model's. No conditions. -/
import Derived.Test.YtnoidabmbckfkaaCol
import Derived.Lib.Strings
namespace Go.Proofs.Ytnoidabmbckfkaa
open Go.RowKit

/-- What is left, and what is written, behind one more sign: places in both texts, and the text so far. -/
def apS (a l : ByteArray) (c : Nat) (q : Nat × Nat × List UInt8) : Option (Nat × Nat × List UInt8) :=
  if c = 107 then (if q.1 < a.size then some (q.1 + 1, q.2.1, q.2.2 ++ [sg a q.1]) else none)
  else if c = 108 then (if q.1 < a.size then some (q.1 + 1, q.2.1, q.2.2) else none)
  else if c = 109 then (if q.2.1 < l.size then some (q.1, q.2.1 + 1, q.2.2 ++ [sg l q.2.1]) else none)
  else if c = 114 then (if q.1 < a.size ∧ q.2.1 < l.size then some (q.1 + 1, q.2.1 + 1, q.2.2 ++ [sg l q.2.1]) else none)
  else none
def apF (a l t : ByteArray) : Nat → Option (Nat × Nat × List UInt8)
  | 0 => some (0, 0, [])
  | n + 1 => (apF a l t n).bind (apS a l (sg t n).toNat)
theorem apS_bd {a l : ByteArray} {c i k : Nat} {o : List UInt8} {q : Nat × Nat × List UInt8} (h : apS a l c (i, k, o) = some q) (hi : i ≤ a.size) (hk : k ≤ l.size) (ho : o.length ≤ i + k) : i + k + 1 ≤ q.1 + q.2.1 ∧ q.1 ≤ a.size ∧ q.2.1 ≤ l.size ∧ q.2.2.length ≤ q.1 + q.2.1 := by
  unfold apS at h
  simp only at h
  split at h
  · split at h
    · injection h with h; subst h; simp only [List.length_append, List.length_singleton]; omega
    · cases h
  split at h
  · split at h
    · injection h with h; subst h; simp only; omega
    · cases h
  split at h
  · split at h
    · injection h with h; subst h; simp only [List.length_append, List.length_singleton]; omega
    · cases h
  split at h
  · split at h
    · injection h with h; subst h; simp only [List.length_append, List.length_singleton]; omega
    · cases h
  · cases h
theorem apF_bd {a l t : ByteArray} : ∀ (n : Nat) (q : Nat × Nat × List UInt8), apF a l t n = some q → n ≤ q.1 + q.2.1 ∧ q.1 ≤ a.size ∧ q.2.1 ≤ l.size ∧ q.2.2.length ≤ q.1 + q.2.1
  | 0, q, h => by
    rw [apF] at h
    injection h with h
    subst h
    simp
  | n + 1, q, h => by
    rw [apF] at h
    obtain ⟨⟨i, k, o⟩, h1, h2⟩ := Option.bind_eq_some_iff.1 h
    have ih := apF_bd n _ h1
    have := apS_bd h2 ih.2.1 ih.2.2.1 ih.2.2.2
    simp only at ih
    omega
theorem apF_none {a l t : ByteArray} {n : Nat} (h : apF a l t n = none) : ∀ m, n ≤ m → apF a l t m = none
  | 0, hm => by rw [show n = 0 by omega] at h; exact h
  | m + 1, hm => by
    rcases Nat.lt_or_ge m n with h1 | h1
    · rw [show m + 1 = n by omega]; exact h
    · rw [apF, apF_none h m h1]; rfl
def apE (a l : ByteArray) (q : Option (Nat × Nat × List UInt8)) : Bool := match q with
  | none => false
  | some (i, k, o) => decide (i = a.size) && decide (k = l.size) && isT 20 (tB o)
def apOk (a t l : ByteArray) : Bool := (isT 20 a && isT 20 l) && apE a l (apF a l t t.size)
def apT (q : Option (Nat × Nat × List UInt8)) : ByteArray := match q with
  | none => ⟨#[]⟩
  | some (_, _, o) => tB o
def apV (a t l : ByteArray) : ByteArray := if apOk a t l then apT (apF a l t t.size) else ⟨#[]⟩
theorem apV_no {a t l : ByteArray} (h : apOk a t l = false) : apV a t l = ⟨#[]⟩ := by unfold apV; rw [h]; rfl
theorem apOk_bad {a t l : ByteArray} (h : (isT 20 a && isT 20 l) = false) : apOk a t l = false := by unfold apOk; rw [h]; rfl
theorem apOk_long {a t l : ByteArray} (h : 40 < t.size) : apOk a t l = false := by
  unfold apOk
  cases h1 : isT 20 a
  · rfl
  cases h2 : isT 20 l
  · rfl
  cases hq : apF a l t t.size with
  | none => rfl
  | some q =>
    have := apF_bd _ _ hq
    have := isT_size h1
    have := isT_size h2
    omega
theorem apOk_none {a t l : ByteArray} {n : Nat} (h : apF a l t n = none) (hn : n ≤ t.size) : apOk a t l = false := by
  unfold apOk
  rw [apF_none h _ hn]
  exact Bool.and_false _
theorem apOk_end {a t l : ByteArray} {i k : Nat} {o : List UInt8} (h1 : (isT 20 a && isT 20 l) = true) (h : apF a l t t.size = some (i, k, o)) : apOk a t l = (decide (i = a.size) && decide (k = l.size) && isT 20 (tB o)) := by
  unfold apOk
  rw [h1, h]; rfl
theorem apV_end {a t l : ByteArray} {i k : Nat} {o : List UInt8} (h1 : apOk a t l = true) (h : apF a l t t.size = some (i, k, o)) : apV a t l = tB o := by
  unfold apV
  rw [if_pos h1, h]; rfl
theorem apF_step {a l t : ByteArray} {n : Nat} {q : Nat × Nat × List UInt8} (h : apF a l t n = some q) : apF a l t (n + 1) = apS a l (sg t n).toNat q := by rw [apF, h]; rfl
theorem apS_other {a l : ByteArray} {c : Nat} {q : Nat × Nat × List UInt8} (h1 : c ≠ 107) (h2 : c ≠ 108) (h3 : c ≠ 109) (h4 : c ≠ 114) : apS a l c q = none := by
  unfold apS; rw [if_neg h1, if_neg h2, if_neg h3, if_neg h4]
theorem emptyB_no {s : ByteArray} (h : 0 < s.size) : s.toList.isEmpty = false := by
  cases he : s.toList.isEmpty
  · rfl
  · exfalso
    rw [Lib.toList_data] at he
    have h2 : s.data.toList = [] := List.isEmpty_iff.1 he
    have : s.data.toList.length = s.size := by simp
    rw [h2] at this
    simp at this
    omega
theorem emptyB_yes {s : ByteArray} (h : s.size = 0) : s.toList.isEmpty = true := by
  rw [Lib.toList_data]
  have : s.data.toList.length = s.size := by simp
  exact List.isEmpty_iff.2 (List.length_eq_zero_iff.1 (by omega))
/-- What is left of a text. -/
def sx (s : ByteArray) (i : Nat) : ByteArray := s.extract i s.size
theorem sx_size (s : ByteArray) (i : Nat) : (sx s i).size = s.size - i := by unfold sx; rw [ByteArray.size_extract]; omega
theorem sx_zero (s : ByteArray) : sx s 0 = s := by unfold sx; exact ByteArray.extract_zero_size
theorem sx_list (s : ByteArray) (i : Nat) : (sx s i).data.toList = s.data.toList.drop i := by
  unfold sx
  rw [ByteArray.data_extract, Array.toList_extract, List.extract_eq_take_drop, List.take_of_length_le (by simp)]
theorem sx_sg (s : ByteArray) (i j : Nat) : sg (sx s i) j = sg s (i + j) := by
  unfold sg
  rw [sx_list, List.getD_eq_getElem?_getD, List.getD_eq_getElem?_getD, List.getElem?_drop]
theorem sx_next (s : ByteArray) (i : Nat) : (sx s i).extract 1 (sx s i).size = sx s (i + 1) := by
  apply ByteArray.ext
  apply Array.toList_inj.1
  rw [sx_list, ByteArray.data_extract, Array.toList_extract, sx_list, List.extract_eq_take_drop, List.take_of_length_le (by simp [sx_size]; omega), List.drop_drop]

set_option maxHeartbeats 4000000 in
theorem appI_any (a t l : ByteArray) (w : World) (ha : a.size ≤ maxLen) (_ht : t.size ≤ maxLen) (hl : l.size ≤ maxLen) : Calls Try.prog 16 #[.string a, .string t, .string l] w fun e w' => e = .returned (.tuple #[.string (apV a t l), .bool (apOk a t l)]) ∧ Ext w w' := by
  cases h : (isT 20 a && isT 20 l)
  · have HO := Lib.hid (apOk_bad (t := t) h)
    have HV := Lib.hid (apV_no HO.out)
    go_enter Try.func16, Try.ntmps16
    go_wp2_with (go_at_call 44; refine (areTyped_any _ _ _ ha hl).mono ?_; rintro e w1 ⟨rfl, x1⟩; rw [h])
    go_ret2
    exact ⟨ret_sB HV.out.symm HO.out.symm, x1⟩
  have H1 := Lib.hid h
  have h20a : a.size ≤ 20 := isT_size (by simp only [Bool.and_eq_true] at h; exact h.1)
  have h20l : l.size ≤ 20 := isT_size (by simp only [Bool.and_eq_true] at h; exact h.2)
  go_enter Try.func16, Try.ntmps16
  go_wp2_with (go_at_call 44; refine (areTyped_any _ _ _ ha hl).mono ?_; rintro e w1 ⟨rfl, x1⟩; rw [h])
  clear h
  have hit0 : (w1.iter t 0).heap[w1.heap.size]? = some (.stringIter t 0) := World.iter_heap _ _ _
  have hx0 : Ext w (w1.iter t 0) := x1.alloc _
  obtain ⟨K2, hK2⟩ : ∃ K2, K2 = w1.heap.size := ⟨_, rfl⟩
  have hKw : w.heap.size ≤ K2 := by have := x1.size; omega
  have hKlt : K2 < (w1.iter t 0).heap.size := by rw [hK2]; exact (Array.getElem?_eq_some_iff.1 hit0).1
  rw [← hK2] at hit0 ⊢
  clear hK2
  go_loopw [0, 2, 8] (fun va vl vo wr => ∃ (p i k : Nat) (o : List UInt8), p ≤ t.size ∧ apF a l t p = some (i, k, o) ∧ va = .string (sx a i) ∧ vl = .string (sx l k) ∧ RowB w.heap.size wr vo o ∧ wr.heap[K2]? = some (.stringIter t p) ∧ Ext w wr) (fun _ _ _ wr => t.size - wr.iterPos K2)
  case atStart => exact ⟨0, 0, 0, [], Nat.zero_le _, rfl, by rw [sx_zero], by rw [sx_zero], RowB.nil _ _, hit0, hx0⟩
  case round =>
    obtain ⟨p, i, k, o, hp, hq, rfl, rfl, hr, hit, hx⟩ := hrel
    have HR := Lib.hid hr
    have HQ := Lib.hid hq
    obtain ⟨hb1, hb2, hb3, hb4⟩ := apF_bd _ _ hq
    simp only at hb1 hb2 hb3 hb4
    clear hr hq
    have HAs := Lib.hid (sx_size a i)
    have HLs := Lib.hid (sx_size l k)
    have HSA := Lib.hid (sx_next a i)
    have HSL := Lib.hid (sx_next l k)
    have HGA := Lib.hid (sx_sg a i 0)
    have HGL := Lib.hid (sx_sg l k 0)
    obtain ⟨A, hA⟩ : ∃ A, A = sx a i := ⟨_, rfl⟩
    obtain ⟨L, hL⟩ : ∃ L, L = sx l k := ⟨_, rfl⟩
    have HAA := Lib.hid hA
    have HLL := Lib.hid hL
    rw [← hA] at HAs HSA HGA ⊢
    rw [← hL] at HLs HSL HGL ⊢
    clear hA hL
    by_cases hlt : p < t.size
    · have HST := Lib.hid (apF_step (n := p) HQ.out)
      by_cases hasc : (t[p]'hlt).toNat < 128
      · have hnx := fun ty => Lib.run_next_ascii_at (P := Try.prog) wr K2 t p ty hit hlt hasc
        have hit2 := Lib.iterAt_heap wr K2 t p (p + 1) hit
        have hx1 := ext_iter hx hKw t (p + 1)
        have HR1 := Lib.hid (HR.out.iterAt hit (p + 1))
        have ec : (t[p]'hlt).toNat = (sg t p).toNat := by rw [sg_at t p hlt]
        rw [ec] at hnx hasc
        obtain ⟨c, hc⟩ : ∃ c, c = (sg t p).toNat := ⟨_, rfl⟩
        rw [← hc] at hnx hasc HST
        clear hc ec
        obtain ⟨wy, hwy⟩ : ∃ wy, wy = wr.iterAt K2 t (p + 1) := ⟨_, rfl⟩
        rw [← hwy] at hnx hit2 hx1 HR1
        have HPW := Lib.hid (show wr.iterPos K2 = p by simp only [World.iterPos, hit])
        clear hwy
        by_cases c1 : c = 107
        · subst c1
          by_cases hA : i < a.size
          · have tA := emptyB_no (s := A) (by have := HAs.out; omega)
            have tA0 : 0 < A.size := by have := HAs.out; omega
            have ia : ∀ w, (Instr.index 9 (.string A) (.int .i64 0)).run Try.prog w = .ok (.int .u8 ((sg A 0).toNat : Int)) w := fun w => ixB A 0 tA0 w
            have tA1 : 1 ≤ A.size := by omega
            have e1A : A.extract 1 A.size = sx a (i + 1) := HSA.out
            go_wp2_with (at_builtin; refine app_byteI rfl _ _ rfl w w.heap.size _ _ _ (sg A 0) _ rfl (by exact HR1.out) (by exact hx1) (Nat.le_refl _) hx1.size (by omega) rfl rfl ?_; intro v5 w5 r5 x5 it5; have R5 := Lib.hid r5; clear r5; have hit5 := it5 _ _ _ hit2)
            refine ⟨⟨p + 1, i + 1, k, _, by omega, HST.out.trans (by unfold apS; rw [if_pos rfl, if_pos hA]; rw [show sg A 0 = sg a i from HGA.out]), by first | rfl | rw [e1A], by rw [HLL.out], R5.out, hit5, x5⟩, ?_⟩
            rw [HPW.out]
            simp only [World.iterPos, hit5]
            omega
          · have tA := emptyB_yes (s := A) (by have := HAs.out; omega)
            have HO := Lib.hid (apOk_none (n := p + 1) (by rw [HST.out]; unfold apS; rw [if_pos rfl, if_neg hA]) hlt)
            have HV := Lib.hid (apV_no HO.out)
            go_wp2
            go_ret2
            exact ⟨ret_sB HV.out.symm HO.out.symm, hx1⟩
        by_cases c2 : c = 108
        · subst c2
          by_cases hA : i < a.size
          · have tA := emptyB_no (s := A) (by have := HAs.out; omega)
            have tA0 : 0 < A.size := by have := HAs.out; omega
            have ia : ∀ w, (Instr.index 9 (.string A) (.int .i64 0)).run Try.prog w = .ok (.int .u8 ((sg A 0).toNat : Int)) w := fun w => ixB A 0 tA0 w
            have tA1 : 1 ≤ A.size := by omega
            have e1A : A.extract 1 A.size = sx a (i + 1) := HSA.out
            go_wp2
            refine ⟨⟨p + 1, i + 1, k, _, by omega, HST.out.trans (by unfold apS; rw [if_neg (by decide), if_pos rfl, if_pos hA]), by first | rfl | rw [e1A], by rw [HLL.out], HR1.out, hit2, hx1⟩, ?_⟩
            rw [HPW.out]
            simp only [World.iterPos, hit2]
            omega
          · have tA := emptyB_yes (s := A) (by have := HAs.out; omega)
            have HO := Lib.hid (apOk_none (n := p + 1) (by rw [HST.out]; unfold apS; rw [if_neg (by decide), if_pos rfl, if_neg hA]) hlt)
            have HV := Lib.hid (apV_no HO.out)
            go_wp2
            go_ret2
            exact ⟨ret_sB HV.out.symm HO.out.symm, hx1⟩
        by_cases c3 : c = 109
        · subst c3
          by_cases hL : k < l.size
          · have tL := emptyB_no (s := L) (by have := HLs.out; omega)
            have tL0 : 0 < L.size := by have := HLs.out; omega
            have il : ∀ w, (Instr.index 9 (.string L) (.int .i64 0)).run Try.prog w = .ok (.int .u8 ((sg L 0).toNat : Int)) w := fun w => ixB L 0 tL0 w
            have tL1 : 1 ≤ L.size := by omega
            have e1L : L.extract 1 L.size = sx l (k + 1) := HSL.out
            go_wp2_with (at_builtin; refine app_byteI rfl _ _ rfl w w.heap.size _ _ _ (sg L 0) _ rfl (by exact HR1.out) (by exact hx1) (Nat.le_refl _) hx1.size (by omega) rfl rfl ?_; intro v5 w5 r5 x5 it5; have R5 := Lib.hid r5; clear r5; have hit5 := it5 _ _ _ hit2)
            refine ⟨⟨p + 1, i, k + 1, _, by omega, HST.out.trans (by unfold apS; rw [if_neg (by decide), if_neg (by decide), if_pos rfl, if_pos hL]; rw [show sg L 0 = sg l k from HGL.out]), by rw [HAA.out], by first | rfl | rw [e1L], R5.out, hit5, x5⟩, ?_⟩
            rw [HPW.out]
            simp only [World.iterPos, hit5]
            omega
          · have tL := emptyB_yes (s := L) (by have := HLs.out; omega)
            have HO := Lib.hid (apOk_none (n := p + 1) (by rw [HST.out]; unfold apS; rw [if_neg (by decide), if_neg (by decide), if_pos rfl, if_neg hL]) hlt)
            have HV := Lib.hid (apV_no HO.out)
            go_wp2
            go_ret2
            exact ⟨ret_sB HV.out.symm HO.out.symm, hx1⟩
        by_cases c4 : c = 114
        · subst c4
          by_cases hA : i < a.size
          · have tA := emptyB_no (s := A) (by have := HAs.out; omega)
            have tA0 : 0 < A.size := by have := HAs.out; omega
            have ia : ∀ w, (Instr.index 9 (.string A) (.int .i64 0)).run Try.prog w = .ok (.int .u8 ((sg A 0).toNat : Int)) w := fun w => ixB A 0 tA0 w
            have tA1 : 1 ≤ A.size := by omega
            have e1A : A.extract 1 A.size = sx a (i + 1) := HSA.out
            by_cases hL : k < l.size
            · have tL := emptyB_no (s := L) (by have := HLs.out; omega)
              have tL0 : 0 < L.size := by have := HLs.out; omega
              have il : ∀ w, (Instr.index 9 (.string L) (.int .i64 0)).run Try.prog w = .ok (.int .u8 ((sg L 0).toNat : Int)) w := fun w => ixB L 0 tL0 w
              have tL1 : 1 ≤ L.size := by omega
              have e1L : L.extract 1 L.size = sx l (k + 1) := HSL.out
              go_wp2_with (at_builtin; refine app_byteI rfl _ _ rfl w w.heap.size _ _ _ (sg L 0) _ rfl (by exact HR1.out) (by exact hx1) (Nat.le_refl _) hx1.size (by omega) rfl rfl ?_; intro v5 w5 r5 x5 it5; have R5 := Lib.hid r5; clear r5; have hit5 := it5 _ _ _ hit2)
              go_quiet (fail)
              go_wp2
              refine ⟨⟨p + 1, i + 1, k + 1, _, by omega, HST.out.trans (by unfold apS; rw [if_neg (by decide), if_neg (by decide), if_neg (by decide), if_pos rfl, if_pos ⟨hA, hL⟩]; rw [show sg L 0 = sg l k from HGL.out]), by first | rfl | rw [e1A], by first | rfl | rw [e1L], R5.out.ext (ext_drewN (Ext.refl _) _), iter_ext hit5 (ext_drewN (Ext.refl _) _), ext_drewN x5 _⟩, ?_⟩
              rw [HPW.out]
              simp only [World.iterPos, iter_ext hit5 (ext_drewN (Ext.refl _) _)]
              omega
            · have tL := emptyB_yes (s := L) (by have := HLs.out; omega)
              have HO := Lib.hid (apOk_none (n := p + 1) (by rw [HST.out]; unfold apS; rw [if_neg (by decide), if_neg (by decide), if_neg (by decide), if_pos rfl, if_neg (fun h => hL h.2)]) hlt)
              have HV := Lib.hid (apV_no HO.out)
              go_wp2
              go_ret2
              exact ⟨ret_sB HV.out.symm HO.out.symm, hx1⟩
          · have tA := emptyB_yes (s := A) (by have := HAs.out; omega)
            have HO := Lib.hid (apOk_none (n := p + 1) (by rw [HST.out]; unfold apS; rw [if_neg (by decide), if_neg (by decide), if_neg (by decide), if_pos rfl, if_neg (fun h => hA h.1)]) hlt)
            have HV := Lib.hid (apV_no HO.out)
            go_wp2
            go_ret2
            exact ⟨ret_sB HV.out.symm HO.out.symm, hx1⟩
        have HO := Lib.hid (apOk_none (n := p + 1) (by rw [HST.out]; exact apS_other c1 c2 c3 c4) hlt)
        have HV := Lib.hid (apV_no HO.out)
        go_wp2
        go_ret2
        exact ⟨ret_sB HV.out.symm HO.out.symm, hx1⟩
      · have hnx := fun ty => Lib.run_next_any_at (P := Try.prog) wr K2 t p ty hit hlt
        have hx1 := ext_iter hx hKw t (p + (Utf8.decode t p).2)
        have hd := (decode_high t p hlt (by omega)).1
        have hd2 := decode_le t p
        have HO := Lib.hid (apOk_none (n := p + 1) (by rw [HST.out]; rw [sg_at t p hlt] at hasc; exact apS_other (by omega) (by omega) (by omega) (by omega)) hlt)
        have HV := Lib.hid (apV_no HO.out)
        obtain ⟨c, hr⟩ : ∃ r, r = (Utf8.decode t p).1 := ⟨_, rfl⟩
        rw [← hr] at hnx hd hd2
        clear hr hasc
        have c1 : ¬ c = 107 := by omega
        have c2 : ¬ c = 108 := by omega
        have c3 : ¬ c = 109 := by omega
        have c4 : ¬ c = 114 := by omega
        go_wp2
        go_ret2
        exact ⟨ret_sB HV.out.symm HO.out.symm, hx1⟩
    · have hnx := fun ty => Lib.run_next_end_at (P := Try.prog) wr K2 t p ty hit hlt
      obtain rfl : p = t.size := by omega
      have HE := Lib.hid (apOk_end H1.out HQ.out)
      have hcv := convB HR.out
      have HTB := Lib.hid (show (tB o).size ≤ maxLen by rw [tB_size]; unfold maxLen; omega)
      by_cases hea : i = a.size
      · have tA := emptyB_yes (s := A) (by have := HAs.out; omega)
        by_cases hel : k = l.size
        · have tL := emptyB_yes (s := L) (by have := HLs.out; omega)
          cases hT : isT 20 (tB o)
          · have HO := Lib.hid (show apOk a t l = false by rw [HE.out, hT, Bool.and_false])
            have HV := Lib.hid (apV_no HO.out)
            go_wp2_with (go_at_call 45; refine (isTyped_any _ _ HTB.out).mono ?_; rintro e w3 ⟨rfl, x3⟩; rw [hT])
            go_ret2
            exact ⟨ret_sB HV.out.symm HO.out.symm, hx.trans x3⟩
          · have HO := Lib.hid (show apOk a t l = true by rw [HE.out, hT, decide_eq_true hea, decide_eq_true hel]; rfl)
            have HV := Lib.hid (apV_end HO.out HQ.out)
            have hcv2 := fun (w' : World) (hx' : Ext wr w') => convB (HR.out.ext hx')
            go_wp2_with (go_at_call 45; refine (isTyped_any _ _ HTB.out).mono ?_; rintro e w3 ⟨rfl, x3⟩; rw [hT]; have hcv3 := hcv2 _ x3)
            go_ret2
            exact ⟨ret_sB HV.out.symm HO.out.symm, hx.trans x3⟩
        · have tL := emptyB_no (s := L) (by have := HLs.out; omega)
          have HO := Lib.hid (show apOk a t l = false by rw [HE.out, decide_eq_false hel, Bool.and_false]; rfl)
          have HV := Lib.hid (apV_no HO.out)
          go_wp2
          go_ret2
          exact ⟨ret_sB HV.out.symm HO.out.symm, hx⟩
      · have tA := emptyB_no (s := A) (by have := HAs.out; omega)
        have HO := Lib.hid (show apOk a t l = false by rw [HE.out, decide_eq_false hea]; rfl)
        have HV := Lib.hid (apV_no HO.out)
        go_wp2
        go_ret2
        exact ⟨ret_sB HV.out.symm HO.out.symm, hx⟩

set_option maxRecDepth 100000 in
set_option maxHeartbeats 4000000 in
theorem appS_any (a t l : ByteArray) (w : World) (ha : a.size ≤ maxLen) (_ht : t.size ≤ maxLen) (hl : l.size ≤ maxLen) : Calls Try.prog 15 #[.string a, .string t, .string l] w fun e w' => e = .returned (.tuple #[.string (apV a t l), .bool (apOk a t l)]) ∧ Ext w w' := by
  cases h : (isT 20 a && isT 20 l)
  · have HO := Lib.hid (apOk_bad (t := t) h)
    have HV := Lib.hid (apV_no HO.out)
    go_enter Try.func15, Try.ntmps15
    go_wp2_with (go_at_call 42; refine (bkPair_any _ _ _ ha hl).mono ?_; rintro e w1 ⟨rfl, rfl⟩; rw [h])
    go_ret2
    exact ⟨ret_sB HV.out.symm HO.out.symm, Ext.refl _⟩
  by_cases h40 : 40 < t.size
  · have HO := Lib.hid (apOk_long (a := a) (l := l) h40)
    have HV := Lib.hid (apV_no HO.out)
    go_enter Try.func15, Try.ntmps15
    go_wp2_with (go_at_call 42; refine (bkPair_any _ _ _ ha hl).mono ?_; rintro e w1 ⟨rfl, rfl⟩; rw [h])
    go_ret2
    exact ⟨ret_sB HV.out.symm HO.out.symm, Ext.refl _⟩
  have H1 := Lib.hid h
  have h20a : a.size ≤ 20 := isT_size (by simp only [Bool.and_eq_true] at h; exact h.1)
  have h20l : l.size ≤ 20 := isT_size (by simp only [Bool.and_eq_true] at h; exact h.2)
  go_enter Try.func15, Try.ntmps15
  go_wp2_with (go_at_call 42; refine (bkPair_any _ _ _ ha hl).mono ?_; rintro e w1 ⟨rfl, rfl⟩; rw [h])
  clear h
  go_loopw [8, 9, 10, 11] (fun vo vi vk vp wr => ∃ (p i k : Nat) (o : List UInt8), p ≤ t.size ∧ apF a l t p = some (i, k, o) ∧ vp = .int .i64 p ∧ vi = .int .i64 i ∧ vk = .int .i64 k ∧ vo = .string (tB o) ∧ Ext w wr) (fun _ _ _ vp _ => t.size - (intOf vp).toNat)
  case atStart => exact ⟨0, 0, 0, [], Nat.zero_le _, rfl, rfl, rfl, rfl, rfl, Ext.refl _⟩
  case round =>
    obtain ⟨p, i, k, o, hp, hq, rfl, rfl, rfl, rfl, hx⟩ := hrel
    have HQ := Lib.hid hq
    obtain ⟨hb1, hb2, hb3, hb4⟩ := apF_bd _ _ hq
    simp only at hb1 hb2 hb3 hb4
    clear hq
    obtain ⟨T, hT⟩ : ∃ T, T = tB o := ⟨_, rfl⟩
    have HT := Lib.hid hT
    have hTs : T.size ≤ 40 := by rw [hT, tB_size]; omega
    rw [← hT]
    clear hT
    by_cases hlt : p < t.size
    · have HST := Lib.hid (apF_step (n := p) HQ.out)
      have ip : ∀ w, (Instr.index 9 (.string t) (.int .i64 (p : Int))).run Try.prog w = .ok (.int .u8 ((sg t p).toNat : Int)) w := fun w => ixB t p hlt w
      obtain ⟨c, hc⟩ : ∃ c, c = (sg t p).toNat := ⟨_, rfl⟩
      rw [← hc] at ip HST
      clear hc
      by_cases c1 : c = 107
      · subst c1
        by_cases hA : i < a.size
        · have i1 : (i : Int) < (a.size : Int) := by omega
          have i2 : ¬ (i : Int) = (a.size : Int) := by omega
          have i2b : ((i : Int) == (a.size : Int)) = false := beq_eq_false_iff_ne.2 i2
          have i3 : i + 1 ≤ a.size := hA
          have e1A := ext1B a i hA
          have z1A : (⟨#[sg a i]⟩ : ByteArray).size = 1 := rfl
          go_wp2
          go_roundw
          case rel => exact ⟨p + 1, i + 1, k, o ++ [sg a i], by omega, HST.out.trans (by unfold apS; rw [if_pos rfl, if_pos hA]), by go_num, by go_num, by go_num, by rw [tB_snoc, ← HT.out, ← e1A], hx⟩
          case measure => simp [intOf]; omega
        · obtain rfl : i = a.size := by omega
          have HO := Lib.hid (apOk_none (n := p + 1) (by rw [HST.out]; unfold apS; rw [if_pos rfl, if_neg hA]) hlt)
          have HV := Lib.hid (apV_no HO.out)
          go_wp2
          go_ret2
          exact ⟨ret_sB HV.out.symm HO.out.symm, hx⟩
      by_cases c2 : c = 108
      · subst c2
        by_cases hA : i < a.size
        · have i1 : (i : Int) < (a.size : Int) := by omega
          have i2 : ¬ (i : Int) = (a.size : Int) := by omega
          have i2b : ((i : Int) == (a.size : Int)) = false := beq_eq_false_iff_ne.2 i2
          have i3 : i + 1 ≤ a.size := hA
          have e1A := ext1B a i hA
          go_wp2
          go_roundw
          case rel => exact ⟨p + 1, i + 1, k, o, by omega, HST.out.trans (by unfold apS; rw [if_neg (by decide), if_pos rfl, if_pos hA]), by go_num, by go_num, by go_num, by rw [HT.out], hx⟩
          case measure => simp [intOf]; omega
        · obtain rfl : i = a.size := by omega
          have HO := Lib.hid (apOk_none (n := p + 1) (by rw [HST.out]; unfold apS; rw [if_neg (by decide), if_pos rfl, if_neg hA]) hlt)
          have HV := Lib.hid (apV_no HO.out)
          go_wp2
          go_ret2
          exact ⟨ret_sB HV.out.symm HO.out.symm, hx⟩
      by_cases c3 : c = 109
      · subst c3
        by_cases hL : k < l.size
        · have k1 : (k : Int) < (l.size : Int) := by omega
          have k2 : ¬ (k : Int) = (l.size : Int) := by omega
          have k2b : ((k : Int) == (l.size : Int)) = false := beq_eq_false_iff_ne.2 k2
          have k3 : k + 1 ≤ l.size := hL
          have e1L := ext1B l k hL
          have z1L : (⟨#[sg l k]⟩ : ByteArray).size = 1 := rfl
          go_wp2
          go_roundw
          case rel => exact ⟨p + 1, i, k + 1, o ++ [sg l k], by omega, HST.out.trans (by unfold apS; rw [if_neg (by decide), if_neg (by decide), if_pos rfl, if_pos hL]), by go_num, by go_num, by go_num, by rw [tB_snoc, ← HT.out, ← e1L], hx⟩
          case measure => simp [intOf]; omega
        · obtain rfl : k = l.size := by omega
          have HO := Lib.hid (apOk_none (n := p + 1) (by rw [HST.out]; unfold apS; rw [if_neg (by decide), if_neg (by decide), if_pos rfl, if_neg hL]) hlt)
          have HV := Lib.hid (apV_no HO.out)
          go_wp2
          go_ret2
          exact ⟨ret_sB HV.out.symm HO.out.symm, hx⟩
      by_cases c4 : c = 114
      · subst c4
        by_cases hA : i < a.size
        · have i1 : (i : Int) < (a.size : Int) := by omega
          have i2 : ¬ (i : Int) = (a.size : Int) := by omega
          have i2b : ((i : Int) == (a.size : Int)) = false := beq_eq_false_iff_ne.2 i2
          have i3 : i + 1 ≤ a.size := hA
          have e1A := ext1B a i hA
          by_cases hL : k < l.size
          · have k1 : (k : Int) < (l.size : Int) := by omega
            have k2 : ¬ (k : Int) = (l.size : Int) := by omega
            have k2b : ((k : Int) == (l.size : Int)) = false := beq_eq_false_iff_ne.2 k2
            have k3 : k + 1 ≤ l.size := hL
            have e1L := ext1B l k hL
            have z1L : (⟨#[sg l k]⟩ : ByteArray).size = 1 := rfl
            go_wp2
            exact ⟨⟨p + 1, i + 1, k + 1, o ++ [sg l k], by omega, HST.out.trans (by unfold apS; rw [if_neg (by decide), if_neg (by decide), if_neg (by decide), if_pos rfl, if_pos ⟨hA, hL⟩]), by go_num, by go_num, by go_num, by rw [tB_snoc, ← HT.out], hx⟩, by simp [intOf]; omega⟩
          · obtain rfl : k = l.size := by omega
            have HO := Lib.hid (apOk_none (n := p + 1) (by rw [HST.out]; unfold apS; rw [if_neg (by decide), if_neg (by decide), if_neg (by decide), if_pos rfl, if_neg (fun h => hL h.2)]) hlt)
            have HV := Lib.hid (apV_no HO.out)
            go_wp2
            go_ret2
            exact ⟨ret_sB HV.out.symm HO.out.symm, hx⟩
        · obtain rfl : i = a.size := by omega
          have HO := Lib.hid (apOk_none (n := p + 1) (by rw [HST.out]; unfold apS; rw [if_neg (by decide), if_neg (by decide), if_neg (by decide), if_pos rfl, if_neg (fun h => hA h.1)]) hlt)
          have HV := Lib.hid (apV_no HO.out)
          go_wp2
          go_ret2
          exact ⟨ret_sB HV.out.symm HO.out.symm, hx⟩
      have c5 : ¬ (c : Int) = 107 := by omega
      have c6 : ¬ (c : Int) = 108 := by omega
      have c7 : ¬ (c : Int) = 109 := by omega
      have c8 : ¬ (c : Int) = 114 := by omega
      have HO := Lib.hid (apOk_none (n := p + 1) (by rw [HST.out]; exact apS_other c1 c2 c3 c4) hlt)
      have HV := Lib.hid (apV_no HO.out)
      go_wp2
      go_ret2
      exact ⟨ret_sB HV.out.symm HO.out.symm, hx⟩
    · obtain rfl : p = t.size := by omega
      have HE := Lib.hid (apOk_end H1.out HQ.out)
      have HTB := Lib.hid (show T.size ≤ maxLen by unfold maxLen; omega)
      by_cases hea : i = a.size
      · have HEA := Lib.hid hea
        have i1 : ¬ (i : Int) < (a.size : Int) := by omega
        by_cases hel : k = l.size
        · have HEL := Lib.hid hel
          have i2 : ¬ (k : Int) < (l.size : Int) := by omega
          clear hea hel
          cases hTT : isT 20 T
          · have HO := Lib.hid (show apOk a t l = false by rw [HE.out, ← HT.out, hTT, Bool.and_false])
            have HV := Lib.hid (apV_no HO.out)
            go_wp2_with (go_at_call 43; refine (bkText_any _ _ HTB.out).mono ?_; rintro e w3 ⟨rfl, rfl⟩; rw [hTT])
            go_ret2
            exact ⟨ret_sB HV.out.symm HO.out.symm, hx⟩
          · have HO := Lib.hid (show apOk a t l = true by rw [HE.out, ← HT.out, hTT, decide_eq_true HEA.out, decide_eq_true HEL.out]; rfl)
            have HV := Lib.hid (apV_end HO.out HQ.out)
            go_wp2_with (go_at_call 43; refine (bkText_any _ _ HTB.out).mono ?_; rintro e w3 ⟨rfl, rfl⟩; rw [hTT])
            go_ret2
            exact ⟨ret_sB (by rw [HV.out, HT.out]) HO.out.symm, hx⟩
        · have HO := Lib.hid (show apOk a t l = false by rw [HE.out, decide_eq_false hel, Bool.and_false]; rfl)
          have HV := Lib.hid (apV_no HO.out)
          have i2 : (k : Int) < (l.size : Int) := by omega
          clear hea hel
          go_wp2
          go_ret2
          exact ⟨ret_sB HV.out.symm HO.out.symm, hx⟩
      · have HO := Lib.hid (show apOk a t l = false by rw [HE.out, decide_eq_false hea]; rfl)
        have HV := Lib.hid (apV_no HO.out)
        have i1 : (i : Int) < (a.size : Int) := by omega
        go_wp2
        go_ret2
        exact ⟨ret_sB HV.out.symm HO.out.symm, hx⟩
end Go.Proofs.Ytnoidabmbckfkaa
