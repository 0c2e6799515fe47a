/- What is shown by a row that tells how often each key shows its letter: the program's way. No conditions. -/
import Derived.Test.YtcfoicogaggkbaaShown
namespace Go.Proofs.Ytcfoicogaggkbaa
open Go.RowKit

def row26 (t : Nat → Int) : List Value := (List.range 26).map fun j => .int .i64 (t j)
theorem row26_len (t : Nat → Int) : (row26 t).length = 26 := by simp [row26]
theorem row26_at (t : Nat → Int) (j : Nat) (h : j < 26) : (row26 t)[j]? = some (.int .i64 (t j)) := by
  unfold row26
  rw [List.getElem?_map, List.getElem?_range h]
  rfl
theorem row26_set (t : Nat → Int) (i : Nat) (x : Int) : (row26 t).set i (.int .i64 x) = row26 (fun j => if j = i then x else t j) := by
  apply List.ext_getElem?
  intro j
  by_cases hj : j < 26
  · by_cases e : j = i
    · subst e
      rw [List.getElem?_set_self (by rw [row26_len]; exact hj), row26_at _ _ hj]
      simp
    · rw [List.getElem?_set_ne (fun h => e h.symm), row26_at _ _ hj, row26_at _ _ hj, if_neg e]
  · rw [List.getElem?_eq_none (by rw [List.length_set, row26_len]; omega), List.getElem?_eq_none (by rw [row26_len]; omega)]
theorem row26_congr {t t' : Nat → Int} (he : ∀ j, j < 26 → t j = t' j) : row26 t = row26 t' := by
  unfold row26
  exact List.map_congr_left fun j hj => by rw [he j (List.mem_range.1 hj)]
/-- A letter's number, as the row has it. -/
def rwF (f : UInt8 → Nat) (j : Nat) : Int := (f (97 + j).toUInt8 : Int)
theorem rwF_at (f : UInt8 → Nat) (c : UInt8) (h : 97 ≤ c.toNat) : rwF f (c.toNat - 97) = (f c : Int) := by
  unfold rwF
  have : (97 + (c.toNat - 97)).toUInt8 = c := by
    apply UInt8.toNat_inj.1
    have := c.toNat_lt
    simp
    omega
  rw [this]
/-- A row in a block. -/
def TabR (w : World) (C : Nat) (t : Nat → Int) : Prop := w.heap[C]? = some (.cells (row26 t).toArray 36)
theorem TabR.lt {w : World} {C : Nat} {t : Nat → Int} (h : TabR w C t) : C < w.heap.size := (Array.getElem?_eq_some_iff.1 h).1
theorem TabR.ext {w w' : World} {C : Nat} {t : Nat → Int} (h : TabR w C t) (hx : Ext w w') : TabR w' C t := (hx.block C h.lt).trans h
theorem TabR.at {w : World} {C : Nat} {t : Nat → Int} (h : TabR w C t) (r : Nat) (hr : r < 26) : w.cell? ⟨C, r, none⟩ = some (.int .i64 (t r)) := by
  rw [cell_of_row w C _ _ _ _ h, List.getElem?_toArray, row26_at t r hr]
theorem TabR.fr {w : World} {C : Nat} {t : Nat → Int} (h : TabR w C t) (j : Nat) : w.frozen? ⟨C, j, none⟩ = false := frozen_of_row w C j _ _ h
theorem TabR.set {w : World} {C : Nat} {t : Nat → Int} (h : TabR w C t) (r : Nat) (x : Int) : TabR (w.setCell ⟨C, r, none⟩ (.int .i64 x)) C (fun a => if a = r then x else t a) := by
  have h1 := heap_setCell_same w C r _ _ (.int .i64 x) h
  unfold TabR
  rw [h1]
  congr 2
  rw [← row26_set t r x]
  apply Array.toList_inj.1
  simp
theorem TabR.congr {w : World} {C : Nat} {t t' : Nat → Int} (h : TabR w C t) (he : ∀ r, r < 26 → t r = t' r) : TabR w C t' := by
  unfold TabR
  rw [← row26_congr he]
  exact h
theorem TabR.other {w : World} {C : Nat} {t : Nat → Int} (h : TabR w C t) {p : Addr} (hp : ¬ p.block = C) (v : Value) : TabR (w.setCell p v) C t := by
  unfold TabR
  rw [heap_setCell_other w _ _ _ (fun e => hp e.symm)]
  exact h
theorem TabR.iterAt {w : World} {C : Nat} {t : Nat → Int} {k : Nat} {q : ByteArray} {p : Nat} (h : TabR w C t) (hk : w.heap[k]? = some (.stringIter q p)) (p' : Nat) : TabR (w.iterAt k q p') C t := by
  have hne : C ≠ k := by
    intro e
    subst e
    rw [h] at hk
    cases hk
  exact (Lib.iterAt_other w k C q p' hne).trans h
/-- One byte more; all other blocks stay as they are. -/
theorem app_byteK {ops : Array Oper} {rest : List Oper} {o : Oper} {a : Act} {Q : Exit → Act → World → Prop} (hgd : o.guard = none) (s x : Operand)
    (ho : o.op = .call { callee := .builtin .append, args := #[s, x], argTypes := #[47, 47] })
    (u : World) (B : Nat) (wr : World) (v : Value) (l : List UInt8) (c : UInt8) (x0 : Int) (hs : a.eval s = v) (hrow : RowB B wr v l) (hx : Ext u wr) (hB : u.heap.size ≤ B) (hBw : B ≤ wr.heap.size) (hl : l.length ≤ 1000000)
    (hxe : a.eval x = .slice (some ⟨wr.heap.size, 0, none⟩) 1 1) (hc0 : x0 = (c.toNat : Int))
    (h : ∀ v' w', RowB B w' v' (l ++ [c]) → Ext u w' → (∀ k, k < wr.heap.size → some k ≠ v.ownBlock → w'.heap[k]? = wr.heap[k]?) → wpList Try.prog ops Q rest (a.put o.dst v') w') : wpList Try.prog ops Q (o :: rest) a (wr.alloc (.cells #[.int .u8 x0] 5)) := by
  subst hc0
  obtain ⟨i0, hi, hz0, hzs, hzb⟩ := infoB info_byB
  refine wpList_append_own _ hgd s x 47 ho B 5 i0 (.int .u8 0) 1 1 Try.underlying47 hi hz0 hzs hzb rfl (by decide) v l.length (bcs l) hs (World.ownsRow.alloc hrow _) ⟨wr.heap.size, 0, none⟩ 1 1 [.int .u8 (c.toNat : Int)] hxe rfl (cell_one_new _ _ _) (oneBy _) (by unfold maxLen; omega) (by omega) (by simp; omega) ?_
  intro v' w' hown hg _
  refine h v' w' ?_ (ext_grown (hx.alloc _) hg (fun j hj => Nat.le_trans hB (hrow.own_le j hj))) (fun k hk hne => ?_)
  · unfold RowB
    rw [List.length_append, bcs_snoc]
    exact hown
  · rw [hg.block k (by simp; omega) hne]
    exact heap_alloc_old wr _ hk
theorem TabR.keptB {wr w' : World} {C B : Nat} {t : Nat → Int} {v : Value} {l : List UInt8} (h : TabR wr C t) (hr : RowB B wr v l) (hk : ∀ k, k < wr.heap.size → some k ≠ v.ownBlock → w'.heap[k]? = wr.heap[k]?) : TabR w' C t := by
  unfold TabR
  rw [hk C h.lt ?_]
  · exact h
  · intro e
    rcases hr.2 with ⟨rfl, _⟩ | ⟨g, cap, cur, rfl, _, hg, _⟩
    · cases e
    · have e : C = g := by injection e
      subst e
      rw [h] at hg
      injection hg with hg
      injection hg with _ h2
      exact absurd h2 (by decide)
theorem iter_keptB {wr w' : World} {k B : Nat} {q : ByteArray} {p : Nat} {v : Value} {l : List UInt8} (h : wr.heap[k]? = some (.stringIter q p)) (hr : RowB B wr v l) (hk : ∀ k, k < wr.heap.size → some k ≠ v.ownBlock → w'.heap[k]? = wr.heap[k]?) : w'.heap[k]? = some (.stringIter q p) := by
  rw [hk k (Array.getElem?_eq_some_iff.1 h).1 (row_not_iter hr h)]
  exact h

set_option maxRecDepth 100000 in
set_option maxHeartbeats 4000000 in
theorem showI_any (f : UInt8 → Nat) (t : ByteArray) (w : World) (hf : ∀ c, f c ≤ 2) (ht : isT 20 t = true) : Calls Try.prog 69 #[.agg (row26 (rwF f)).toArray, .string t] w fun e w' => e = .returned (.string (tB (shw f t.data.toList))) ∧ Ext w w' := by
  have HF := Lib.hid hf
  have HT := Lib.hid ht
  have h20 := isT_size ht
  have HRF := Lib.hid (rwF_at f)
  clear hf ht
  obtain ⟨RR, hRR⟩ : ∃ RR, RR = (row26 (rwF f)).toArray := ⟨_, rfl⟩
  obtain ⟨W0, hW0⟩ : ∃ W0, W0 = w.alloc (.cells RR 36) := ⟨_, rfl⟩
  have hT0 : TabR W0 w.heap.size (rwF f) := by rw [hW0, hRR]; exact heap_alloc_new w _
  have hX0 : Ext w W0 := by rw [hW0]; exact (Ext.refl _).alloc _
  have hz0 : W0.heap.size = w.heap.size + 1 := by rw [hW0]; simp
  have hit0 : (W0.iter t 0).heap[W0.heap.size]? = some (.stringIter t 0) := World.iter_heap _ _ _
  have hx0 : Ext w (W0.iter t 0) := hX0.alloc _
  have hTI : TabR (W0.iter t 0) w.heap.size (rwF f) := hT0.ext ((Ext.refl _).alloc _)
  have T0 := Lib.hid hTI
  have hRRs : RR.size = 26 := by rw [hRR, List.size_toArray, row26_len]
  rw [← hRR]
  clear hRR
  go_enter Try.func69, Try.ntmps69
  go_wp2
  rw [← hW0]
  clear hW0 hTI hT0 hX0
  obtain ⟨C, hC⟩ : ∃ C, C = w.heap.size := ⟨_, rfl⟩
  have HCC := Lib.hid hC
  obtain ⟨K2, hK2⟩ : ∃ K2, K2 = W0.heap.size := ⟨_, rfl⟩
  have hK2C : K2 = C + 1 := by omega
  have HK2 := Lib.hid hK2C
  have hKw : w.heap.size ≤ K2 := by omega
  rw [← hC] at T0 ⊢
  rw [← hK2] at hit0
  rw [hK2C] at hit0
  clear hK2 hz0 hC hK2C
  go_loopw [5] (fun vo wr => ∃ p : Nat, p ≤ t.size ∧ RowB w.heap.size wr vo (shw f (t.data.toList.take p)) ∧ wr.heap[C + 1]? = some (.stringIter t p) ∧ TabR wr C (rwF f) ∧ Ext w wr) (fun _ wr => t.size - wr.iterPos (C + 1))
  case atStart => exact ⟨0, Nat.zero_le _, RowB.nil _ _, hit0, T0.out, hx0⟩
  case round =>
    obtain ⟨p, hp, hr, hit, hT, hx⟩ := hrel
    have HR := Lib.hid hr
    have HTB := Lib.hid hT
    clear hr hT
    have hKC : w.heap.size ≤ C + 1 := by have := HCC.out; omega
    by_cases hlt : p < t.size
    · have hb := sg_bd HT.out p hlt
      have hasc : (t[p]'hlt).toNat < 128 := by rw [sg_at t p hlt]; omega
      have hnx := fun ty => Lib.run_next_ascii_at (P := Try.prog) wr (C + 1) t p ty hit hlt hasc
      have hit2 := Lib.iterAt_heap wr (C + 1) t p (p + 1) hit
      have hx1 := ext_iter hx hKC t (p + 1)
      have HR1 := Lib.hid (HR.out.iterAt hit (p + 1))
      have HTK := Lib.hid (takeB t p hlt)
      rw [show (t[p]'hlt).toNat = (sg t p).toNat by rw [sg_at t p hlt]] at hnx
      obtain ⟨c, hc⟩ : ∃ c, c = sg t p := ⟨_, rfl⟩
      rw [← hc] at hnx hb HTK
      obtain ⟨r, hr⟩ : ∃ r, r = c.toNat - 97 := ⟨_, rfl⟩
      have hr26 : r < 26 := by omega
      have HT1 := Lib.hid (HTB.out.iterAt hit (p + 1))
      have cR := HT1.out.at r hr26
      rw [show rwF f r = (f c : Int) by rw [hr]; exact HRF.out c hb.1] at cR
      have hri : (r : Int) < 26 := by omega
      have Wr : IntKind.i32.wrap ((c.toNat : Int) - 97) = (r : Int) := by simp only [IntKind.wrap_i32]; omega
      have Wc : IntKind.u8.wrap (c.toNat : Int) = (c.toNat : Int) := IntWalk.u8_in _ (by omega)
      have hfc := HF.out c
      have HPW := Lib.hid (show wr.iterPos (C + 1) = p by simp only [World.iterPos, hit])
      obtain ⟨wy, hwy⟩ : ∃ wy, wy = wr.iterAt (C + 1) t (p + 1) := ⟨_, rfl⟩
      rw [← hwy] at hnx hit2 hx1 HR1 HT1 cR
      clear hc hr hwy hasc
      have hll : (shw f (t.data.toList.take p)).length ≤ 40 := by
        have h1 := shw_len f HF.out (t.data.toList.take p)
        have h2 := List.length_take_le p t.data.toList
        omega
      go_wp2
      obtain ⟨L, hL⟩ : ∃ L, L = shw f (t.data.toList.take p) := ⟨_, rfl⟩
      have HLN := Lib.hid (show shw f (t.data.toList.take (p + 1)) = L ++ List.replicate (f c) c by rw [HTK.out, shw_snoc, hL])
      rw [← hL] at HR1 hll
      obtain ⟨m, hm⟩ : ∃ m, m = f c := ⟨_, rfl⟩
      rw [← hm] at HLN hfc ⊢
      clear hL hm cR
      go_loopw [5, 17] (fun vo q wx => ∃ n : Nat, n ≤ m ∧ q = .int .i64 n ∧ RowB w.heap.size wx vo (L ++ List.replicate n c) ∧ wx.heap[C + 1]? = some (.stringIter t (p + 1)) ∧ TabR wx C (rwF f) ∧ Ext w wx) (fun _ q _ => m - (intOf q).toNat)
      case atStart => exact ⟨0, Nat.zero_le _, rfl, by rw [List.replicate_zero, List.append_nil]; exact HR1.out, hit2, HT1.out, hx1⟩
      case round =>
        obtain ⟨n, hn, rfl, hr3, hit3, hT3, hx3⟩ := hrel
        have HR3 := Lib.hid hr3
        have HT3 := Lib.hid hT3
        clear hr3 hT3
        have hl3 : (L ++ List.replicate n c).length ≤ 1000 := by rw [List.length_append, List.length_replicate]; omega
        by_cases hnm : n < m
        · have hnmi : (n : Int) < (m : Int) := by omega
          have HSN := Lib.hid (show L ++ List.replicate (n + 1) c = L ++ List.replicate n c ++ [c] by rw [List.replicate_succ', List.append_assoc])
          go_wp2_with (at_builtin; refine app_byteK rfl _ _ rfl w w.heap.size _ _ _ c _ rfl (by exact HR3.out) (by exact hx3) (Nat.le_refl _) hx3.size (by omega) rfl rfl ?_; intro v5 w5 r5 x5 k5; have R5 := Lib.hid r5; have T5 := Lib.hid (HT3.out.keptB HR3.out k5); have hit5 := iter_keptB hit3 HR3.out k5; clear r5 k5)
          go_roundw
          case rel => exact ⟨n + 1, by omega, by go_num, by rw [HSN.out]; exact R5.out, hit5, T5.out, x5⟩
          case measure => simp [intOf] <;> omega
        · obtain rfl : n = m := by omega
          go_wp2
          refine ⟨⟨p + 1, by omega, by rw [HLN.out]; exact HR3.out, hit3, HT3.out, hx3⟩, ?_⟩
          rw [HPW.out]
          simp only [World.iterPos, hit3]
          omega
    · have hnx := fun ty => Lib.run_next_end_at (P := Try.prog) wr (C + 1) t p ty hit hlt
      have HE := Lib.hid (show t.data.toList.take p = t.data.toList from List.take_of_length_le (by simp; omega))
      have hcv := convB HR.out
      go_wp2
      go_ret
      exact ⟨by rw [HE.out]; rfl, hx⟩
end Go.Proofs.Ytcfoicogaggkbaa
