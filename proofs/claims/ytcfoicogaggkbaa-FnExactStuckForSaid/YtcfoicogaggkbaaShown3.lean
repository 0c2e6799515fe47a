/- The row that tells how often each key shows its letter. No conditions. -/
import Derived.Test.YtcfoicogaggkbaaShown2
import Derived.Deep.MidRow
import Derived.Laws.IdiomCopy
namespace Go.Proofs.Ytcfoicogaggkbaa
open Go.RowKit

/-- No letter of the second ones among the first ones. -/
def disj (d s : List UInt8) : Bool := s.all fun c => !hasB d c
def swR (d s : ByteArray) (j : Nat) : Int := if disj d.data.toList s.data.toList then rwF (by2 (hasB d.data.toList) (hasB s.data.toList)) j else 0
theorem results_cell2 {P : Program} {fn : Func} {p u : Tmp} {ty : TypeId} (h : fn.results = #[.cell p ty, .tmp u]) (tmps : Array Value) (w : World) (g : Nat) (t : TypeId) (cs : Array Value) (fr : Nat × Nat) (d : TypeDesc)
    (hp : tmps.getD p undef = .pointer (some ⟨g, 0, none⟩)) (hg : w.heap[g]? = some (.cells cs t fr))
    (hu : P.underlying ty = some d) (hd : (match d with | .struct _ | .array _ _ => true | _ => false) = true) (hi : (P.info? ty).map (·.size) = some cs.size) :
    (results fn tmps).run P w = .ok (.tuple #[.agg cs, tmps.getD u undef]) w := by
  rw [results_cell_tmp h, hp]
  have h1 : (asAddr (.pointer (some ⟨g, 0, none⟩))).run P w = .ok ⟨g, 0, none⟩ w := rfl
  rw [h1]
  simp only [Result.andThen]
  rw [run_loadVar_row w g t ty cs fr d hg hu hd hi]
theorem ext_setRowR {w w1 : World} (h : Ext w w1) (g : Nat) (cs : Array Value) (hg : w.heap.size ≤ g) : Ext w (w1.setRow g cs) :=
  ⟨h.os, h.tape, h.output, by simpa [World.setRow] using h.size, fun k hk => (setRow_other w1 g k cs (by omega)).trans (h.block k hk)⟩
theorem row26_store (wr : World) (R : Nat) (t0 t : Nat → Int) (h : TabR wr R t0) {w : World} (hx : Ext w wr) (hR : w.heap.size ≤ R) : ∃ W4, (storeCells ⟨R, 0, none⟩ (row26 t)).run Try.prog wr = .ok () W4 ∧ W4.heap[R]? = some (.cells (row26 t).toArray 36) ∧ Ext w W4 := by
  have hone : ∀ v ∈ row26 t, v.oneCell' = true := by
    intro v hv
    obtain ⟨i, _, rfl⟩ := List.mem_map.1 hv
    rfl
  have hst := run_storeCells_at Try.prog R 0 36 (row26 t) 0 (row26 t0).toArray wr h (by rw [List.size_toArray, row26_len, row26_len]; decide) hone
  rw [row26_len, Nat.add_zero, show ((row26 t0).toArray.toList.take 0 ++ row26 t ++ (row26 t0).toArray.toList.drop (0 + 26)).toArray = (row26 t).toArray by
    rw [List.take_zero, List.nil_append, List.drop_of_length_le (by rw [List.toList_toArray, row26_len]; decide), List.append_nil]] at hst
  exact ⟨_, hst, setRow_heap _ _ _ _ _ _ h, ext_setRowR hx _ _ hR⟩

theorem zero26 : (row26 fun _ => 0).toArray = #[.int .i64 0, .int .i64 0, .int .i64 0, .int .i64 0, .int .i64 0, .int .i64 0, .int .i64 0, .int .i64 0, .int .i64 0, .int .i64 0, .int .i64 0, .int .i64 0, .int .i64 0, .int .i64 0, .int .i64 0, .int .i64 0, .int .i64 0, .int .i64 0, .int .i64 0, .int .i64 0, .int .i64 0, .int .i64 0, .int .i64 0, .int .i64 0, .int .i64 0, .int .i64 0] := by kernel_rfl
theorem zero26l : row26 (fun _ => 0) = [.int .i64 0, .int .i64 0, .int .i64 0, .int .i64 0, .int .i64 0, .int .i64 0, .int .i64 0, .int .i64 0, .int .i64 0, .int .i64 0, .int .i64 0, .int .i64 0, .int .i64 0, .int .i64 0, .int .i64 0, .int .i64 0, .int .i64 0, .int .i64 0, .int .i64 0, .int .i64 0, .int .i64 0, .int .i64 0, .int .i64 0, .int .i64 0, .int .i64 0, .int .i64 0] := by kernel_rfl
theorem ok_world {α : Type} {a b : α} {w w' : World} (h : Result.ok a w = Result.ok b w') : w = w' := by
  have := congrArg (fun r => match r with | Result.ok _ x => x | _ => w) h
  exact this
theorem store_zero {wy W4 : World} {R : Nat} (hst : (storeCells ⟨R, 0, none⟩ (row26 fun _ => 0)).run Try.prog wy = .ok () W4) (hth : wy.there R 0 26) : wy.setCells R 0 (#[.int .i64 0, .int .i64 0, .int .i64 0, .int .i64 0, .int .i64 0, .int .i64 0, .int .i64 0, .int .i64 0, .int .i64 0, .int .i64 0, .int .i64 0, .int .i64 0, .int .i64 0, .int .i64 0, .int .i64 0, .int .i64 0, .int .i64 0, .int .i64 0, .int .i64 0, .int .i64 0, .int .i64 0, .int .i64 0, .int .i64 0, .int .i64 0, .int .i64 0, .int .i64 0] : Array Value).toList = W4 := by
  have h7 := run_storeCells_cells (P := Try.prog) R 0 (row26 fun _ => 0) 0 wy (fun j hj => by have := (hth j (by rw [row26_len] at hj; exact hj)).1; simpa using this) (fun j hj => by have := (hth j (by rw [row26_len] at hj; exact hj)).2; simpa using this) (fun v hv => by obtain ⟨i, _, rfl⟩ := List.mem_map.1 hv; rfl)
  show wy.setCells R 0 [.int .i64 0, .int .i64 0, .int .i64 0, .int .i64 0, .int .i64 0, .int .i64 0, .int .i64 0, .int .i64 0, .int .i64 0, .int .i64 0, .int .i64 0, .int .i64 0, .int .i64 0, .int .i64 0, .int .i64 0, .int .i64 0, .int .i64 0, .int .i64 0, .int .i64 0, .int .i64 0, .int .i64 0, .int .i64 0, .int .i64 0, .int .i64 0, .int .i64 0, .int .i64 0] = W4
  rw [← zero26l]
  exact (ok_world (hst.symm.trans h7)).symm
theorem let_eq {c : UInt8} {j : Nat} (hc : 97 ≤ c.toNat ∧ c.toNat ≤ 122) (hj : j < 26) : (97 + j).toUInt8 = c ↔ j = c.toNat - 97 := by
  constructor
  · intro h
    rw [← h]
    simp
    omega
  · intro h
    subst h
    apply UInt8.toNat_inj.1
    have := c.toNat_lt
    simp
    omega
theorem hasB_mem {l : List UInt8} {c : UInt8} : hasB l c = true ↔ c ∈ l := by
  unfold hasB
  rw [List.any_eq_true]
  constructor
  · rintro ⟨x, hx, h⟩
    have := of_decide_eq_true h
    exact this ▸ hx
  · intro h
    exact ⟨c, h, decide_eq_true rfl⟩
theorem rowB_set {d : ByteArray} {p : Nat} (hp : p < d.size) (hc : 97 ≤ (sg d p).toNat ∧ (sg d p).toNat ≤ 122) (j : Nat) (hj : j < 26) : (if j = (sg d p).toNat - 97 then (0 : Int) else rwF (by2 (hasB (d.data.toList.take p)) nob) j) = rwF (by2 (hasB (d.data.toList.take (p + 1))) nob) j := by
  unfold rwF by2
  rw [hasB_take d p hp]
  by_cases h : j = (sg d p).toNat - 97
  · rw [if_pos h, (let_eq hc hj).2 h, decide_eq_true rfl, Bool.or_true, if_pos rfl]; rfl
  · rw [if_neg h, decide_eq_false (fun e => h ((let_eq hc hj).1 e.symm)), Bool.or_false]
theorem rowC_set {d s : ByteArray} {p : Nat} (hp : p < s.size) (hc : 97 ≤ (sg s p).toNat ∧ (sg s p).toNat ≤ 122) (hn : hasB d.data.toList (sg s p) = false) (j : Nat) (hj : j < 26) : (if j = (sg s p).toNat - 97 then (2 : Int) else rwF (by2 (hasB d.data.toList) (hasB (s.data.toList.take p))) j) = rwF (by2 (hasB d.data.toList) (hasB (s.data.toList.take (p + 1)))) j := by
  unfold rwF by2
  rw [hasB_take s p hp]
  by_cases h : j = (sg s p).toNat - 97
  · rw [if_pos h, (let_eq hc hj).2 h, hn, decide_eq_true rfl, Bool.or_true, if_neg (by simp), if_pos rfl]; rfl
  · rw [if_neg h, decide_eq_false (fun e => h ((let_eq hc hj).1 e.symm)), Bool.or_false]
theorem disj_no {d s : ByteArray} {p : Nat} (hp : p < s.size) (h : hasB d.data.toList (sg s p) = true) : disj d.data.toList s.data.toList = false := by
  unfold disj
  rw [List.all_eq_false]
  refine ⟨sg s p, ?_, by simp [h]⟩
  rw [← sg_at s p hp]
  have h2 : p < s.data.toList.length := by simpa using hp
  exact List.getElem_mem h2
theorem disj_yes {d s : ByteArray} (h : ∀ p, p < s.size → hasB d.data.toList (sg s p) = false) : disj d.data.toList s.data.toList = true := by
  unfold disj
  rw [List.all_eq_true]
  intro c hc
  obtain ⟨p, hp, rfl⟩ := List.mem_iff_getElem.1 hc
  have hp2 : p < s.size := by simpa using hp
  have := h p hp2
  rw [← sg_at s p hp2] at this
  rw [show s.data.toList[p] = s[p] from rfl, this]
  rfl

set_option maxRecDepth 100000 in
set_option maxHeartbeats 4000000 in
theorem showsW_any {nd ns : Nat} (d s : ByteArray) (w : World) (hd : isT nd d = true) (hs : isT ns s = true) : Calls Try.prog 43 #[.string d, .string s] w fun e w' => e = .returned (.tuple #[.agg (row26 (swR d s)).toArray, .bool (disj d.data.toList s.data.toList)]) ∧ Ext w w' := by
  have HD := Lib.hid hd
  have HS := Lib.hid hs
  have hd20 := isT_size hd
  have hs20 := isT_size hs
  clear hd hs
  obtain ⟨W, hW⟩ : ∃ W, W = (w.alloc (.cells #[.int .i64 0, .int .i64 0, .int .i64 0, .int .i64 0, .int .i64 0, .int .i64 0, .int .i64 0, .int .i64 0, .int .i64 0, .int .i64 0, .int .i64 0, .int .i64 0, .int .i64 0, .int .i64 0, .int .i64 0, .int .i64 0, .int .i64 0, .int .i64 0, .int .i64 0, .int .i64 0, .int .i64 0, .int .i64 0, .int .i64 0, .int .i64 0, .int .i64 0, .int .i64 0] 36)).alloc (.cells #[.int .i64 0, .int .i64 0, .int .i64 0, .int .i64 0, .int .i64 0, .int .i64 0, .int .i64 0, .int .i64 0, .int .i64 0, .int .i64 0, .int .i64 0, .int .i64 0, .int .i64 0, .int .i64 0, .int .i64 0, .int .i64 0, .int .i64 0, .int .i64 0, .int .i64 0, .int .i64 0, .int .i64 0, .int .i64 0, .int .i64 0, .int .i64 0, .int .i64 0, .int .i64 0] 36) := ⟨_, rfl⟩
  have hT0 : TabR W (w.heap.size + 1) (fun _ => 0) := by rw [hW]; unfold TabR; rw [zero26]; exact heap_alloc2_new w _ _
  have hR0 : TabR W w.heap.size (fun _ => 0) := by rw [hW]; unfold TabR; rw [zero26]; exact heap_alloc2_old w _ _
  have X0 : Ext w W := by rw [hW]; exact ((Ext.refl _).alloc _).alloc _
  have hWs : w.heap.size + 1 < W.heap.size := hT0.lt
  have T0 := Lib.hid hT0
  have R0 := Lib.hid hR0
  clear hT0 hR0
  go_enter Try.func43, Try.ntmps43
  go_wp2
  rw [← hW]
  clear hW
  obtain ⟨R, hR⟩ : ∃ R, R = w.heap.size := ⟨_, rfl⟩
  have HRR := Lib.hid hR
  rw [← hR] at T0 R0 hWs ⊢
  clear hR
  go_loopw [12] (fun q wr => ∃ k : Nat, k ≤ 26 ∧ q = .int .i64 k ∧ TabR wr (R + 1) (fun j => if j < k then 1 else 0) ∧ TabR wr R (fun _ => 0) ∧ Ext w wr) (fun q _ => 26 - (intOf q).toNat)
  case atStart => exact ⟨0, Nat.zero_le _, rfl, T0.out.congr (fun r _ => by rw [if_neg (by omega)]), R0.out, X0⟩
  case round =>
    obtain ⟨k, hk, rfl, hT, hRR, hx⟩ := hrel
    have HT := Lib.hid hT
    have HR := Lib.hid hRR
    clear hT hRR
    have hwR : w.heap.size ≤ R + 1 := by have := HRR.out; omega
    by_cases hlt : k < 26
    · have c0 := HT.out.at k hlt
      have f0 := HT.out.fr k
      have hki : (k : Int) < 26 := by omega
      have HN := Lib.hid (show TabR (wr.setCell ⟨R + 1, k, none⟩ (.int .i64 1)) (R + 1) (fun j => if j < k + 1 then 1 else 0) from (HT.out.set k 1).congr (fun j _ => by
        by_cases e : j = k
        · rw [if_pos e, if_pos (by omega)]
        · rw [if_neg e]
          by_cases e2 : j < k
          · rw [if_pos e2, if_pos (by omega)]
          · rw [if_neg e2, if_neg (by omega)]))
      go_wp2
      go_roundw
      case rel => exact ⟨k + 1, by omega, by go_num, HN.out, HR.out.other (by simp) _, hx.setCell hwR _⟩
      case measure => simp [intOf]; omega
    · have HT1 := Lib.hid (HT.out.congr (t' := rwF (by2 (hasB (d.data.toList.take 0)) nob)) (fun j hj => by rw [if_pos (by omega)]; rfl))
      have hkk : ¬ (k : Int) < 26 := by omega
      have hit0 : (wr.iter d 0).heap[wr.heap.size]? = some (.stringIter d 0) := World.iter_heap _ _ _
      have T1 := Lib.hid (HT1.out.ext ((Ext.refl wr).alloc (.stringIter d 0)))
      have R1 := Lib.hid (HR.out.ext ((Ext.refl wr).alloc (.stringIter d 0)))
      have hx0 : Ext w (wr.iter d 0) := hx.alloc _
      have hKw : w.heap.size ≤ wr.heap.size := hx.size
      go_wp2
      obtain ⟨K2, hK2⟩ : ∃ K2, K2 = wr.heap.size := ⟨_, rfl⟩
      rw [← hK2] at hit0 hKw ⊢
      clear hK2
      go_loopw [9] (fun _ wy => ∃ p : Nat, p ≤ d.size ∧ wy.heap[K2]? = some (.stringIter d p) ∧ TabR wy (R + 1) (rwF (by2 (hasB (d.data.toList.take p)) nob)) ∧ TabR wy R (fun _ => 0) ∧ Ext w wy) (fun _ wy => d.size - wy.iterPos K2)
      case atStart => exact ⟨0, Nat.zero_le _, hit0, T1.out, R1.out, hx0⟩
      case round =>
        obtain ⟨p, hp, hit, hT2, hR2, hx2⟩ := hrel
        have HT2 := Lib.hid hT2
        have HR2 := Lib.hid hR2
        clear hT2 hR2
        by_cases hlp : p < d.size
        · have hb := sg_bd HD.out p hlp
          have hasc : (d[p]'hlp).toNat < 128 := by rw [sg_at d p hlp]; omega
          have hnx := fun ty => Lib.run_next_ascii_at (P := Try.prog) wr K2 d p ty hit hlp hasc
          have hit2 := Lib.iterAt_heap wr K2 d p (p + 1) hit
          have hx1 := ext_iter hx2 hKw d (p + 1)
          have HTI := Lib.hid (HT2.out.iterAt hit (p + 1))
          have HRI := Lib.hid (HR2.out.iterAt hit (p + 1))
          rw [show (d[p]'hlp).toNat = (sg d p).toNat by rw [sg_at d p hlp]] at hnx
          have HST := Lib.hid (rowB_set hlp hb)
          obtain ⟨c, hc⟩ : ∃ c, c = sg d p := ⟨_, rfl⟩
          rw [← hc] at hnx hb HST
          obtain ⟨r, hr⟩ : ∃ r, r = c.toNat - 97 := ⟨_, rfl⟩
          rw [← hr] at HST
          have hr26 : r < 26 := by omega
          have hri : (r : Int) < 26 := by omega
          have Wr : IntKind.i32.wrap ((c.toNat : Int) - 97) = (r : Int) := by simp only [IntKind.wrap_i32]; omega
          have HPW := Lib.hid (show wr.iterPos K2 = p by simp only [World.iterPos, hit])
          obtain ⟨wy, hwy⟩ : ∃ wy, wy = wr.iterAt K2 d (p + 1) := ⟨_, rfl⟩
          rw [← hwy] at hnx hit2 hx1 HTI HRI
          have cR := HTI.out.at r hr26
          have fR := HTI.out.fr r
          have hKR : ¬ (R + 1 = K2) := fun e => by
            have h9 := HTI.out
            unfold TabR at h9
            rw [e, hit2] at h9
            cases h9
          clear hc hr hwy hasc
          have HNT := Lib.hid (show TabR (wy.setCell ⟨R + 1, r, none⟩ (.int .i64 0)) (R + 1) (rwF (by2 (hasB (d.data.toList.take (p + 1))) nob)) from (HTI.out.set r 0).congr (fun j hj => HST.out j hj))
          have hit3 : (wy.setCell ⟨R + 1, r, none⟩ (.int .i64 0)).heap[K2]? = some (.stringIter d (p + 1)) := by
            rw [heap_setCell_other wy _ _ _ (fun e => hKR e.symm)]
            exact hit2
          go_wp2
          refine ⟨⟨p + 1, by omega, hit3, HNT.out, HRI.out.other (by simp) _, hx1.setCell hwR _⟩, ?_⟩
          rw [HPW.out]
          simp only [World.iterPos, hit3]
          omega
        · have hnx := fun ty => Lib.run_next_end_at (P := Try.prog) wr K2 d p ty hit hlp
          have HT3 := Lib.hid (show TabR wr (R + 1) (rwF (by2 (hasB d.data.toList) (hasB (s.data.toList.take 0)))) by
            have h9 := HT2.out
            rw [List.take_of_length_le (by simp; omega)] at h9
            exact h9)
          have hit0 : (wr.iter s 0).heap[wr.heap.size]? = some (.stringIter s 0) := World.iter_heap _ _ _
          have T3 := Lib.hid (HT3.out.ext ((Ext.refl wr).alloc (.stringIter s 0)))
          have R3 := Lib.hid (HR2.out.ext ((Ext.refl wr).alloc (.stringIter s 0)))
          have hx0 : Ext w (wr.iter s 0) := hx2.alloc _
          have hKw : w.heap.size ≤ wr.heap.size := hx2.size
          go_wp2
          obtain ⟨K3, hK3⟩ : ∃ K3, K3 = wr.heap.size := ⟨_, rfl⟩
          rw [← hK3] at hit0 hKw ⊢
          clear hK3
          go_loopw [11] (fun _ wy => ∃ p : Nat, p ≤ s.size ∧ wy.heap[K3]? = some (.stringIter s p) ∧ (∀ q, q < p → hasB d.data.toList (sg s q) = false) ∧ TabR wy (R + 1) (rwF (by2 (hasB d.data.toList) (hasB (s.data.toList.take p)))) ∧ TabR wy R (fun _ => 0) ∧ Ext w wy) (fun _ wy => s.size - wy.iterPos K3)
          case atStart => exact ⟨0, Nat.zero_le _, hit0, fun q hq => absurd hq (by omega), T3.out, R3.out, hx0⟩
          case round =>
            obtain ⟨p, hp, hit, hno, hT4, hR4, hx4⟩ := hrel
            have HT4 := Lib.hid hT4
            have HR4 := Lib.hid hR4
            have HNO := Lib.hid hno
            clear hT4 hR4 hno
            by_cases hlp : p < s.size
            · have hb := sg_bd HS.out p hlp
              have hasc : (s[p]'hlp).toNat < 128 := by rw [sg_at s p hlp]; omega
              have hnx := fun ty => Lib.run_next_ascii_at (P := Try.prog) wr K3 s p ty hit hlp hasc
              have hit2 := Lib.iterAt_heap wr K3 s p (p + 1) hit
              have hx1 := ext_iter hx4 hKw s (p + 1)
              have HTI := Lib.hid (HT4.out.iterAt hit (p + 1))
              have HRI := Lib.hid (HR4.out.iterAt hit (p + 1))
              rw [show (s[p]'hlp).toNat = (sg s p).toNat by rw [sg_at s p hlp]] at hnx
              have HST := Lib.hid (fun hn => rowC_set (d := d) hlp hb hn)
              have HDN := Lib.hid (fun h => disj_no (d := d) hlp h)
              have HN1 := Lib.hid (fun (hn : hasB d.data.toList (sg s p) = false) => show ∀ q, q < p + 1 → hasB d.data.toList (sg s q) = false from fun q hq => by
                by_cases e : q = p
                · rw [e]; exact hn
                · exact HNO.out q (by omega))
              have HRF := Lib.hid (rwF_at (by2 (hasB d.data.toList) (hasB (s.data.toList.take p))) (sg s p) hb.1)
              obtain ⟨c, hc⟩ : ∃ c, c = sg s p := ⟨_, rfl⟩
              rw [← hc] at hnx hb HST HDN HN1 HRF
              obtain ⟨r, hr⟩ : ∃ r, r = c.toNat - 97 := ⟨_, rfl⟩
              rw [← hr] at HST HRF
              have hr26 : r < 26 := by omega
              have hri : (r : Int) < 26 := by omega
              have Wr : IntKind.i32.wrap ((c.toNat : Int) - 97) = (r : Int) := by simp only [IntKind.wrap_i32]; omega
              have HPW := Lib.hid (show wr.iterPos K3 = p by simp only [World.iterPos, hit])
              obtain ⟨wy, hwy⟩ : ∃ wy, wy = wr.iterAt K3 s (p + 1) := ⟨_, rfl⟩
              rw [← hwy] at hnx hit2 hx1 HTI HRI
              have cR := HTI.out.at r hr26
              have fR := HTI.out.fr r
              rw [HRF.out] at cR
              have hKR : ¬ (R + 1 = K3) := fun e => by
                have h9 := HTI.out
                unfold TabR at h9
                rw [e, hit2] at h9
                cases h9
              clear hc hr hwy hasc
              cases hdc : hasB d.data.toList c
              · obtain ⟨m, hm⟩ : ∃ m, m = by2 (hasB d.data.toList) (hasB (s.data.toList.take p)) c := ⟨_, rfl⟩
                have hm0 : ¬ m = 0 := by
                  rw [hm]
                  unfold by2
                  rw [hdc, if_neg (by simp)]
                  split <;> simp
                rw [← hm] at cR
                have hm1 : ¬ (m : Int) = 0 := by omega
                have hm2 : ((m : Int) == 0) = false := beq_eq_false_iff_ne.2 hm1
                have HNT := Lib.hid (show TabR (wy.setCell ⟨R + 1, r, none⟩ (.int .i64 2)) (R + 1) (rwF (by2 (hasB d.data.toList) (hasB (s.data.toList.take (p + 1))))) from (HTI.out.set r 2).congr (fun j hj => HST.out hdc j hj))
                have hit3 : (wy.setCell ⟨R + 1, r, none⟩ (.int .i64 2)).heap[K3]? = some (.stringIter s (p + 1)) := by
                  rw [heap_setCell_other wy _ _ _ (fun e => hKR e.symm)]
                  exact hit2
                have HN2 := Lib.hid (HN1.out hdc)
                clear hm hm0 hdc
                go_wp2
                refine ⟨⟨p + 1, by omega, hit3, HN2.out, HNT.out, HRI.out.other (by simp) _, hx1.setCell hwR _⟩, ?_⟩
                rw [HPW.out]
                simp only [World.iterPos, hit3]
                omega
              · have hv : by2 (hasB d.data.toList) (hasB (s.data.toList.take p)) c = 0 := by unfold by2; rw [hdc, if_pos rfl]
                rw [hv] at cR
                have cR0 : wy.cell? ⟨R + 1, r, none⟩ = some (.int .i64 0) := cR
                have HDF := Lib.hid (HDN.out hdc)
                have HN := Lib.hid (show (Try.prog.info? 36).map (·.size) = some (row26 fun _ => 0).toArray.size by rw [List.size_toArray, row26_len]; kernel_rfl)
                obtain ⟨W4, hst, hg4, X4⟩ := row26_store wy R (fun _ => 0) (fun _ => 0) HRI.out hx1 (by have := HRR.out; omega)
                have G4 := Lib.hid hg4
                have HTH := Lib.hid (show wy.there R 0 26 from fun j hj => by rw [Nat.zero_add]; exact ⟨by rw [HRI.out.at j hj]; rfl, HRI.out.fr j⟩)
                have HSC := Lib.hid (store_zero hst HTH.out)
                clear hst
                have HZ := Lib.hid (show row26 (swR d s) = row26 (fun _ => 0) from row26_congr (fun j _ => by unfold swR; rw [HDF.out]; rfl))
                clear hg4 hv cR hdc
                have HNZ := Lib.hid (show (Try.prog.info? 36).map (·.size) = some (#[.int .i64 0, .int .i64 0, .int .i64 0, .int .i64 0, .int .i64 0, .int .i64 0, .int .i64 0, .int .i64 0, .int .i64 0, .int .i64 0, .int .i64 0, .int .i64 0, .int .i64 0, .int .i64 0, .int .i64 0, .int .i64 0, .int .i64 0, .int .i64 0, .int .i64 0, .int .i64 0, .int .i64 0, .int .i64 0, .int .i64 0, .int .i64 0, .int .i64 0, .int .i64 0] : Array Value).size by kernel_rfl)
                go_wp2_with (first | (refine wpList_store_mid rfl 36 (.tmp 4) (.tmp 36) rfl R 0 #[.int .i64 0, .int .i64 0, .int .i64 0, .int .i64 0, .int .i64 0, .int .i64 0, .int .i64 0, .int .i64 0, .int .i64 0, .int .i64 0, .int .i64 0, .int .i64 0, .int .i64 0, .int .i64 0, .int .i64 0, .int .i64 0, .int .i64 0, .int .i64 0, .int .i64 0, .int .i64 0, .int .i64 0, .int .i64 0, .int .i64 0, .int .i64 0, .int .i64 0, .int .i64 0] rfl rfl HTH.out HNZ.out (by kernel_rfl) ?_; rw [HSC.out]))
                exact bodyPost_ret (results_cell2 (P := Try.prog) (p := 4) (u := 5) (ty := 36) rfl _ _ R 36 (row26 fun _ => 0).toArray (0, 0) _ rfl G4.out Try.underlying36 rfl HN.out) rfl ⟨by rw [HZ.out, HDF.out]; rfl, X4⟩
            · have hnx := fun ty => Lib.run_next_end_at (P := Try.prog) wr K3 s p ty hit hlp
              have HDY := Lib.hid (disj_yes (d := d) (s := s) (fun q hq => HNO.out q (by omega)))
              have HT5 := Lib.hid (show TabR wr (R + 1) (swR d s) by
                have h9 := HT4.out
                rw [List.take_of_length_le (by simp; omega)] at h9
                exact h9.congr (fun j _ => by unfold swR; rw [HDY.out]; rfl))
              have HN := Lib.hid (show (Try.prog.info? 36).map (·.size) = some (row26 (swR d s)).toArray.size by rw [List.size_toArray, row26_len]; kernel_rfl)
              have h26 : (row26 (swR d s)).length = 26 := row26_len _
              obtain ⟨W4, hst, hg4, X4⟩ := row26_store wr R (fun _ => 0) (swR d s) HR4.out hx4 (by have := HRR.out; omega)
              have G4 := Lib.hid hg4
              clear hg4
              go_wp2_with (first | (refine wpList_load_row rfl _ _ rfl (R + 1) rfl 36 (row26 (swR d s)).toArray (0, 0) _ HT5.out Try.underlying36 rfl HN.out ?_))
              exact bodyPost_ret (results_cell2 (P := Try.prog) (p := 4) (u := 5) (ty := 36) rfl _ _ R 36 (row26 (swR d s)).toArray (0, 0) _ rfl G4.out Try.underlying36 rfl HN.out) rfl ⟨by rw [HDY.out]; rfl, X4⟩
end Go.Proofs.Ytcfoicogaggkbaa
