/- The text of values: signs of checks. No conditions. -/
import Derived.Test.YtdhcknknmloopaaNumP
import Derived.Test.YtdhcknknmloopaaByR
import Derived.Test.YtdhcknknmloopaaCkD
namespace Go.Proofs.Ytdhcknknmloopaa
open Go.RowKit

def nb (d : Nat) : UInt8 := (⟨#[48, 49, 50, 51, 52, 53, 54, 55, 56, 57, 88]⟩ : ByteArray).data.toList.getD d 0
def nT (ps : List Nat) : ByteArray := tB (ps.map nb)
theorem ix11 (k : Nat) (hk : k < 11) (w : World) : (Instr.index 9 (.string ⟨#[48, 49, 50, 51, 52, 53, 54, 55, 56, 57, 88]⟩) (.int .i64 (k : Int))).run Try.prog w = .ok (.int .u8 ((nb k).toNat : Int)) w := by
  have h1 := ixS ⟨#[48, 49, 50, 51, 52, 53, 54, 55, 56, 57, 88]⟩ k hk w
  rw [h1]
  unfold nb
  rw [List.getD_eq_getElem?_getD, List.getElem?_eq_getElem (show k < (⟨#[48, 49, 50, 51, 52, 53, 54, 55, 56, 57, 88]⟩ : ByteArray).data.toList.length from hk)]
  rfl

set_option maxRecDepth 100000 in
set_option maxHeartbeats 2000000 in
theorem numText_any (v : Value) (ps : List Nat) (w : World) (h : Ps w v ps) (hps : ∀ p ∈ ps, p ≤ 10) (hl : ps.length ≤ 100) : Calls Try.prog 72 #[v] w fun e w' => e = .returned (.string (nT ps)) ∧ Ext w w' := by
  have H := Lib.hid h
  have HQ := Lib.hid hps
  obtain ⟨i0, hi, hz0, hzs, hzb⟩ := infoB info_byB
  have HI := Lib.hid (show Try.prog.info? 5 = some i0 ∧ i0.zero = some (.int .u8 0) ∧ i0.size = 1 ∧ i0.bytes = 1 from ⟨hi, hz0, hzs, hzb⟩)
  obtain ⟨a, cap, hv⟩ := h.at
  rw [hv] at H ⊢
  clear hv h hi hz0 hzs hzb hps
  go_enter Try.func72, Try.ntmps72
  go_wp2_with (at_make; refine wpList_make_full _ rfl _ _ 84 rfl w.heap.size 5 i0 (.int .u8 0) 1 Try.underlying84 HI.out.1 HI.out.2.1 HI.out.2.2.1 .i64 .i64 _ _ ps.length rfl rfl rfl rfl (by rw [HI.out.2.2.2]; omega) (by unfold maxLen; omega) (Nat.le_refl _) ?_; intro w1 hown hgr; have X1 := Lib.hid (ext_grown (Ext.refl w) hgr (by intro k hk; cases hk)); obtain ⟨xs1, hxs1⟩ : ∃ xs, xs = (madeCells (Value.int .u8 0).cells (ps.length * 1)).toList := ⟨_, rfl⟩; rw [← hxs1] at hown; have HO1 := Lib.hid hown; clear hxs1 hgr hown)
  go_loopw [11] (fun i wr => ∃ k : Nat, k ≤ ps.length ∧ i = .int .i64 k ∧ ∃ xs : List Value, wr.ownsRow w.heap.size 5 1 (.slice (some ⟨w.heap.size, 0, none⟩) ps.length ps.length) ps.length xs ∧ (∀ j, j < k → xs[j]? = (bcs (ps.map nb))[j]?) ∧ Ext w wr) (fun i _ => ps.length - (intOf i).toNat)
  case atStart => exact ⟨0, Nat.zero_le _, rfl, xs1, HO1.out, fun j h => absurd h (by omega), X1.out⟩
  case round =>
    obtain ⟨k, hk, rfl, xs, hown, hxs, hx⟩ := hrel
    have HO := Lib.hid hown
    have HX := Lib.hid hxs
    clear hown hxs
    by_cases hlt : k < ps.length
    · have hlen : xs.length = ps.length := by have := HO.out.1; omega
      obtain ⟨u, hu⟩ : ∃ u, xs[k]? = some u := ⟨xs[k]'(by omega), List.getElem?_eq_getElem _⟩
      have hc3 := (HO.out.cellAt k (by omega)).trans hu
      have hf3 := HO.out.frozenAt k
      clear hu hlen
      obtain ⟨b, off, ha, hb, hcell⟩ := (H.out.ext hx).get k hlt
      have HB := Lib.hid (show (bcs (ps.map nb))[k]? = some (.int .u8 ((nb ps[k]).toNat : Int)) by unfold bcs; simp [hlt])
      have hq := HQ.out ps[k] (List.getElem_mem hlt)
      generalize ps[k] = z at hcell HB hq
      have hix := fun w => ix11 z (by omega) w
      generalize nb z = c at hix HB
      have hi2 : (k : Int) < (ps.length : Int) := by omega
      clear hb
      subst ha
      go_wp2
      go_roundw
      case rel =>
        refine ⟨k + 1, by omega, by go_num, xs.set k (.int .u8 (c.toNat : Int)), (HO.out.stored k _).1, ?_, hx.setCell (Nat.le_refl _) _⟩
        intro j hj
        by_cases e : j = k
        · subst e
          rw [List.getElem?_set_self (by have := HO.out.1; omega), HB.out]
        · rw [List.getElem?_set_ne (by omega)]
          exact HX.out j (by omega)
      case measure => simp [intOf]; omega
    · have e : xs = bcs (ps.map nb) := by
        apply List.ext_getElem?
        intro j
        by_cases hj : j < ps.length
        · exact HX.out j (by omega)
        · rw [List.getElem?_eq_none (by have := HO.out.1; omega), List.getElem?_eq_none (by rw [bcs_len, List.length_map]; omega)]
      rw [e] at HO
      have hcv := convB (B := w.heap.size) (w := wr) (v := .slice (some ⟨w.heap.size, 0, none⟩) ps.length ps.length) (l := ps.map nb) (by unfold RowB; rw [List.length_map]; exact HO.out)
      have HN := Lib.hid (show (⟨(ps.map nb).toArray⟩ : ByteArray) = nT ps from rfl)
      rw [HN.out] at hcv
      clear e HX xs
      go_wp2
      go_ret
      exact ⟨rfl, hx⟩
end Go.Proofs.Ytdhcknknmloopaa
