/- The text of digits, by the program. No conditions. -/
import Derived.Test.YtpdnpphjlnlneaaGreatDoorNx
import Derived.Test.YtpdnpphjlnlneaaGreatDoorBldB
namespace Go.Proofs.YtpdnpphjlnlneaaGreatDoor
open Go.RowKit

theorem dig10 : ∀ k : Nat, k < 10 → (((⟨#[48, 49, 50, 51, 52, 53, 54, 55, 56, 57]⟩ : ByteArray).data.toList.getD k 0).toNat : Int) = (((48 + k).toUInt8).toNat : Int) := of_decide_eq_true (by kernel_rfl)
theorem ix10 (k : Nat) (hk : k < 10) (w : World) : (Instr.index 9 (.string ⟨#[48, 49, 50, 51, 52, 53, 54, 55, 56, 57]⟩) (.int .i64 (k : Int))).run Tryz.prog w = .ok (.int .u8 (((48 + k).toUInt8).toNat : Int)) w := by
  have h1 := ixS ⟨#[48, 49, 50, 51, 52, 53, 54, 55, 56, 57]⟩ k hk w
  have h2 := dig10 k hk
  rw [List.getD_eq_getElem?_getD, List.getElem?_eq_getElem (show k < (⟨#[48, 49, 50, 51, 52, 53, 54, 55, 56, 57]⟩ : ByteArray).data.toList.length from hk)] at h2
  rw [h1, ← h2]
  rfl

set_option maxHeartbeats 1000000 in
theorem digitsText_any (v : Value) (ps : List Nat) (w : World) (h : Ps w v ps) (hps : ∀ q ∈ ps, q < 10) (hl : ps.length ≤ 1000) : Calls Tryz.prog 112 #[v] w fun e w' => e = .returned (.string (dT ps)) ∧ Ext w w' := by
  have H := Lib.hid h
  have HP := Lib.hid hps
  have HF := Lib.hid (Lib.fresh_isBuilder 123 5 w)
  have X0 : Ext w (w.alloc (.cells #[.pointer none, .slice none 0 0] 123)) := Below.alloc (Ext.refl _) (Nat.le_refl _) _
  obtain ⟨a, cap, hv⟩ := h.at
  rw [hv] at H ⊢
  clear hv h hps
  go_enter Tryz.func112, Tryz.ntmps112
  go_wp2
  go_loopw [8] (fun i wr => ∃ k : Nat, k ≤ ps.length ∧ i = .int .i64 k ∧ Bld w.heap.size w.heap.size (dA (ps.take k)) wr ∧ Ext w wr) (fun i _ => ps.length - (intOf i).toNat)
  case atStart => exact ⟨0, Nat.zero_le _, rfl, HF.out, X0⟩
  case round =>
    obtain ⟨k, hk, rfl, hb, hx⟩ := hrel
    have HB := Lib.hid hb
    clear hb
    have hsz := hx.size
    by_cases hlt : k < ps.length
    · obtain ⟨b, off, ha, hb, hcell⟩ := (H.out.ext hx).get k hlt
      have hq : ps[k] < 10 := HP.out _ (List.getElem_mem hlt)
      have HS := Lib.hid (show dA (ps.take (k + 1)) = dA (ps.take k) ++ [(48 + ps[k]).toUInt8] by
        rw [List.take_succ_eq_append_getElem hlt, dA_snoc])
      have hlen : (dA (ps.take k)).length ≤ 1000000 := by
        unfold dA
        rw [List.length_map, List.length_take]; omega
      have hix := fun w => ix10 ps[k] hq w
      obtain ⟨c, hc⟩ : ∃ c, c = (48 + ps[k]).toUInt8 := ⟨_, rfl⟩
      rw [← hc] at HS hix
      subst ha
      clear hb hc
      go_wp2_with fail
      refine (writeB_any _ _ _ c _ _ HB.out rfl hlen hsz).mono ?_
      rintro e w2 ⟨rfl, h2, x2⟩
      have HB2 := Lib.hid h2
      clear h2
      go_wp2
      go_roundw
      case rel => exact ⟨k + 1, by omega, by go_num, by rw [HS.out]; exact HB2.out, Below.trans hx x2⟩
      case measure => simp [intOf]; omega
    · have HE := Lib.hid (show ps.take k = ps from List.take_of_length_le (by omega))
      go_wp2_with fail
      refine (string_any _ _ _ _ HB.out hsz).mono ?_
      rintro e w2 ⟨rfl, x2⟩
      go_wp2
      go_ret
      exact ⟨by rw [HE.out]; rfl, Below.trans hx x2⟩

end Go.Proofs.YtpdnpphjlnlneaaGreatDoor
