/- The text of a digit, by the model. No conditions. -/
import Derived.Test.YtpdnpphjlnlneaaGreatDoorWk
import Derived.Lib.Strings
namespace Go.Proofs.YtpdnpphjlnlneaaGreatDoor
open Go.RowKit

def dg1T (d : Nat) : ByteArray := ⟨#[(48 + d).toUInt8]⟩
theorem digBn : ∀ d : Nat, d < 10 → (((48 + d).toUInt8).toNat : Int) = 48 + (d : Int) := of_decide_eq_true (by kernel_rfl)
theorem l1NumD_any (d : Nat) (w : World) (hd : d < 10) : Calls Tryz.prog 109 #[.int .i64 d] w fun e w' => e = .returned (.string (dg1T d)) ∧ Ext w w' := by
  have W1 : IntKind.u8.wrap (48 + (d : Int)) = 48 + (d : Int) := IntWalk.u8_in _ (by omega)
  have hlt : (d : Int) < 10 := by omega
  have hconv : (convert 77 9 (.slice (some ⟨w.heap.size, 0, none⟩) 1 1)).run Tryz.prog (w.alloc (.cells #[.int .u8 (48 + (d : Int))] 5)) = .ok (.string (dg1T d)) (w.alloc (.cells #[.int .u8 (48 + (d : Int))] 5)) := by
    refine run_convert_bytes_back (P := Tryz.prog) _ 77 9 5 ⟨w.heap.size, 0, none⟩ 1 [(48 + d).toUInt8] Tryz.underlying77 Tryz.underlying5 Tryz.underlying9 (fun j hj => ?_)
    have hj0 : j = 0 := by simpa using hj
    subst hj0
    simp only [List.getElem_cons_zero, digBn d hd]
    simp [Addr.add]
  obtain ⟨T, hT⟩ : ∃ T, T = dg1T d := ⟨_, rfl⟩
  rw [← hT] at hconv ⊢
  clear hT
  go_enter Tryz.func109, Tryz.ntmps109
  go_wp2
  go_ret
  exact ⟨rfl, (Ext.refl _).alloc _⟩
end Go.Proofs.YtpdnpphjlnlneaaGreatDoor
