/- The model's numbers below fourteen as texts. No conditions. -/
import Derived.Test.YthooedmlnonadaaDoorItoa
import Derived.Deep.RegionWith
namespace Go.Proofs.YthooedmlnonadaaDoor
open Go.RowKit

set_option maxHeartbeats 1000000 in
theorem l1NumT_any (n : Nat) (w : World) (h : n < 14) : Calls Tryd.prog 45 #[.int .i64 n] w fun e w' => e = .returned (.string (numT n)) ∧ Ext w w' := by
  by_cases hlt : n < 10
  · rw [numT_lo hlt]; exact l1NumD_any n w hlt
  have HT := Lib.hid (numT_hi hlt)
  obtain ⟨q, hq⟩ : ∃ q, q = n / 10 := ⟨_, rfl⟩
  obtain ⟨r, hr⟩ : ∃ r, r = n % 10 := ⟨_, rfl⟩
  have hr10 : r < 10 := by omega
  have hq10 : q < 10 := by omega
  have q1 : Int.tdiv (n : Int) 10 = (q : Int) := by rw [Int.tdiv_eq_ediv_of_nonneg (by omega)]; omega
  have q2 : Int.tmod (n : Int) 10 = (r : Int) := by rw [Int.tmod_eq_emod_of_nonneg (by omega)]; omega
  have Wq : IntKind.i64.wrap (q : Int) = (q : Int) := by simp only [IntKind.wrap_i64]; omega
  have Wr : IntKind.i64.wrap (48 + (r : Int)) = 48 + (r : Int) := by simp only [IntKind.wrap_i64]; omega
  have W1 : IntKind.u8.wrap (48 + (r : Int)) = 48 + (r : Int) := IntWalk.u8_in _ (by omega)
  have hni : ¬ (n : Int) < 10 := by omega
  have HQ := Lib.hid (fun w => l1NumD_any q w hq10)
  rw [← hq, ← hr] at HT
  have hcv : ∀ (w' : World) (g : Nat), w'.cell? ⟨g, 0, none⟩ = some (.int .u8 (48 + (r : Int))) → (convert 56 9 (.slice (some ⟨g, 0, none⟩) 1 1)).run Tryd.prog w' = .ok (.string (dg1T r)) w' := fun w' g hc => by
    refine run_convert_bytes_back (P := Tryd.prog) _ 56 9 5 ⟨g, 0, none⟩ 1 [(48 + r).toUInt8] Tryd.underlying56 Tryd.underlying5 Tryd.underlying9 (fun j hj => ?_)
    have hj0 : j = 0 := by simpa using hj
    subst hj0
    simp only [List.getElem_cons_zero, digBn r hr10]
    simpa [Addr.add] using hc
  obtain ⟨D, hD⟩ : ∃ D, D = dg1T q := ⟨_, rfl⟩
  obtain ⟨E, hE⟩ : ∃ E, E = dg1T r := ⟨_, rfl⟩
  have hDs : D.size = 1 := by rw [hD]; rfl
  have hEs : E.size = 1 := by rw [hE]; rfl
  rw [← hD, ← hE] at HT
  simp only [← hD] at HQ
  simp only [← hE] at hcv
  have hsz : ¬ (9223372036854775807 : Int) < (D.size : Int) + (E.size : Int) := by omega
  clear hq hr hD hE hlt
  go_enter Tryd.func45, Tryd.ntmps45
  go_wp2
  go_region_with (go_at_call 45; refine (HQ.out _).mono ?_; rintro e w1 ⟨rfl, x1⟩; try (have hc9 := (x1.cell (p := ⟨w.heap.size, 0, none⟩) (by simp)).trans (cell1 (heap_alloc_new w _)).1))
  all_goals go_wp2
  all_goals go_ret
  all_goals refine ⟨ret_n (by rw [HT.out]), ?_⟩
  all_goals first | exact Ext.trans (Ext.refl _).drew (x1.alloc _) | exact Ext.trans ((Ext.refl _).alloc _).drew x1
end Go.Proofs.YthooedmlnonadaaDoor
