/- Hits and near ones of two pins: both sides. No conditions. -/
import Derived.Test.YtmpajijnpoekgaaHitI
import Derived.Test.YtmpajijnpoekgaaHitS
namespace Go.Proofs.Ytmpajijnpoekgaa
open Go.RowKit

set_option maxHeartbeats 1000000 in
theorem hoI_any (s t : ByteArray) (w : World) (hs : s.size ≤ maxLen) (ht : t.size ≤ maxLen) : Calls Try.prog 30 #[.string s, .string t] w fun e w' => e = .returned (.tuple #[.int .i64 (hoH s t), .int .i64 (hoN s t), .bool (evB s t)]) ∧ Ext w w' := by
  cases h : evB s t
  · have HV := Lib.hid (ho_no h)
    go_enter Try.func30, Try.ntmps30
    go_wp2_with (go_at_call 64; refine (even_any _ _ _ hs ht).mono ?_; rintro e w' ⟨rfl, rfl⟩; rw [h])
    go_ret3
    exact ⟨ret_IIB HV.out.1.symm HV.out.2.symm rfl, Ext.refl _⟩
  have HV := Lib.hid (ho_yes h)
  have HT := Lib.hid (fun w => told_any s t w h)
  obtain ⟨H, hH⟩ : ∃ H, H = hitK s t s.size := ⟨_, rfl⟩
  obtain ⟨N, hN⟩ : ∃ N, N = nrK s t 10 := ⟨_, rfl⟩
  rw [← hH, ← hN] at HT HV
  clear hH hN
  go_enter Try.func30, Try.ntmps30
  go_wp2_with (go_at_call 64; refine (even_any _ _ _ hs ht).mono ?_; rintro e w' ⟨rfl, rfl⟩; rw [h])
  refine (HT.out _).mono ?_
  rintro e w2 ⟨rfl, x2⟩
  go_wp2
  go_region
  all_goals go_wp2
  all_goals go_ret3
  all_goals exact ⟨ret_IIB HV.out.1.symm HV.out.2.symm rfl, by first | exact x2.alloc _ | exact ext_drewN (x2.alloc _) _ | exact (x2.alloc _).drew⟩

set_option maxHeartbeats 1000000 in
theorem hoS_any (s t : ByteArray) (w : World) (hs : s.size ≤ maxLen) (ht : t.size ≤ maxLen) : Calls Try.prog 29 #[.string s, .string t] w fun e w' => e = .returned (.tuple #[.int .i64 (hoH s t), .int .i64 (hoN s t), .bool (evB s t)]) ∧ Ext w w' := by
  have hs2 := hs
  have ht2 := ht
  unfold maxLen at hs2 ht2
  cases h1 : pinB s
  · have HG := Lib.hid (evB_a (b := t) h1)
    have HV := Lib.hid (ho_no HG.out)
    go_enter Try.func29, Try.ntmps29
    go_wp2_with (go_at_call 61; refine (piPin_any _ _ (by assumption)).mono ?_; rintro e w' ⟨rfl, rfl⟩; rw [h1])
    go_ret3
    exact ⟨ret_IIB HV.out.1.symm HV.out.2.symm HG.out.symm, Ext.refl _⟩
  cases h2 : pinB t
  · have HG := Lib.hid (evB_b (a := s) h2)
    have HV := Lib.hid (ho_no HG.out)
    go_enter Try.func29, Try.ntmps29
    go_wp2_with (go_at_call 61; refine (piPin_any _ _ (by assumption)).mono ?_; rintro e w' ⟨rfl, rfl⟩; first | rw [h1] | rw [h2])
    go_ret3
    exact ⟨ret_IIB HV.out.1.symm HV.out.2.symm HG.out.symm, Ext.refl _⟩
  by_cases h3 : ¬ s.size = t.size
  · have HG := Lib.hid (evB_n h3)
    have HV := Lib.hid (ho_no HG.out)
    have hb : ((s.size : Int) == (t.size : Int)) = false := by simp; omega
    have hn : ¬ (s.size : Int) = (t.size : Int) := by omega
    clear h3
    go_enter Try.func29, Try.ntmps29
    go_wp2_with (go_at_call 61; refine (piPin_any _ _ (by assumption)).mono ?_; rintro e w' ⟨rfl, rfl⟩; first | rw [h1] | rw [h2])
    go_ret3
    exact ⟨ret_IIB HV.out.1.symm HV.out.2.symm HG.out.symm, Ext.refl _⟩
  replace h3 : s.size = t.size := Decidable.not_not.1 h3
  have hG : evB s t = true := by unfold evB; rw [h1, h2, decide_eq_true h3]; rfl
  have HG := Lib.hid hG
  have HV := Lib.hid (ho_yes hG)
  have HT := Lib.hid (fun w => piHits_any s t w hG)
  have hnb : ((s.size : Int) != (t.size : Int)) = false := by simp [h3]
  have hb : ((s.size : Int) == (t.size : Int)) = true := by simp [h3]
  have H1 := Lib.hid h1
  have H2 := Lib.hid h2
  obtain ⟨H, hH⟩ : ∃ H, H = hitK s t s.size := ⟨_, rfl⟩
  obtain ⟨N, hN⟩ : ∃ N, N = nrK s t 10 := ⟨_, rfl⟩
  rw [← hH, ← hN] at HT HV
  clear hH hN h1 h2 h3 hG
  go_enter Try.func29, Try.ntmps29
  go_wp2_with (go_at_call 61; refine (piPin_any _ _ (by assumption)).mono ?_; rintro e w' ⟨rfl, rfl⟩; first | rw [H1.out] | rw [H2.out])
  refine (HT.out _).mono ?_
  rintro e w2 ⟨rfl, x2⟩
  go_wp2
  go_ret3
  exact ⟨ret_IIB HV.out.1.symm HV.out.2.symm HG.out.symm, x2⟩
end Go.Proofs.Ytmpajijnpoekgaa
