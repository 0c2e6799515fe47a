/- Pairs of digits that doubling misses: the model's list, and the program's. No conditions. -/
import Derived.Test.YtdhcknknmloopaaPrI
namespace Go.Proofs.Ytdhcknknmloopaa
open Go.RowKit

theorem sgB_size {d : Nat} (h : d < 10) : (sgB d).size = 1 := (of_decide_eq_true (by kernel_rfl) : ∀ d : Nat, d < 10 → (sgB d).size = 1) d h
theorem slSg1 (d : Nat) (h : d < 11) (w : World) : (Instr.slice 9 (.string ⟨#[48, 49, 50, 51, 52, 53, 54, 55, 56, 57, 88]⟩) (some (.int .i64 (d : Int))) (some (.int .i64 ((d : Int) + 1))) none).run Try.prog w = .ok (.string (sgB d)) w := slSg d (d + 1) h rfl w
theorem two_all : ∀ a : Nat, a < 10 → ∀ b : Nat, b < 10 → isWk (sgB a ++ sgB b) = true := of_decide_eq_true (by kernel_rfl)
theorem two_wk (a b : Nat) (ha : a < 10) (hb : b < 10) : isWk (sgB a ++ sgB b) = true := two_all a ha b hb
theorem two_le (a b : Nat) (ha : a < 10) (hb : b < 10) : fs (sgB a ++ sgB b) (sgB a ++ sgB b).size ≤ 720 := by
  have h := two_wk a b ha hb
  have h1 := fs_le h _ (Nat.le_refl _)
  have h2 := isWk_size h
  omega
def pX (a b : Nat) : Bool := decide (((fs (sgB a ++ sgB b) (sgB a ++ sgB b).size : Int) - (fs (sgB b ++ sgB a) (sgB b ++ sgB a).size : Int)) % 10 = 0)
theorem pXD_all : ∀ a : Nat, a < 10 → ∀ b : Nat, b < 10 → pX a b = pD a b := of_decide_eq_true (by kernel_rfl)
theorem prs_XD : prs pX = prs pD := prs_congr fun a b hab hb => pXD_all a (by omega) b hb

set_option maxRecDepth 100000 in
set_option maxHeartbeats 2000000 in
theorem sDM_any (w : World) : Calls Try.prog 34 #[] w (OneII (prs pX) w) := by
  obtain ⟨i0, hi, hz0, hzs, hzb⟩ := info_parts3 info_li
  have HI := Lib.hid (show Try.prog.info? 22 = some i0 ∧ i0.zero = some (.slice none 0 0) ∧ i0.size = 1 ∧ i0.bytes = 24 from ⟨hi, hz0, hzs, hzb⟩)
  clear hi hz0 hzs hzb
  obtain ⟨P, hP⟩ : ∃ P, P = pX := ⟨_, rfl⟩
  have HP := Lib.hid hP
  rw [← hP]
  clear hP
  have HL := Lib.hid (prs_len P)
  obtain ⟨L0, hL0⟩ : ∃ L, L = prs P := ⟨_, rfl⟩
  have HL0 := Lib.hid hL0
  rw [← hL0]
  clear hL0
  go_enter Try.func34, Try.ntmps34
  go_wp2
  go_loopw [1, 2] (fun o i wr => ∃ a : Nat, a ≤ 10 ∧ i = .int .i64 a ∧ (∃ U, RowF w.heap.size wr o (prA P a).length U (tl (prA P a))) ∧ Ext w wr) (fun _ i _ => 10 - (intOf i).toNat)
  case atStart => exact ⟨0, by decide, rfl, ⟨fun _ => .slice none 0 0, RowF.nil _ _ _ _⟩, Ext.refl _⟩
  case round =>
    obtain ⟨a, ha, rfl, ⟨U, hown⟩, hx⟩ := hrel
    have HO := Lib.hid hown
    clear hown
    obtain ⟨wo, rfl⟩ : ∃ wo, wo = wr := ⟨_, rfl⟩
    by_cases hlt : a < 10
    · have h9 : (a : Int) < 10 := by omega
      go_wp2
      clear h9
      go_loopw [1, 3] (fun o i wr => ∃ k : Nat, k + a ≤ 9 ∧ i = .int .i64 ((a + 1 + k : Nat) : Int) ∧ (∃ U, RowF w.heap.size wr o (prA P a ++ prR P a k).length U (tl (prA P a ++ prR P a k))) ∧ Ext w wr) (fun _ i _ => 10 - (intOf i).toNat)
      case atStart => exact ⟨0, by omega, by go_num, ⟨U, by rw [prR, List.append_nil]; exact HO.out⟩, hx⟩
      case round =>
        obtain ⟨k, hk, rfl, ⟨U2, hown2⟩, hx2⟩ := hrel
        have HO2 := Lib.hid hown2
        clear hown2
        have hll : (prA P a ++ prR P a k).length ≤ 1000 := by
          rw [List.length_append]
          have := prA_len P a
          have := prR_len P a k
          omega
        by_cases hlt2 : a + 1 + k < 10
        · have h9 : ((a + 1 + k : Nat) : Int) < 10 := by omega
          have HY := Lib.hid (fun h => prR_yes (P := P) (a := a) (k := k) h)
          have HN := Lib.hid (fun h => prR_no (P := P) (a := a) (k := k) h)
          obtain ⟨b, hb⟩ : ∃ b, b = a + 1 + k := ⟨_, rfl⟩
          rw [← hb] at HY HN h9 ⊢
          have HB := Lib.hid hb
          have hab : a < b := by omega
          obtain ⟨L, hL⟩ : ∃ L, L = prA P a ++ prR P a k := ⟨_, rfl⟩
          rw [← hL] at HO2 hll
          have HLL := Lib.hid hL
          clear hb hL hlt2 hk HO hlt
          have ha10 : a < 10 := by omega
          have hb10 : b < 10 := by omega
          have s1 : ∀ w, (Instr.slice 9 (.string ⟨#[48, 49, 50, 51, 52, 53, 54, 55, 56, 57, 88]⟩) (some (.int .i64 (a : Int))) (some (.int .i64 ((a : Int) + 1))) none).run Try.prog w = .ok (.string (sgB a)) w := fun w => slSg1 a (by omega) w
          have s2 : ∀ w, (Instr.slice 9 (.string ⟨#[48, 49, 50, 51, 52, 53, 54, 55, 56, 57, 88]⟩) (some (.int .i64 (b : Int))) (some (.int .i64 ((b : Int) + 1))) none).run Try.prog w = .ok (.string (sgB b)) w := fun w => slSg1 b (by omega) w
          have z1 := sgB_size ha10
          have z2 := sgB_size hb10
          have HX1 := Lib.hid (fun w => ckDbl_any (sgB a ++ sgB b) w (two_wk a b ha10 hb10))
          have HX2 := Lib.hid (fun w => ckDbl_any (sgB b ++ sgB a) w (two_wk b a hb10 ha10))
          have HPP := Lib.hid (show P a b = decide (((fs (sgB a ++ sgB b) (sgB a ++ sgB b).size : Int) - (fs (sgB b ++ sgB a) (sgB b ++ sgB a).size : Int)) % 10 = 0) by rw [HP.out]; rfl)
          have bx := two_le a b ha10 hb10
          have by_ := two_le b a hb10 ha10
          obtain ⟨A, hA⟩ : ∃ A, A = sgB a := ⟨_, rfl⟩
          obtain ⟨B, hB⟩ : ∃ B, B = sgB b := ⟨_, rfl⟩
          rw [← hA] at s1 z1 HX1 HX2 HPP bx by_
          rw [← hB] at s2 z2 HX1 HX2 HPP bx by_
          obtain ⟨x, hx'⟩ : ∃ x, x = fs (A ++ B) (A ++ B).size := ⟨_, rfl⟩
          obtain ⟨y, hy'⟩ : ∃ y, y = fs (B ++ A) (B ++ A).size := ⟨_, rfl⟩
          rw [← hx'] at HX1 HPP bx
          rw [← hy'] at HX2 HPP by_
          have hq := tmod0 (y := (x : Int) - (y : Int)) (m := 10) (by decide)
          rw [← HPP.out] at hq
          have wxy : IntKind.i64.wrap ((x : Int) - (y : Int)) = (x : Int) - (y : Int) := by simp only [IntKind.wrap_i64]; omega
          clear hA hB hx' hy' ha10 hb10
          have HSZ := Lib.hid (show L.length + 1 ≤ maxLen ∧ (L.length + 1) * 24 ≤ 140737488355328 ∧ ∀ A B, w.heap.size ≤ ((wr.alloc A).alloc B).heap.size from ⟨by unfold maxLen; omega, by omega, fun A B => Nat.le_trans hx2.size (by simp; omega)⟩)
          have HKB := Lib.hid (show k + 1 + a ≤ 9 ∧ (b : Int) + 1 = ((a + 1 + (k + 1) : Nat) : Int) ∧ b < 10 from by have := HB.out; omega)
          cases hz : P a b
          rotate_left
          · have HV := Lib.hid (HY.out hz)
            rw [hz] at hq
            clear hz
            go_wp2
            go_region
            go_wp2
            go_region
            obtain ⟨w3, hw3⟩ : ∃ w3, w3 = wr.drew.drew := ⟨_, rfl⟩
            have x3 : Ext wr w3 := by rw [hw3]; exact (Ext.refl wr).drew.drew
            rw [← hw3]
            clear hw3
            have O3 := Lib.hid (HO2.out.ext x3)
            have X3 := hx2.trans x3
            have S3 := Lib.hid (fun A B => Nat.le_trans x3.size (Nat.le_trans (Nat.le_of_eq rfl) (show w3.heap.size ≤ ((w3.alloc A).alloc B).heap.size by simp; omega)))
            go_wp2_with (first | (go_at_call_of 65 (Value.string (A ++ B)); refine (HX1.out _).mono ?_; rintro e w' ⟨rfl, rfl⟩) | (go_at_call_of 65 (Value.string (B ++ A)); refine (HX2.out _).mono ?_; rintro e w' ⟨rfl, rfl⟩) | (at_builtin; refine wpList_append_own _ rfl _ _ 36 rfl w.heap.size 22 i0 (.slice none 0 0) 1 24 Try.underlying36 HI.out.1 HI.out.2.1 HI.out.2.2.1 HI.out.2.2.2 rfl (by decide) _ _ _ rfl (World.ownsRow.alloc (World.ownsRow.alloc O3.out.1 _) _) ⟨w3.heap.size + 1, 0, none⟩ 1 1 [.slice (some ⟨w3.heap.size, 0, none⟩) 2 2] rfl rfl (cell_two_new _ _ _ _) (oneV2 rfl) HSZ.out.1 HSZ.out.2.1 (Nat.le_trans hx2.size (S3.out _ _)) ?_; intro v5 w5 own5 gr5 _))
            have X5 : Ext w w5 := ext_grown ((X3.alloc _).alloc _) gr5 (fun j hj => (World.ownsRow.lt HO2.out.1 j hj).1)
            have RN := Lib.hid (show ∃ U, RowF w.heap.size w5 v5 (prA P a ++ prR P a (k + 1)).length U (tl (prA P a ++ prR P a (k + 1))) from ⟨_, grow_rowI O3.out ((Ext.refl w3).alloc _) (pair_row w3 a b _ (Nat.le_refl _)) (pair_row w3 a b _ X3.size) own5 gr5 (by rw [HV.out, HLL.out, List.append_assoc])⟩)
            clear own5 gr5
            exact ⟨⟨k + 1, HKB.out.1, by rw [HKB.out.2.1], RN.out, X5⟩, by have := HKB.out.2.2; simp [intOf]; omega⟩
          · have HV := Lib.hid (HN.out hz)
            rw [hz] at hq
            clear hz
            go_wp2
            go_region
            go_wp2
            go_region
            obtain ⟨w3, hw3⟩ : ∃ w3, w3 = wr.drew.drew := ⟨_, rfl⟩
            have x3 : Ext wr w3 := by rw [hw3]; exact (Ext.refl wr).drew.drew
            rw [← hw3]
            clear hw3
            have O3 := Lib.hid (HO2.out.ext x3)
            have X3 := hx2.trans x3
            have S3 := Lib.hid (fun A B => Nat.le_trans x3.size (Nat.le_trans (Nat.le_of_eq rfl) (show w3.heap.size ≤ ((w3.alloc A).alloc B).heap.size by simp; omega)))
            go_wp2_with (first | (go_at_call_of 65 (Value.string (A ++ B)); refine (HX1.out _).mono ?_; rintro e w' ⟨rfl, rfl⟩) | (go_at_call_of 65 (Value.string (B ++ A)); refine (HX2.out _).mono ?_; rintro e w' ⟨rfl, rfl⟩))
            go_roundw
            case rel => exact ⟨k + 1, HKB.out.1, by rw [HKB.out.2.1], ⟨U2, by rw [HV.out, ← HLL.out]; exact O3.out⟩, X3⟩
            case measure => have := HKB.out.2.2; simp [intOf]; omega
        · have h9 : ¬ ((a + 1 + k : Nat) : Int) < 10 := by omega
          have hk9 : k = 9 - a := by omega
          have HV := Lib.hid (show prA P (a + 1) = prA P a ++ prR P a k by rw [prA, hk9])
          obtain ⟨b, hb⟩ : ∃ b, b = a + 1 + k := ⟨_, rfl⟩
          rw [← hb] at h9 ⊢
          clear hb hlt2 hk9 HO
          go_wp2
          exact ⟨⟨a + 1, by omega, by go_num, ⟨U2, by rw [HV.out]; exact HO2.out⟩, hx2⟩, by simp [intOf]; omega⟩
    · obtain rfl : a = 10 := by omega
      go_wp2
      go_ret
      exact ⟨_, U, rfl, by rw [HL0.out]; exact HO.out, hx⟩

theorem iDM_any (w : World) : Calls Try.prog 35 #[] w (OneII (prs pX) w) := by
  rw [prs_XD]
  have H := Lib.hid (dpD_any pD w (fun a b w' _ hab hb => dmC_any a b w' hab hb))
  obtain ⟨L, hL⟩ : ∃ L, L = prs pD := ⟨_, rfl⟩
  rw [← hL] at H ⊢
  clear hL
  go_enter Try.func35, Try.ntmps35
  go_wp2_with (go_at_call 66; refine H.out.mono ?_; rintro e w1 ⟨v, U, rfl, hr, x1⟩)
  go_ret
  exact ⟨_, U, rfl, hr, x1⟩
end Go.Proofs.Ytdhcknknmloopaa
