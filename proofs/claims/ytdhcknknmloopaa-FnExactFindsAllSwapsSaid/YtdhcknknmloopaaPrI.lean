/- Pairs of digits that are missed: the program's list of them. No conditions. -/
import Derived.Test.YtdhcknknmloopaaPrs
import Derived.Test.YtdhcknknmloopaaCkD
namespace Go.Proofs.Ytdhcknknmloopaa
open Go.RowKit

theorem tmod0 {y m : Int} (_h : 0 < m) : (Int.tmod y m == 0) = decide (y % m = 0) := by
  rw [show (Int.tmod y m == 0) = decide (Int.tmod y m = 0) from rfl]
  refine decide_eq_decide.2 ⟨fun h => Int.emod_eq_zero_of_dvd (Int.dvd_of_tmod_eq_zero h), fun h => Int.tmod_eq_zero_of_dvd (Int.dvd_of_emod_eq_zero h)⟩
def pD (a b : Nat) : Bool := decide (((dd a : Int) + (b : Int) - (dd b : Int) - (a : Int)) % 10 = 0)

theorem dmC_any (a b : Nat) (w : World) (hab : a < b) (hb : b < 10) : Calls Try.prog 67 #[.int .i64 (a : Int), .int .i64 (b : Int)] w fun e w' => e = .returned (.bool (pD a b)) ∧ Ext w w' := by
  have ha10 : a < 10 := by omega
  have HDA := Lib.hid (fun w => dbl_any a w ha10)
  have HDB := Lib.hid (fun w => dbl_any b w hb)
  have d1 := dd_le ha10
  have d2 := dd_le hb
  have HV := Lib.hid (show pD a b = decide (((dd a : Int) + (b : Int) - (dd b : Int) - (a : Int)) % 10 = 0) from rfl)
  obtain ⟨x, hx⟩ : ∃ x, x = dd a := ⟨_, rfl⟩
  obtain ⟨y, hy⟩ : ∃ y, y = dd b := ⟨_, rfl⟩
  rw [← hx] at HDA HV d1
  rw [← hy] at HDB HV d2
  obtain ⟨q, hq⟩ : ∃ q, q = (x : Int) + (b : Int) - (y : Int) - (a : Int) := ⟨_, rfl⟩
  have HQ := Lib.hid (show (Int.tmod ((x : Int) + (b : Int) - (y : Int) - (a : Int)) 10 == 0) = pD a b by rw [HV.out]; exact tmod0 (by decide))
  clear hx hy hq
  obtain ⟨r, hr⟩ : ∃ r, r = pD a b := ⟨_, rfl⟩
  rw [← hr] at HQ ⊢
  clear hr HV
  have hq2 := HQ.out
  go_enter Try.func67, Try.ntmps67
  go_wp2_with (first | (go_at_call_of 68 (Value.int .i64 (a : Int)); refine (HDA.out _).mono ?_; rintro e w6 ⟨rfl, rfl⟩) | (go_at_call_of 68 (Value.int .i64 (b : Int)); refine (HDB.out _).mono ?_; rintro e w6 ⟨rfl, rfl⟩))
  go_ret
  exact ⟨rfl, Ext.refl _⟩

theorem pmC_any (m t : Int) (C D a b : Nat) (w : World) (hC : w.cell? ⟨C, 0, none⟩ = some (.int .i64 m)) (hD : w.cell? ⟨D, 0, none⟩ = some (.int .i64 t)) (hm : 2 ≤ m ∧ m ≤ 13) (ht : -13 ≤ t ∧ t ≤ 13) (hab : a < b) (hb : b < 10) : Calls Try.prog 92 #[.int .i64 (a : Int), .int .i64 (b : Int), .pointer (some ⟨D, 0, none⟩), .pointer (some ⟨C, 0, none⟩)] w fun e w' => e = .returned (.bool (pM m t a b)) ∧ Ext w w' := by
  have HV := Lib.hid (show pM m t a b = decide (((b : Int) - (a : Int)) * t % m = 0) from rfl)
  obtain ⟨d, hd⟩ : ∃ d, d = (b : Int) - (a : Int) := ⟨_, rfl⟩
  have hd9 : 1 ≤ d ∧ d ≤ 9 := by omega
  rw [← hd] at HV
  have hdd : (b : Int) - (a : Int) = d := hd.symm
  have wd : IntKind.i64.wrap d = d := by simp only [IntKind.wrap_i64]; omega
  have hy1 : -117 ≤ d * t ∧ d * t ≤ 117 := by
    by_cases h0 : 0 ≤ t
    · have := mul_bd9 (a := d) (b := t) (by omega) hd9.2 h0 ht.2
      omega
    · have := mul_bd9 (a := d) (b := -t) (by omega) hd9.2 (by omega) (by omega)
      rw [Int.mul_neg] at this
      omega
  obtain ⟨y, hy⟩ : ∃ y, y = d * t := ⟨_, rfl⟩
  rw [← hy] at HV hy1
  have hdt : d * t = y := hy.symm
  have wy : IntKind.i64.wrap y = y := by simp only [IntKind.wrap_i64]; omega
  have hm0 : ¬ m = 0 := by omega
  have hq := tmod0 (y := y) (m := m) (by omega)
  rw [← HV.out] at hq
  obtain ⟨r, hr⟩ : ∃ r, r = pM m t a b := ⟨_, rfl⟩
  rw [← hr] at hq ⊢
  have wq : IntKind.i64.wrap (Int.tmod y m) = Int.tmod y m := by
    have h1 := Int.tmod_lt_of_pos y (show 0 < m by omega)
    have h2 := Int.lt_tmod_of_pos y (show 0 < m by omega)
    simp only [IntKind.wrap_i64]; omega
  clear hd hy hr HV ht hd9
  go_enter Try.func92, Try.ntmps92
  go_wp2
  go_ret
  exact ⟨rfl, Ext.refl _⟩

set_option maxRecDepth 100000 in
set_option maxHeartbeats 2000000 in
theorem dpD_any (P : Nat → Nat → Bool)  (w : World) (hcl : ∀ (a b : Nat) (w' : World), Ext w w' → a < b → b < 10 → Calls Try.prog 67 #[.int .i64 (a : Int), .int .i64 (b : Int)] w' fun e w2 => e = .returned (.bool (P a b)) ∧ Ext w' w2) : Calls Try.prog 66 #[.func (.func 67) #[] #[]] w (OneII (prs P) w) := by
  obtain ⟨i0, hi, hz0, hzs, hzb⟩ := info_parts3 info_li
  have HI := Lib.hid (show Try.prog.info? 22 = some i0 ∧ i0.zero = some (.slice none 0 0) ∧ i0.size = 1 ∧ i0.bytes = 24 from ⟨hi, hz0, hzs, hzb⟩)
  clear hi hz0 hzs hzb
  have HCL := Lib.hid hcl
  clear hcl
  have HL := Lib.hid (prs_len P)
  obtain ⟨L0, hL0⟩ : ∃ L, L = prs P := ⟨_, rfl⟩
  have HL0 := Lib.hid hL0
  rw [← hL0]
  clear hL0
  go_enter Try.func66, Try.ntmps66
  go_wp2
  go_loopw [3, 6] (fun o i wr => ∃ a : Nat, a ≤ 10 ∧ i = .int .i64 a ∧ (∃ U, RowF w.heap.size wr o (prA P a).length U (tl (prA P a))) ∧ Ext w wr) (fun _ i _ => 10 - (intOf i).toNat)
  case atStart => exact ⟨0, by decide, rfl, ⟨fun _ => .slice none 0 0, RowF.nil _ _ _ _⟩, Ext.refl _⟩
  case round =>
    obtain ⟨a, ha, rfl, ⟨U, hown⟩, hx⟩ := hrel
    have HO := Lib.hid hown
    clear hown
    obtain ⟨wo, rfl⟩ : ∃ wo, wo = wr := ⟨_, rfl⟩
    by_cases hlt : a < 10
    · have h9 : (a : Int) < 10 := by omega
      go_wp2
      clear h9
      go_loopw [3, 5] (fun o i wr => ∃ k : Nat, k + a ≤ 9 ∧ i = .int .i64 ((a + 1 + k : Nat) : Int) ∧ (∃ U, RowF w.heap.size wr o (prA P a ++ prR P a k).length U (tl (prA P a ++ prR P a k))) ∧ Ext w wr) (fun _ i _ => 10 - (intOf i).toNat)
      case atStart => exact ⟨0, by omega, by go_num, ⟨U, by rw [prR, List.append_nil]; exact HO.out⟩, hx⟩
      case round =>
        obtain ⟨k, hk, rfl, ⟨U2, hown2⟩, hx2⟩ := hrel
        have HO2 := Lib.hid hown2
        clear hown2
        have hll : (prA P a ++ prR P a k).length ≤ 1000 := by
          rw [List.length_append]
          have := prA_len P a
          have := prR_len P a k
          omega
        by_cases hlt2 : a + 1 + k < 10
        · have h9 : ((a + 1 + k : Nat) : Int) < 10 := by omega
          have HY := Lib.hid (fun h => prR_yes (P := P) (a := a) (k := k) h)
          have HN := Lib.hid (fun h => prR_no (P := P) (a := a) (k := k) h)
          obtain ⟨b, hb⟩ : ∃ b, b = a + 1 + k := ⟨_, rfl⟩
          rw [← hb] at HY HN h9 ⊢
          have HB := Lib.hid hb
          have hab : a < b := by omega
          obtain ⟨L, hL⟩ : ∃ L, L = prA P a ++ prR P a k := ⟨_, rfl⟩
          rw [← hL] at HO2 hll
          have HLL := Lib.hid hL
          have HAB := Lib.hid (HCL.out a b wr hx2 hab (by omega))
          have HSZ := Lib.hid (fun (w3 : World) (x3 : Ext wr w3) => (show L.length + 1 ≤ maxLen ∧ (L.length + 1) * 24 ≤ 140737488355328 ∧ ∀ A B, w.heap.size ≤ ((w3.alloc A).alloc B).heap.size from ⟨by unfold maxLen; omega, by omega, fun A B => Nat.le_trans (hx2.trans x3).size (by simp; omega)⟩))
          have HKB := Lib.hid (show k + 1 + a ≤ 9 ∧ (b : Int) + 1 = ((a + 1 + (k + 1) : Nat) : Int) ∧ b < 10 from by have := HB.out; omega)
          clear hb hL hlt2 hk HO hlt
          cases hz : P a b
          · have HV := Lib.hid (HN.out hz)
            rw [hz] at HAB
            clear hz
            go_wp2_with (first | (go_at_call 67; refine HAB.out.mono ?_; rintro e w3 ⟨rfl, x3⟩))
            go_roundw
            case rel => exact ⟨k + 1, HKB.out.1, by rw [HKB.out.2.1], ⟨U2, by rw [HV.out, ← HLL.out]; exact HO2.out.ext x3⟩, hx2.trans x3⟩
            case measure => have := HKB.out.2.2; simp [intOf]; omega
          · have HV := Lib.hid (HY.out hz)
            rw [hz] at HAB
            clear hz
            go_wp2_with (first | (go_at_call 67; refine HAB.out.mono ?_; rintro e w3 ⟨rfl, x3⟩; have O3 := Lib.hid (HO2.out.ext x3); have S3 := Lib.hid (HSZ.out w3 x3)) | (at_builtin; refine wpList_append_own _ rfl _ _ 36 rfl w.heap.size 22 i0 (.slice none 0 0) 1 24 Try.underlying36 HI.out.1 HI.out.2.1 HI.out.2.2.1 HI.out.2.2.2 rfl (by decide) _ _ _ rfl (World.ownsRow.alloc (World.ownsRow.alloc O3.out.1 _) _) ⟨w3.heap.size + 1, 0, none⟩ 1 1 [.slice (some ⟨w3.heap.size, 0, none⟩) 2 2] rfl rfl (cell_two_new _ _ _ _) (oneV2 rfl) S3.out.1 S3.out.2.1 (S3.out.2.2 _ _) ?_; intro v5 w5 own5 gr5 _))
            have X3 := hx2.trans x3
            have X5 : Ext w w5 := ext_grown ((X3.alloc _).alloc _) gr5 (fun j hj => (World.ownsRow.lt HO2.out.1 j hj).1)
            have RN := Lib.hid (show ∃ U, RowF w.heap.size w5 v5 (prA P a ++ prR P a (k + 1)).length U (tl (prA P a ++ prR P a (k + 1))) from ⟨_, grow_rowI O3.out ((Ext.refl w3).alloc _) (pair_row w3 a b _ (Nat.le_refl _)) (pair_row w3 a b _ X3.size) own5 gr5 (by rw [HV.out, HLL.out, List.append_assoc])⟩)
            clear own5 gr5
            exact ⟨⟨k + 1, HKB.out.1, by rw [HKB.out.2.1], RN.out, X5⟩, by have := HKB.out.2.2; simp [intOf]; omega⟩
        · have h9 : ¬ ((a + 1 + k : Nat) : Int) < 10 := by omega
          have hk9 : k = 9 - a := by omega
          have HV := Lib.hid (show prA P (a + 1) = prA P a ++ prR P a k by rw [prA, hk9])
          obtain ⟨b, hb⟩ : ∃ b, b = a + 1 + k := ⟨_, rfl⟩
          rw [← hb] at h9 ⊢
          clear hb hlt2 hk9 HO
          go_wp2
          exact ⟨⟨a + 1, by omega, by go_num, ⟨U2, by rw [HV.out]; exact HO2.out⟩, hx2⟩, by simp [intOf]; omega⟩
    · obtain rfl : a = 10 := by omega
      go_wp2
      go_ret
      exact ⟨_, U, rfl, by rw [HL0.out]; exact HO.out, hx⟩

set_option maxRecDepth 100000 in
set_option maxHeartbeats 2000000 in
theorem dpM_any (P : Nat → Nat → Bool) (C D : Nat) (w : World) (hcl : ∀ (a b : Nat) (w' : World), Ext w w' → a < b → b < 10 → Calls Try.prog 92 #[.int .i64 (a : Int), .int .i64 (b : Int), .pointer (some ⟨D, 0, none⟩), .pointer (some ⟨C, 0, none⟩)] w' fun e w2 => e = .returned (.bool (P a b)) ∧ Ext w' w2) : Calls Try.prog 66 #[.func (.func 92) #[] #[.pointer (some ⟨D, 0, none⟩), .pointer (some ⟨C, 0, none⟩)]] w (OneII (prs P) w) := by
  obtain ⟨i0, hi, hz0, hzs, hzb⟩ := info_parts3 info_li
  have HI := Lib.hid (show Try.prog.info? 22 = some i0 ∧ i0.zero = some (.slice none 0 0) ∧ i0.size = 1 ∧ i0.bytes = 24 from ⟨hi, hz0, hzs, hzb⟩)
  clear hi hz0 hzs hzb
  have HCL := Lib.hid hcl
  clear hcl
  have HL := Lib.hid (prs_len P)
  obtain ⟨L0, hL0⟩ : ∃ L, L = prs P := ⟨_, rfl⟩
  have HL0 := Lib.hid hL0
  rw [← hL0]
  clear hL0
  go_enter Try.func66, Try.ntmps66
  go_wp2
  go_loopw [3, 6] (fun o i wr => ∃ a : Nat, a ≤ 10 ∧ i = .int .i64 a ∧ (∃ U, RowF w.heap.size wr o (prA P a).length U (tl (prA P a))) ∧ Ext w wr) (fun _ i _ => 10 - (intOf i).toNat)
  case atStart => exact ⟨0, by decide, rfl, ⟨fun _ => .slice none 0 0, RowF.nil _ _ _ _⟩, Ext.refl _⟩
  case round =>
    obtain ⟨a, ha, rfl, ⟨U, hown⟩, hx⟩ := hrel
    have HO := Lib.hid hown
    clear hown
    obtain ⟨wo, rfl⟩ : ∃ wo, wo = wr := ⟨_, rfl⟩
    by_cases hlt : a < 10
    · have h9 : (a : Int) < 10 := by omega
      go_wp2
      clear h9
      go_loopw [3, 5] (fun o i wr => ∃ k : Nat, k + a ≤ 9 ∧ i = .int .i64 ((a + 1 + k : Nat) : Int) ∧ (∃ U, RowF w.heap.size wr o (prA P a ++ prR P a k).length U (tl (prA P a ++ prR P a k))) ∧ Ext w wr) (fun _ i _ => 10 - (intOf i).toNat)
      case atStart => exact ⟨0, by omega, by go_num, ⟨U, by rw [prR, List.append_nil]; exact HO.out⟩, hx⟩
      case round =>
        obtain ⟨k, hk, rfl, ⟨U2, hown2⟩, hx2⟩ := hrel
        have HO2 := Lib.hid hown2
        clear hown2
        have hll : (prA P a ++ prR P a k).length ≤ 1000 := by
          rw [List.length_append]
          have := prA_len P a
          have := prR_len P a k
          omega
        by_cases hlt2 : a + 1 + k < 10
        · have h9 : ((a + 1 + k : Nat) : Int) < 10 := by omega
          have HY := Lib.hid (fun h => prR_yes (P := P) (a := a) (k := k) h)
          have HN := Lib.hid (fun h => prR_no (P := P) (a := a) (k := k) h)
          obtain ⟨b, hb⟩ : ∃ b, b = a + 1 + k := ⟨_, rfl⟩
          rw [← hb] at HY HN h9 ⊢
          have HB := Lib.hid hb
          have hab : a < b := by omega
          obtain ⟨L, hL⟩ : ∃ L, L = prA P a ++ prR P a k := ⟨_, rfl⟩
          rw [← hL] at HO2 hll
          have HLL := Lib.hid hL
          have HAB := Lib.hid (HCL.out a b wr hx2 hab (by omega))
          have HSZ := Lib.hid (fun (w3 : World) (x3 : Ext wr w3) => (show L.length + 1 ≤ maxLen ∧ (L.length + 1) * 24 ≤ 140737488355328 ∧ ∀ A B, w.heap.size ≤ ((w3.alloc A).alloc B).heap.size from ⟨by unfold maxLen; omega, by omega, fun A B => Nat.le_trans (hx2.trans x3).size (by simp; omega)⟩))
          have HKB := Lib.hid (show k + 1 + a ≤ 9 ∧ (b : Int) + 1 = ((a + 1 + (k + 1) : Nat) : Int) ∧ b < 10 from by have := HB.out; omega)
          clear hb hL hlt2 hk HO hlt
          cases hz : P a b
          · have HV := Lib.hid (HN.out hz)
            rw [hz] at HAB
            clear hz
            go_wp2_with (first | (go_at_call 92; refine HAB.out.mono ?_; rintro e w3 ⟨rfl, x3⟩))
            go_roundw
            case rel => exact ⟨k + 1, HKB.out.1, by rw [HKB.out.2.1], ⟨U2, by rw [HV.out, ← HLL.out]; exact HO2.out.ext x3⟩, hx2.trans x3⟩
            case measure => have := HKB.out.2.2; simp [intOf]; omega
          · have HV := Lib.hid (HY.out hz)
            rw [hz] at HAB
            clear hz
            go_wp2_with (first | (go_at_call 92; refine HAB.out.mono ?_; rintro e w3 ⟨rfl, x3⟩; have O3 := Lib.hid (HO2.out.ext x3); have S3 := Lib.hid (HSZ.out w3 x3)) | (at_builtin; refine wpList_append_own _ rfl _ _ 36 rfl w.heap.size 22 i0 (.slice none 0 0) 1 24 Try.underlying36 HI.out.1 HI.out.2.1 HI.out.2.2.1 HI.out.2.2.2 rfl (by decide) _ _ _ rfl (World.ownsRow.alloc (World.ownsRow.alloc O3.out.1 _) _) ⟨w3.heap.size + 1, 0, none⟩ 1 1 [.slice (some ⟨w3.heap.size, 0, none⟩) 2 2] rfl rfl (cell_two_new _ _ _ _) (oneV2 rfl) S3.out.1 S3.out.2.1 (S3.out.2.2 _ _) ?_; intro v5 w5 own5 gr5 _))
            have X3 := hx2.trans x3
            have X5 : Ext w w5 := ext_grown ((X3.alloc _).alloc _) gr5 (fun j hj => (World.ownsRow.lt HO2.out.1 j hj).1)
            have RN := Lib.hid (show ∃ U, RowF w.heap.size w5 v5 (prA P a ++ prR P a (k + 1)).length U (tl (prA P a ++ prR P a (k + 1))) from ⟨_, grow_rowI O3.out ((Ext.refl w3).alloc _) (pair_row w3 a b _ (Nat.le_refl _)) (pair_row w3 a b _ X3.size) own5 gr5 (by rw [HV.out, HLL.out, List.append_assoc])⟩)
            clear own5 gr5
            exact ⟨⟨k + 1, HKB.out.1, by rw [HKB.out.2.1], RN.out, X5⟩, by have := HKB.out.2.2; simp [intOf]; omega⟩
        · have h9 : ¬ ((a + 1 + k : Nat) : Int) < 10 := by omega
          have hk9 : k = 9 - a := by omega
          have HV := Lib.hid (show prA P (a + 1) = prA P a ++ prR P a k by rw [prA, hk9])
          obtain ⟨b, hb⟩ : ∃ b, b = a + 1 + k := ⟨_, rfl⟩
          rw [← hb] at h9 ⊢
          clear hb hlt2 hk9 HO
          go_wp2
          exact ⟨⟨a + 1, by omega, by go_num, ⟨U2, by rw [HV.out]; exact HO2.out⟩, hx2⟩, by simp [intOf]; omega⟩
    · obtain rfl : a = 10 := by omega
      go_wp2
      go_ret
      exact ⟨_, U, rfl, by rw [HL0.out]; exact HO.out, hx⟩

end Go.Proofs.Ytdhcknknmloopaa
