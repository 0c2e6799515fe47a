/- Texts of digits with left and right exchanged: the program's and its model's. No conditions. -/
import Derived.Test.YtmpajijnpoekgadMap
import Derived.Test.YtmpajijnpoekgadGo
namespace Go.Proofs.Ytmpajijnpoekgad
open Go.RowKit

theorem isg_K : ∀ n : Nat, n < 256 → isg n = true → isK n = true := of_decide_eq_true (by kernel_rfl)
theorem allK_wk {s : ByteArray} (h : isWk s = true) : allK s := fun i hi => isg_K _ (s[i]).toNat_lt (isWk_get h i hi)
theorem pn_dig : ∀ d : Nat, d < 10 → pn ((48 + d).toUInt8) = dpl d := of_decide_eq_true (by kernel_rfl)
theorem at_mir : ∀ d : Nat, d < 10 → (0 ≤ atV (2 - dpl d % 3) (dpl d / 3) ∧ atV (2 - dpl d % 3) (dpl d / 3) < 128) ∧ Utf8.encode (atV (2 - dpl d % 3) (dpl d / 3)) = kB (mp false (dpl d)) := of_decide_eq_true (by kernel_rfl)
def mwV (t : ByteArray) : ByteArray := if isWk t then kT ((plcs t).map (mp false)) else ⟨#[]⟩
theorem mwV_no {t : ByteArray} (h : isWk t = false) : mwV t = ⟨#[]⟩ := by unfold mwV; rw [h]; rfl
theorem mwV_yes {t : ByteArray} (h : isWk t = true) : mwV t = kT ((plcs t).map (mp false)) := by unfold mwV; rw [h]; rfl
theorem ret_sBw {a a' : ByteArray} {b b' : Bool} (h : a = a') (h2 : b = b') : Ending.returned (.tuple #[.string a, .bool b]) = .returned (.tuple #[.string a', .bool b']) := by rw [h, h2]

theorem mwI_any (t : ByteArray) (w : World) (ht : t.size ≤ maxLen) : Calls Try.prog 16 #[.string t] w fun e w' => e = .returned (.tuple #[.string (mwV t), .bool (isWk t)]) ∧ Ext w w' := by
  cases h : isWk t
  · have HV := Lib.hid (mwV_no h)
    go_enter Try.func16, Try.ntmps16
    go_wp2_with (go_at_call 43; refine (areWk_any _ _ ht).mono ?_; rintro e w' ⟨rfl, rfl⟩; rw [h])
    go_ret2
    exact ⟨ret_sBw HV.out.symm rfl, Ext.refl _⟩
  have HV := Lib.hid (mwV_yes h)
  have HK := Lib.hid (allK_wk h)
  have h100 : t.size ≤ 100 := by have := isWk_size h; omega
  go_enter Try.func16, Try.ntmps16
  go_wp2_with (first | (go_at_call 43; refine (areWk_any _ _ ht).mono ?_; rintro e w' ⟨rfl, rfl⟩; rw [h]) | (go_at_call 44; refine (mvmirroredPlace_any t _ HK.out h100).mono ?_; rintro e w1 ⟨rfl, x1⟩))
  go_ret2
  exact ⟨ret_sBw HV.out.symm rfl, x1⟩

set_option maxHeartbeats 1000000 in
theorem mwS_any (t : ByteArray) (w : World) (ht : t.size ≤ maxLen) : Calls Try.prog 15 #[.string t] w fun e w' => e = .returned (.tuple #[.string (mwV t), .bool (isWk t)]) ∧ Ext w w' := by
  cases h : isWk t
  · have HV := Lib.hid (mwV_no h)
    go_enter Try.func15, Try.ntmps15
    go_wp2_with (go_at_call 40; refine (wkDig_any _ _ ht).mono ?_; rintro e w' ⟨rfl, rfl⟩; rw [h])
    go_ret2
    exact ⟨ret_sBw HV.out.symm rfl, Ext.refl _⟩
  have HV := Lib.hid (mwV_yes h)
  have HD := Lib.hid h
  obtain ⟨hz1, hz2⟩ := isWk_size h
  have HL := Lib.hid (plcs_len t)
  go_enter Try.func15, Try.ntmps15
  go_wp2_with (go_at_call 40; refine (wkDig_any _ _ ht).mono ?_; rintro e w' ⟨rfl, rfl⟩; rw [h])
  clear h
  go_loopw [4, 5] (fun o i wr => ∃ k : Nat, k ≤ t.size ∧ i = .int .i64 k ∧ o = .string (kT (((plcs t).map (mp false)).take k)) ∧ Ext w wr) (fun _ i _ => t.size - (intOf i).toNat)
  case atStart => exact ⟨0, Nat.zero_le _, rfl, rfl, Ext.refl _⟩
  case round =>
    obtain ⟨k, hk, rfl, rfl, hx⟩ := hrel
    by_cases hlt : k < t.size
    · have hlm : k < ((plcs t).map (mp false)).length := by rw [List.length_map, HL.out]; exact hlt
      have hb := isWk_bd HD.out k hlt
      obtain ⟨d, hd⟩ : ∃ d, d = (t[k]'hlt).toNat - 48 := ⟨_, rfl⟩
      have hd10 : d < 10 := by omega
      have hbd : ((t[k]'hlt).toNat : Int) = (d : Int) + 48 := by omega
      have ep : pn (t[k]'hlt) = dpl d := by
        rw [← pn_dig d hd10]
        congr 1
        apply UInt8.toNat_inj.1
        simp
        omega
      have e1 : ((plcs t).map (mp false))[k] = mp false (dpl d) := by rw [List.getElem_map, plcs_at, ep]
      have hq12 : mp false (dpl d) < 12 := mp_lt false _ (dpl_lt hd10)
      have HT := Lib.hid (show kT (((plcs t).map (mp false)).take (k + 1)) = kT (((plcs t).map (mp false)).take k) ++ kB (mp false (dpl d)) by rw [kT_take _ k hlm (by rw [e1]; exact hq12), e1])
      obtain ⟨⟨z0, z1⟩, HE⟩ := at_mir d hd10
      have hKs := kB_size _ hq12
      obtain ⟨K, hK⟩ : ∃ K, K = kB (mp false (dpl d)) := ⟨_, rfl⟩
      rw [← hK] at HT HE hKs
      have hA : dpl d % 3 ≤ 2 := by omega
      have hB : dpl d / 3 ≤ 3 := by have := dpl_lt hd10; omega
      have HP := Lib.hid (fun w => wkPlace_any d _ w hd10 hbd)
      obtain ⟨A, eA⟩ : ∃ A, A = dpl d % 3 := ⟨_, rfl⟩
      obtain ⟨B, eB⟩ : ∃ B, B = dpl d / 3 := ⟨_, rfl⟩
      rw [← eA, ← eB] at HP z0 z1 HE
      rw [← eA] at hA
      rw [← eB] at hB
      obtain ⟨C, eC⟩ : ∃ C, C = 2 - A := ⟨_, rfl⟩
      have hCi : (2 : Int) - (A : Int) = (C : Int) := by omega
      have hC3 : C ≤ 3 := by omega
      rw [← eC] at z0 z1 HE
      have HAt := Lib.hid (fun w => wkAt_any C B w hC3 hB)
      obtain ⟨z, ez⟩ : ∃ z, z = atV C B := ⟨_, rfl⟩
      rw [← ez] at z0 z1 HE HAt
      obtain ⟨T, hT⟩ : ∃ T, T = kT (((plcs t).map (mp false)).take k) := ⟨_, rfl⟩
      have hTs : T.size ≤ 40 := by rw [hT, kT_size, List.length_take]; omega
      rw [← hT] at HT ⊢
      have Wz : IntKind.i32.wrap z = z := by simp only [IntKind.wrap_i32]; omega
      clear ez eC eA eB hK hT ep e1 hq12 hb hd hbd hlm
      go_wp2_with (first | (go_at_call 41; refine (HP.out _).mono ?_; rintro e w' ⟨rfl, rfl⟩) | (go_at_call 42; refine (HAt.out _).mono ?_; rintro e w' ⟨rfl, rfl⟩))
      go_roundw
      case rel => exact ⟨k + 1, by omega, by go_num, by rw [HT.out], hx⟩
      case measure => simp [intOf]; omega
    · have HE := Lib.hid (show ((plcs t).map (mp false)).take k = (plcs t).map (mp false) from List.take_of_length_le (by rw [List.length_map, HL.out]; omega))
      go_wp2
      go_ret2
      exact ⟨ret_sBw (by rw [HV.out, HE.out]) rfl, hx⟩
end Go.Proofs.Ytmpajijnpoekgad
