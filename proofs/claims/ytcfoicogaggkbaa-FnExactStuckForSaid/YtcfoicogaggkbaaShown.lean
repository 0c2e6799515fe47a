/- What is shown: the program's way and its model's. No conditions. -/
import Derived.Test.YtcfoicogaggkbaaLets
import Derived.Laws.Rows
import Derived.Laws.ResultCell
import Derived.Deep.RegionWith
namespace Go.Proofs.Ytcfoicogaggkbaa
open Go.RowKit

theorem tB_append (a b : List UInt8) : tB (a ++ b) = tB a ++ tB b := by
  apply ByteArray.ext
  rw [ByteArray.data_append]
  simp [tB]
theorem takeB (s : ByteArray) (k : Nat) (h : k < s.size) : s.data.toList.take (k + 1) = s.data.toList.take k ++ [sg s k] := by
  rw [List.take_succ_eq_append_getElem (by simpa using h), ← sg_at s k h]
  rfl
theorem shw_take {f : UInt8 → Nat} {s : ByteArray} {k : Nat} (h : k < s.size) : tB (shw f (s.data.toList.take (k + 1))) = tB (shw f (s.data.toList.take k)) ++ tB (List.replicate (f (sg s k)) (sg s k)) := by
  rw [takeB s k h, shw_snoc, tB_append]
theorem shw_lenT {f : UInt8 → Nat} (hf : ∀ c, f c ≤ 2) (l : List UInt8) (k : Nat) (h : l.length ≤ k) : (tB (shw f l)).size ≤ 2 * k := by
  rw [tB_size]
  have := shw_len f hf l
  omega

set_option maxRecDepth 100000 in
set_option maxHeartbeats 4000000 in
theorem showS_any (t d s : ByteArray) (w : World) (ht : t.size ≤ 20) (hd : d.size ≤ maxLen) (hs : s.size ≤ maxLen) : Calls Try.prog 38 #[.string t, .string d, .string s] w fun e w' => e = .returned (.string (tB (shw (by2 (hasB d.data.toList) (hasB s.data.toList)) t.data.toList))) ∧ Ext w w' := by
  obtain ⟨f, hf⟩ : ∃ f, f = by2 (hasB d.data.toList) (hasB s.data.toList) := ⟨_, rfl⟩
  have HF := Lib.hid hf
  have HF2 := Lib.hid (show ∀ c, f c ≤ 2 from fun c => by rw [hf]; exact by2_le _ _ c)
  rw [← hf]
  clear hf
  go_enter Try.func38, Try.ntmps38
  go_wp2
  go_loopw [7, 8] (fun o i wr => ∃ k : Nat, k ≤ t.size ∧ i = .int .i64 k ∧ o = .string (tB (shw f (t.data.toList.take k))) ∧ Ext w wr) (fun _ i _ => t.size - (intOf i).toNat)
  case atStart => exact ⟨0, Nat.zero_le _, rfl, rfl, Ext.refl _⟩
  case round =>
    obtain ⟨k, hk, rfl, rfl, hx⟩ := hrel
    have hts := shw_lenT HF2.out (t.data.toList.take k) 20 (by have := List.length_take_le k t.data.toList; omega)
    obtain ⟨T, hT⟩ : ∃ T, T = tB (shw f (t.data.toList.take k)) := ⟨_, rfl⟩
    have HT := Lib.hid hT
    rw [← hT] at hts ⊢
    clear hT
    by_cases hlt : k < t.size
    · have ik : ∀ w, (Instr.index 9 (.string t) (.int .i64 (k : Int))).run Try.prog w = .ok (.int .u8 ((sg t k).toNat : Int)) w := fun w => ixB t k hlt w
      have he1 := ext1B t k hlt
      have hk1 : k + 1 ≤ t.size := hlt
      have HN := Lib.hid (shw_take (f := f) hlt)
      obtain ⟨c, hc⟩ : ∃ c, c = sg t k := ⟨_, rfl⟩
      rw [← hc] at ik he1 HN
      rw [← HT.out] at HN
      clear hc
      have hz1 : (⟨#[c]⟩ : ByteArray).size = 1 := rfl
      have hz2 : ((⟨#[c]⟩ : ByteArray) ++ ⟨#[c]⟩).size = 2 := rfl
      cases hdc : hasB d.data.toList c
      · cases hsc : hasB s.data.toList c
        · have HV := Lib.hid (show tB (shw f (t.data.toList.take (k + 1))) = T ++ ⟨#[c]⟩ by rw [HN.out, HF.out]; unfold by2; rw [hdc, hsc]; rfl)
          go_wp2_with (go_at_call 66; refine (hasS_any _ _ _ (by assumption)).mono ?_; rintro e w1 ⟨rfl, rfl⟩; first | rw [hdc] | rw [hsc])
          go_roundw
          case rel => exact ⟨k + 1, by omega, by go_num, by rw [HV.out], hx⟩
          case measure => simp [intOf] <;> omega
        · have HV := Lib.hid (show tB (shw f (t.data.toList.take (k + 1))) = T ++ (⟨#[c]⟩ ++ ⟨#[c]⟩) by rw [HN.out, HF.out]; unfold by2; rw [hdc, hsc]; rfl)
          go_wp2_with (go_at_call 66; refine (hasS_any _ _ _ (by assumption)).mono ?_; rintro e w1 ⟨rfl, rfl⟩; first | rw [hdc] | rw [hsc])
          go_roundw
          case rel => exact ⟨k + 1, by omega, by go_num, by rw [HV.out], hx⟩
          case measure => simp [intOf] <;> omega
      · have HV := Lib.hid (show tB (shw f (t.data.toList.take (k + 1))) = T by
          rw [HN.out, HF.out]; unfold by2; rw [hdc, if_pos rfl]
          apply ByteArray.ext
          rw [ByteArray.data_append]
          simp [tB])
        go_wp2_with (go_at_call 66; refine (hasS_any _ _ _ (by assumption)).mono ?_; rintro e w1 ⟨rfl, rfl⟩; rw [hdc])
        go_roundw
        case rel => exact ⟨k + 1, by omega, by go_num, by rw [HV.out], hx⟩
        case measure => simp [intOf] <;> omega
    · have HE := Lib.hid (show t.data.toList.take k = t.data.toList from List.take_of_length_le (by simp; omega))
      go_wp2
      go_ret
      exact ⟨by rw [HT.out, HE.out]; rfl, hx⟩
end Go.Proofs.Ytcfoicogaggkbaa
