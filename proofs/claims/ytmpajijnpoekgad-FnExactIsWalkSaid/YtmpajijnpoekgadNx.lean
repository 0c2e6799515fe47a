/- The digits to which a piece goes from one, in order: the model's. No conditions. -/
import Derived.Test.YtmpajijnpoekgadGo
namespace Go.Proofs.Ytmpajijnpoekgad
open Go.RowKit

/-- The digits to which a piece goes, of the first so many. -/
def nxK (p i k : Nat) : List Nat := (List.range k).filter fun j => goB p i j
theorem nxK_zero (p i : Nat) : nxK p i 0 = [] := rfl
theorem nxK_yes {p i k : Nat} (h : goB p i k = true) : nxK p i (k + 1) = nxK p i k ++ [k] := by
  unfold nxK
  rw [List.range_succ, List.filter_append]
  simp [h]
theorem nxK_no {p i k : Nat} (h : goB p i k = false) : nxK p i (k + 1) = nxK p i k := by
  unfold nxK
  rw [List.range_succ, List.filter_append]
  simp [h]
theorem nxK_len (p i k : Nat) : (nxK p i k).length ≤ k := by
  unfold nxK
  exact Nat.le_trans (List.length_filter_le _ _) (by rw [List.length_range]; exact Nat.le_refl _)
theorem nxK_lt {p i k d : Nat} (h : d ∈ nxK p i k) : d < k := List.mem_range.1 (List.mem_filter.1 h).1
def nx (p i : Nat) : List Nat := nxK p i 10
theorem nx_eq (p i : Nat) : nxK p i 10 = nx p i := rfl
theorem nx_len (p i : Nat) : (nx p i).length ≤ 10 := nxK_len p i 10
theorem nx_lt {p i d : Nat} (h : d ∈ nx p i) : d < 10 := nxK_lt h
/-- A text of digits. -/
def dA (ds : List Nat) : List UInt8 := ds.map fun d => (48 + d).toUInt8
def dT (ds : List Nat) : ByteArray := ⟨(dA ds).toArray⟩
theorem dT_nil : dT [] = ⟨#[]⟩ := rfl
theorem dA_snoc (ds : List Nat) (d : Nat) : dA (ds ++ [d]) = dA ds ++ [(48 + d).toUInt8] := by unfold dA; rw [List.map_append]; rfl
theorem dT_snoc (ds : List Nat) (d : Nat) : dT (ds ++ [d]) = dT ds ++ ⟨#[(48 + d).toUInt8]⟩ := by
  apply ByteArray.ext
  rw [ByteArray.data_append]
  unfold dT
  rw [dA_snoc]
  simp
theorem dT_size (ds : List Nat) : (dT ds).size = ds.length := by
  show (dA ds).toArray.size = ds.length
  simp [dA]
theorem encD : ∀ n : Nat, n < 128 → Utf8.encode (n : Int) = ⟨#[n.toUInt8]⟩ := of_decide_eq_true (by kernel_rfl)

set_option maxHeartbeats 1000000 in
theorem wkNext_any (p i : Nat) (x : Int) (w : World) (hp : p < 4) (hi : i < 10) (hx : x = (i : Int) + 48) : Calls Try.prog 31 #[.string (pcT p), .int .u8 x] w fun e w' => e = .returned (.string (dT (nx p i))) ∧ w = w' := by
  have HGO := Lib.hid (fun (j : Nat) (hj : j < 10) (y : Int) (hy : y = (j : Int) + 48) (w : World) => wkGoes_any p i j x y w hp hi hj hx hy)
  clear hx
  go_enter Try.func31, Try.ntmps31
  go_wp2
  go_loop [5, 6] (fun o t => ∃ k : Nat, k ≤ 10 ∧ t = .int .u8 (48 + (k : Int)) ∧ o = .string (dT (nxK p i k))) (fun _ t => 58 - (intOf t).toNat)
  case atStart => exact ⟨0, Nat.zero_le _, rfl, rfl⟩
  case round =>
    obtain ⟨k, hk, rfl, rfl⟩ := hrel
    have hz : (dT (nxK p i k)).size ≤ 10 := by rw [dT_size]; have := nxK_len p i k; omega
    by_cases hlt : k < 10
    · have hle : 48 + (k : Int) ≤ 57 := by omega
      have HK := Lib.hid (HGO.out k hlt (48 + (k : Int)) (by omega))
      have HSN := Lib.hid (fun h => (show dT (nxK p i (k + 1)) = dT (nxK p i k) ++ ⟨#[(48 + k).toUInt8]⟩ by rw [nxK_yes h, dT_snoc]))
      have HE : Utf8.encode (48 + (k : Int)) = ⟨#[(48 + k).toUInt8]⟩ := by
        have := encD (48 + k) (by omega)
        rw [← this]
        congr 1
      obtain ⟨c, hc⟩ : ∃ c, c = (48 + k).toUInt8 := ⟨_, rfl⟩
      rw [← hc] at HSN HE
      clear hc
      have Wc : IntKind.i32.wrap (48 + (k : Int)) = 48 + (k : Int) := by simp only [IntKind.wrap_i32]; omega
      cases hg : goB p i k
      · have HN := Lib.hid (nxK_no hg)
        go_wp2_with (go_at_call 67; refine (HK.out _).mono ?_; rintro e w' ⟨rfl, rfl⟩; rw [hg])
        go_round
        case rel => exact ⟨k + 1, by omega, by rw [show 48 + ((k + 1 : Nat) : Int) = 48 + (k : Int) + 1 by omega], by rw [HN.out] <;> rfl⟩
        case measure => simp [intOf]; omega
      · have HN := Lib.hid (HSN.out hg)
        go_wp2_with (go_at_call 67; refine (HK.out _).mono ?_; rintro e w' ⟨rfl, rfl⟩; rw [hg])
        go_round
        case rel => exact ⟨k + 1, by omega, by rw [show 48 + ((k + 1 : Nat) : Int) = 48 + (k : Int) + 1 by omega], by rw [HN.out] <;> rfl⟩
        case measure => simp [intOf]; omega
    · obtain rfl : k = 10 := by omega
      go_wp2
      go_ret
      exact ⟨rfl, rfl⟩

/-- A piece and a digit are asked for. -/
def isAsk (s t : ByteArray) : Bool := isP s && (isWk t && decide (t.size = 1))
theorem isAsk_p {s t : ByteArray} (h : isP s = false) : isAsk s t = false := by unfold isAsk; rw [h]; rfl
theorem isAsk_w {s t : ByteArray} (h : isWk t = false) : isAsk s t = false := by unfold isAsk; rw [h]; simp
theorem isAsk_1 {s t : ByteArray} (h : ¬ t.size = 1) : isAsk s t = false := by unfold isAsk; rw [decide_eq_false h]; simp
theorem isAsk_y {s t : ByteArray} (h : isP s = true) (h2 : isWk t = true) (h3 : t.size = 1) : isAsk s t = true := by unfold isAsk; rw [h, h2, decide_eq_true h3]; rfl
theorem isAsk_parts {s t : ByteArray} (h : isAsk s t = true) : isP s = true ∧ isWk t = true ∧ t.size = 1 := by
  unfold isAsk at h
  rw [Bool.and_eq_true, Bool.and_eq_true] at h
  exact ⟨h.1, h.2.1, of_decide_eq_true h.2.2⟩
/-- A key's digit. -/
def dg1 (t : ByteArray) : Nat := (t.data.toList.getD 0 0).toNat - 48
theorem dg1_of {t : ByteArray} (h : isWk t = true) (h1 : t.size = 1) : dg1 t < 10 ∧ ((t[0]'(by omega)).toNat : Int) = (dg1 t : Int) + 48 := by
  have hb := isWk_bd h 0 (by omega)
  have e : t.data.toList.getD 0 0 = t[0]'(by omega) := by
    rw [List.getD_eq_getElem?_getD, List.getElem?_eq_getElem (show 0 < t.data.toList.length by simp; omega)]
    rfl
  unfold dg1
  rw [e]
  omega
theorem asked_any (s t : ByteArray) (w : World) (ht : t.size ≤ maxLen) : Calls Try.prog 30 #[.string s, .string t] w fun e w' => e = .returned (.bool (isAsk s t)) ∧ w = w' := by
  have ht2 := ht
  unfold maxLen at ht2
  cases h : isP s
  · have HV := Lib.hid (isAsk_p (t := t) h)
    go_enter Try.func30, Try.ntmps30
    go_wp2_with (go_at_call 36; refine (wkPiece_any _ _).mono ?_; rintro e w' ⟨rfl, rfl⟩; rw [h])
    go_ret
    exact ⟨ret_bool HV.out.symm, rfl⟩
  cases h2 : isWk t
  · have HV := Lib.hid (isAsk_w (s := s) h2)
    go_enter Try.func30, Try.ntmps30
    go_wp2_with (first | (go_at_call 36; refine (wkPiece_any _ _).mono ?_; rintro e w' ⟨rfl, rfl⟩; rw [h]) | (go_at_call 40; refine (wkDig_any _ _ ht).mono ?_; rintro e w' ⟨rfl, rfl⟩; rw [h2]))
    go_ret
    exact ⟨ret_bool HV.out.symm, rfl⟩
  have HV := Lib.hid (show isAsk s t = ((t.size : Int) == 1) by
    unfold isAsk
    rw [h, h2]
    by_cases e : t.size = 1
    · simp [e]
    · rw [decide_eq_false e]; simp; omega)
  go_enter Try.func30, Try.ntmps30
  go_wp2_with (first | (go_at_call 36; refine (wkPiece_any _ _).mono ?_; rintro e w' ⟨rfl, rfl⟩; rw [h]) | (go_at_call 40; refine (wkDig_any _ _ ht).mono ?_; rintro e w' ⟨rfl, rfl⟩; rw [h2]))
  go_ret
  exact ⟨ret_bool HV.out.symm, rfl⟩
end Go.Proofs.Ytmpajijnpoekgad
