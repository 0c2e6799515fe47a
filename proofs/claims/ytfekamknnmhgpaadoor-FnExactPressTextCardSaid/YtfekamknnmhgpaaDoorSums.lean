/- Presses counted, letter by letter, alike by the program and by its model. No conditions but the table's content. -/
import Derived.Test.YtfekamknnmhgpaaDoorKeys
namespace Go.Proofs.YtfekamknnmhgpaaDoor
open Go.RowKit

/-- The presses of letters. -/
def cntL : List UInt8 → Int
  | [] => 0
  | c :: l => pl c.toNat + 1 + cntL l
theorem cntL_snoc (l : List UInt8) (c : UInt8) : cntL (l ++ [c]) = cntL l + (pl c.toNat + 1) := by
  induction l with
  | nil => simp [cntL]
  | cons d l ih => simp only [List.cons_append, cntL, ih]; omega
theorem cntL_bd : ∀ l : List UInt8, (∀ c ∈ l, isL c.toNat = true) → 0 ≤ cntL l ∧ cntL l ≤ 4 * l.length
  | [], _ => ⟨Int.le_refl _, Int.le_refl _⟩
  | c :: l, h => by
    have h1 := pl_bd c.toNat (h c (by simp))
    have h2 := cntL_bd l (fun d hd => h d (by simp [hd]))
    simp only [cntL, List.length_cons]
    omega
def cntV (s : ByteArray) : Int := if isW s then cntL s.data.toList else 0
theorem cntV_no {s : ByteArray} (h : isW s = false) : cntV s = 0 := by unfold cntV; simp [h]
theorem cntV_yes {s : ByteArray} (h : isW s = true) : cntV s = cntL s.data.toList := by unfold cntV; simp [h]
theorem isW_size {s : ByteArray} (h : isW s = true) : 1 ≤ s.size ∧ s.size ≤ 40 := by unfold isW at h; simp at h; exact h.1
theorem isW_mem {s : ByteArray} (h : isW s = true) : ∀ c ∈ s.data.toList, isL c.toNat = true := by
  unfold isW at h; simp only [Bool.and_eq_true, List.all_eq_true] at h; exact h.2
theorem take_snoc (s : ByteArray) (k : Nat) (h : k < s.size) : s.data.toList.take (k + 1) = s.data.toList.take k ++ [s[k]] := by
  rw [List.take_succ_eq_append_getElem (by simpa using h)]; rfl
theorem take_all (s : ByteArray) (k : Nat) (h : s.size ≤ k) : s.data.toList.take k = s.data.toList := List.take_of_length_le (by simpa using h)

set_option maxHeartbeats 400000 in
theorem prCount_any (s : ByteArray) (w : World) (h : isW s = true) : Calls Tryd.prog 43 #[.string s] w fun e w' => e = .returned (.int .i64 (cntL s.data.toList)) ∧ w = w' := by
  obtain ⟨hz1, hz2⟩ := isW_size h
  have HG := Lib.hid (isW_get h)
  have HM := Lib.hid (isW_mem h)
  clear h
  go_enter Tryd.func43, Tryd.ntmps43
  go_wp2
  go_loop [3, 4] (fun n i => ∃ k : Nat, k ≤ s.size ∧ i = .int .i64 k ∧ n = .int .i64 (cntL (s.data.toList.take k))) (fun _ i => s.size - (intOf i).toNat)
  case atStart => exact ⟨0, Nat.zero_le _, rfl, rfl⟩
  case round =>
    obtain ⟨k, hk, rfl, rfl⟩ := hrel
    have hb := cntL_bd (s.data.toList.take k) (fun c hc => HM.out c (List.mem_of_mem_take hc))
    have hl : (s.data.toList.take k).length ≤ k := List.length_take_le _ _
    obtain ⟨hb1, hb2⟩ := hb
    by_cases hlt : k < s.size
    · have HL := Lib.hid (HG.out k hlt)
      have HS := Lib.hid (cntL_snoc (s.data.toList.take k) s[k])
      have HT := Lib.hid (take_snoc s k hlt)
      obtain ⟨hp1, hp2, _⟩ := pl_bd s[k].toNat HL.out
      go_wp2_with (go_at_call 37; refine (prKey_any _ _ HL.out).mono ?_; rintro e w' ⟨rfl, rfl⟩)
      go_round
      case rel => exact ⟨k + 1, by omega, by go_num, by rw [HT.out, HS.out]⟩
      case measure => simp [intOf]; omega
    · have HT := Lib.hid (take_all s k (by omega))
      go_wp2
      go_ret
      exact ⟨ret_int (by rw [HT.out]), rfl⟩

set_option maxHeartbeats 400000 in
theorem sumOf_any (s : ByteArray) (w : World) (h : isW s = true) (hp : PadIs w) : Calls Tryd.prog 45 #[.string s, .func (.func 42) #[] #[]] w fun e w' => e = .returned (.int .i64 (cntL s.data.toList)) ∧ Ext w w' := by
  obtain ⟨hz1, hz2⟩ := isW_size h
  have HG := Lib.hid (isW_get h)
  have HM := Lib.hid (isW_mem h)
  clear h
  go_enter Tryd.func45, Tryd.ntmps45
  go_wp2
  go_loopw [5, 9] (fun n i wr => ∃ k : Nat, k ≤ s.size ∧ i = .int .i64 k ∧ n = .int .i64 (cntL (s.data.toList.take k)) ∧ Ext w wr) (fun _ i _ => s.size - (intOf i).toNat)
  case atStart => exact ⟨0, Nat.zero_le _, rfl, rfl, Ext.refl _⟩
  case round =>
    obtain ⟨k, hk, rfl, rfl, hx⟩ := hrel
    have hb := cntL_bd (s.data.toList.take k) (fun c hc => HM.out c (List.mem_of_mem_take hc))
    have hl : (s.data.toList.take k).length ≤ k := List.length_take_le _ _
    obtain ⟨hb1, hb2⟩ := hb
    by_cases hlt : k < s.size
    · have HL := Lib.hid (HG.out k hlt)
      have HS := Lib.hid (cntL_snoc (s.data.toList.take k) s[k])
      have HT := Lib.hid (take_snoc s k hlt)
      obtain ⟨hp1, hp2, _⟩ := pl_bd s[k].toNat HL.out
      go_wp2_with (first | (go_at_call 41; refine (padOf_any _ _ (hp.ext hx) HL.out).mono ?_; rintro e w1 ⟨rfl, x1⟩) | (go_at_call 42; refine (presses_any _ _ HL.out).mono ?_; rintro e w2 ⟨rfl, x2⟩))
      go_roundw
      case rel => exact ⟨k + 1, by omega, by go_num, by rw [HT.out, HS.out], (hx.trans x1).trans x2⟩
      case measure => simp [intOf]; omega
    · have HT := Lib.hid (take_all s k (by omega))
      go_wp2
      go_ret
      exact ⟨ret_int (by rw [HT.out]), hx⟩

end Go.Proofs.YtfekamknnmhgpaaDoor
