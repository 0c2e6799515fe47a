/- Walks: the program's test. No conditions. -/
import Derived.Test.YtpdnpphjlnlneaaGreatDoorWg
namespace Go.Proofs.YtpdnpphjlnlneaaGreatDoor
open Go.RowKit

def pcI (s : ByteArray) : Nat := if s = ⟨#[110]⟩ then 0 else if s = ⟨#[107]⟩ then 1 else if s = ⟨#[114]⟩ then 2 else 3
theorem pcI_T {p : Nat} (h : p < 4) : pcI (pcT p) = p := by
  rcases (by omega : p = 0 ∨ p = 1 ∨ p = 2 ∨ p = 3) with rfl | rfl | rfl | rfl <;> rfl
theorem pcI_lt (s : ByteArray) : pcI s < 4 := by unfold pcI; split <;> (try split) <;> (try split) <;> omega
theorem pcT_I {s : ByteArray} (h : isP s = true) : pcT (pcI s) = s := by
  obtain ⟨p, hp, rfl⟩ := isP_yes h
  rw [pcI_T hp]

set_option maxHeartbeats 1000000 in
theorem isWalkOf_any (p : Nat) (s : ByteArray) (w : World) (hp : p < 4) (hs : s.size ≤ maxLen) : Calls Tryz.prog 105 #[.string (pcT p), .string s] w fun e w' => e = .returned (.bool (isWlk p s)) ∧ Ext w w' := by
  cases h1 : isWk s
  · have HV := Lib.hid (isWlk_d (p := p) h1)
    go_enter Tryz.func105, Tryz.ntmps105
    go_wp2_with (go_at_call 126; refine (areWk_any _ _ hs).mono ?_; rintro e w' ⟨rfl, rfl⟩; rw [h1])
    go_ret
    exact ⟨ret_bool HV.out.symm, Ext.refl _⟩
  obtain ⟨hz1, hz2⟩ := isWk_size h1
  have HD := Lib.hid h1
  go_enter Tryz.func105, Tryz.ntmps105
  go_wp2_with (go_at_call 126; refine (areWk_any _ _ hs).mono ?_; rintro e w' ⟨rfl, rfl⟩; rw [h1])
  refine (digitsOf_any s w h1).mono ?_
  rintro e w1 ⟨v, rfl, hv, x1⟩
  clear h1
  have HLN := Lib.hid (dgs_len s)
  have HO := Lib.hid hv
  obtain ⟨a, cap, rfl⟩ := hv.shape
  clear hv
  rw [HLN.out]
  go_wp2
  go_loopw [6] (fun i wr => ∃ k : Nat, k + 1 ≤ s.size ∧ i = .int .i64 ((k + 1 : Nat) : Int) ∧ wg p s (k + 1) = true ∧ Ext w1 wr) (fun i _ => s.size - (intOf i).toNat)
  case atStart => exact ⟨0, by omega, rfl, rfl, Ext.refl _⟩
  case round =>
    obtain ⟨k, hk, rfl, hw, hx⟩ := hrel
    have HW := Lib.hid hw
    clear hw
    by_cases hlt : k + 1 < s.size
    · have a1 := (dgt_of HD.out (show k < s.size by omega)).1
      have b1 := (dgt_of HD.out hlt).1
      have HY := Lib.hid (fun h => wg_yes (p := p) (s := s) (j := k) HW.out h)
      have HN := Lib.hid (fun h => isWlk_n (wg_bad (p := p) (s := s) (j := k) h) hlt)
      have hkl : k < (dgs s).length := by rw [HLN.out]; omega
      have hkl1 : k + 1 < (dgs s).length := by rw [HLN.out]; omega
      obtain ⟨g, ha, hb, hg, hc, _⟩ := (HO.out.ext hx).at k hkl
      obtain ⟨g', ha', _, _, hc1, _⟩ := (HO.out.ext hx).at (k + 1) hkl1
      rw [ha] at ha'
      injection ha' with ha'
      injection ha' with ha'
      subst ha'
      rw [dgs_at] at hc hc1
      obtain ⟨k1, hk1⟩ : ∃ k1, k1 = k + 1 := ⟨_, rfl⟩
      have hk1s : k1 < s.size := by omega
      have hk1i : (k1 : Int) < (s.size : Int) := by omega
      have hki : (k : Int) < (s.size : Int) := by omega
      have hks : k < s.size := by omega
      rw [← hk1] at hc1
      obtain ⟨x, hxx⟩ : ∃ x, x = dgt s k := ⟨_, rfl⟩
      obtain ⟨y, hyy⟩ : ∃ y, y = dgt s k1 := ⟨_, rfl⟩
      rw [← hk1, ← hyy] at HY HN b1
      rw [← hxx] at hc HY HN a1
      rw [← hyy] at hc1
      have hkm : (k1 : Int) - 1 = (k : Int) := by omega
      have Wk : IntKind.i64.wrap ((k1 : Int) - 1) = (k : Int) := by simp only [IntKind.wrap_i64]; omega
      rw [← hk1]
      have HKK := Lib.hid hk1
      have hk1n : k1 ≤ 40 := by omega
      subst ha
      have HGO := Lib.hid (fun w => canGo_any p x y w hp a1 b1)
      clear hxx hyy hk1 hlt hk hkl hkl1 hb hg
      cases hgo : goB p x y
      · have HV := Lib.hid (HN.out hgo)
        rw [hgo] at HGO
        go_wp2
        go_quiet (first | (exact Calls.quiet_of_same ((HGO.out _).mono fun e w' h => ⟨h.1, h.2.symm⟩)))
        go_wp2
        go_ret
        exact ⟨ret_bool HV.out.symm, x1.trans (ext_drewN hx _)⟩
      · have HV := Lib.hid (HY.out hgo)
        rw [hgo] at HGO
        go_wp2
        go_quiet (first | (exact Calls.quiet_of_same ((HGO.out _).mono fun e w' h => ⟨h.1, h.2.symm⟩)))
        go_wp2
        go_roundw
        case rel => exact ⟨k + 1, by have := HKK.out; omega, by have := HKK.out; rw [show ((k + 1 + 1 : Nat) : Int) = (k1 : Int) + 1 by omega], HKK.out ▸ HV.out, ext_drewN hx _⟩
        case measure => simp [intOf]; omega
    · have HV := Lib.hid (isWlk_y (p := p) (s := s) HD.out ((show k + 1 = s.size by omega) ▸ HW.out))
      go_wp2
      go_ret
      exact ⟨ret_bool HV.out.symm, x1.trans hx⟩

/-! ### IsWalk -/
def iwV (s t : ByteArray) : Bool := isP s && isWlk (pcI s) t
theorem iwV_no {s t : ByteArray} (h : isP s = false) : iwV s t = false := by unfold iwV; rw [h]; rfl
theorem iwV_yes {p : Nat} {t : ByteArray} (h : p < 4) : iwV (pcT p) t = isWlk p t := by unfold iwV; rw [isP_pc p h, pcI_T h]; rfl
theorem ret_BB {a a' b b' : Bool} (h : a = a') (h2 : b = b') : Ending.returned (.tuple #[.bool a, .bool b]) = .returned (.tuple #[.bool a', .bool b']) := by rw [h, h2]

theorem iwS_any (s t : ByteArray) (w : World) (_hs : s.size ≤ maxLen) (ht : t.size ≤ maxLen) : Calls Tryz.prog 93 #[.string s, .string t] w fun e w' => e = .returned (.tuple #[.bool (iwV s t), .bool (isP s)]) ∧ Ext w w' := by
  cases h : isP s
  · have HV := Lib.hid (iwV_no (t := t) h)
    go_enter Tryz.func93, Tryz.ntmps93
    go_wp2_with (go_at_call 117; refine (wkPiece_any _ _).mono ?_; rintro e w' ⟨rfl, rfl⟩; rw [h])
    go_ret2
    exact ⟨ret_BB HV.out.symm rfl, Ext.refl _⟩
  obtain ⟨p, hp, rfl⟩ := isP_yes h
  rw [iwV_yes hp]
  go_enter Tryz.func93, Tryz.ntmps93
  go_wp2_with (first | (go_at_call 117; refine (wkPiece_any _ _).mono ?_; rintro e w' ⟨rfl, rfl⟩; rw [h]) | (go_at_call 118; refine (wkWalk_any p t _ hp ht).mono ?_; rintro e w1 ⟨rfl, x1⟩))
  go_ret2
  exact ⟨rfl, x1⟩
end Go.Proofs.YtpdnpphjlnlneaaGreatDoor
