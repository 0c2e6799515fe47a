/- Does a number fit a clue: the exported functions, both sides. No conditions. -/
import Derived.Test.YtpdnpphjlnlneaaGreatDoorFit
namespace Go.Proofs.YtpdnpphjlnlneaaGreatDoor
open Go.RowKit

set_option maxHeartbeats 400000 in
theorem piDig_any (s : ByteArray) (lo hi : Int) (w : World) (hs : s.size ≤ maxLen) : Calls Tryz.prog 78 #[.string s, .int .i64 lo, .int .i64 hi] w fun e w' => e = .returned (.bool (isDg lo hi s)) ∧ w = w' := by
  unfold maxLen at hs
  by_cases h1 : (s.size : Int) < lo
  · have H := Lib.hid (isDg_short (hi := hi) h1)
    have hi := inW_lo (n := s.size) (lo := lo) (hi := hi) (by omega)
    go_enter Tryz.func78, Tryz.ntmps78
    go_wp2_with (go_at_call 73; refine (inW_any _ _ _ _).mono ?_; rintro e w' ⟨rfl, rfl⟩; rw [hi])
    go_ret
    exact ⟨ret_bool H.out.symm, rfl⟩
  by_cases h2 : hi < (s.size : Int)
  · have H := Lib.hid (isDg_long (lo := lo) h2)
    have hi := inW_hi (n := s.size) (lo := lo) (hi := hi) (by omega)
    go_enter Tryz.func78, Tryz.ntmps78
    go_wp2_with (go_at_call 73; refine (inW_any _ _ _ _).mono ?_; rintro e w' ⟨rfl, rfl⟩; rw [hi])
    go_ret
    exact ⟨ret_bool H.out.symm, rfl⟩
  have hi0 := inW_yes (n := s.size) (lo := lo) (hi := hi) (by omega) (by omega)
  go_enter Tryz.func78, Tryz.ntmps78
  go_wp2_with (go_at_call 73; refine (inW_any _ _ _ _).mono ?_; rintro e w' ⟨rfl, rfl⟩; rw [hi0])
  clear hi0
  go_loop [7] (fun i => ∃ k : Nat, k ≤ s.size ∧ i = .int .i64 k ∧ (s.data.toList.take k).all (fun c => isg c.toNat) = true) (fun i => s.size - (intOf i).toNat)
  case atStart => exact ⟨0, Nat.zero_le _, rfl, rfl⟩
  case round =>
    obtain ⟨k, hk, rfl, hall⟩ := hrel
    have HA := Lib.hid hall
    clear hall
    by_cases hlt : k < s.size
    · by_cases hA : s[k].toNat < 48
      · have HV := Lib.hid (isDg_no (lo := lo) (hi := hi) k hlt (isg_lo (by omega)))
        go_wp2
        go_ret
        exact ⟨ret_bool HV.out.symm, rfl⟩
      by_cases hB : 57 < s[k].toNat
      · have HV := Lib.hid (isDg_no (lo := lo) (hi := hi) k hlt (isg_hi (by omega)))
        go_wp2
        go_ret
        exact ⟨ret_bool HV.out.symm, rfl⟩
      have HN := Lib.hid (show (s.data.toList.take (k + 1)).all (fun c => isg c.toNat) = true by
        rw [isWk_take s k hlt, HA.out, isg_of (by omega) (by omega)]; rfl)
      go_wp2
      go_round
      case rel => exact ⟨k + 1, by omega, by go_num, HN.out⟩
      case measure => simp [intOf]; omega
    · have HV := Lib.hid (isDg_yes (s := s) (lo := lo) (hi := hi) (by omega) (by omega) (by have := HA.out; rw [List.take_of_length_le (by simp; omega)] at this; exact this))
      go_wp2
      go_ret
      exact ⟨ret_bool HV.out.symm, rfl⟩
theorem pzHid_any (n : ByteArray) (w : World) (hn : n.size ≤ maxLen) : Calls Tryz.prog 48 #[.string n] w fun e w' => e = .returned (.bool (isDg 2 3 n)) ∧ w = w' := by
  go_enter Tryz.func48, Tryz.ntmps48
  go_wp2_with (go_at_call 78; refine (piDig_any _ _ _ _ hn).mono ?_; rintro e w' ⟨rfl, rfl⟩)
  go_ret
  exact ⟨rfl, rfl⟩
theorem isHid_any (n : ByteArray) (w : World) (hn : n.size ≤ maxLen) : Calls Tryz.prog 51 #[.string n] w fun e w' => e = .returned (.bool (isDg 2 3 n)) ∧ w = w' := by
  go_enter Tryz.func51, Tryz.ntmps51
  go_wp2_with (go_at_call 80; refine (areDig_any _ _ _ _ hn).mono ?_; rintro e w' ⟨rfl, rfl⟩)
  go_ret
  exact ⟨rfl, rfl⟩

def dfOk (g : Cl) (n : ByteArray) : Bool := isDg 2 3 n && isCl (n.size : Int) g
def dfV (g : Cl) (n : ByteArray) : Bool := dfOk g n && fitC g n
theorem dfOk_n {g : Cl} {n : ByteArray} (h : isDg 2 3 n = false) : dfOk g n = false := by unfold dfOk; rw [h]; rfl
theorem dfOk_c {g : Cl} {n : ByteArray} (h : isDg 2 3 n = true) (h2 : isCl (n.size : Int) g = false) : dfOk g n = false := by unfold dfOk; rw [h, h2]; rfl
theorem dfOk_y {g : Cl} {n : ByteArray} (h : isDg 2 3 n = true) (h2 : isCl (n.size : Int) g = true) : dfOk g n = true := by unfold dfOk; rw [h, h2]; rfl
theorem dfV_no {g : Cl} {n : ByteArray} (h : dfOk g n = false) : dfV g n = false := by unfold dfV; rw [h]; rfl
theorem dfV_yes {g : Cl} {n : ByteArray} (h : dfOk g n = true) : dfV g n = fitC g n := by unfold dfV; rw [h]; rfl
theorem ret_2b {a a' b b' : Bool} (h : a = a') (h2 : b = b') : Ending.returned (.tuple #[.bool a, .bool b]) = .returned (.tuple #[.bool a', .bool b']) := by rw [h, h2]

set_option maxRecDepth 100000 in
set_option maxHeartbeats 2000000 in
theorem dfS_any (g : Cl) (n : ByteArray) (w : World) (_hg : g.ok) (hn : n.size ≤ maxLen) : Calls Tryz.prog 14 #[.agg #[.int .i64 g.k, .int .i64 g.a, .int .i64 g.b], .string n] w fun e w' => e = .returned (.tuple #[.bool (dfV g n), .bool (dfOk g n)]) ∧ Ext w w' := by
  have X0 := Lib.hid (show Ext w (w.alloc (.cells #[.int .i64 g.k, .int .i64 g.a, .int .i64 g.b] 26)) from (Ext.refl w).alloc _)
  cases h1 : isDg 2 3 n
  · have HO := Lib.hid (dfOk_n (g := g) h1)
    have HV := Lib.hid (dfV_no HO.out)
    go_enter Tryz.func14, Tryz.ntmps14
    go_wp2_with (go_at_call 48; refine (pzHid_any _ _ hn).mono ?_; rintro e w' ⟨rfl, rfl⟩; rw [h1])
    go_ret2
    exact ⟨ret_2b HV.out.symm HO.out.symm, X0.out⟩
  obtain ⟨z1, z2⟩ := isHid_bd h1
  have HH := Lib.hid h1
  cases h2 : isCl (n.size : Int) g
  · have HO := Lib.hid (dfOk_c h1 h2)
    have HV := Lib.hid (dfV_no HO.out)
    have HC := Lib.hid (fun w => (show Calls Tryz.prog 49 #[.int .i64 (n.size : Int), .agg #[.int .i64 g.k, .int .i64 g.a, .int .i64 g.b]] w fun e w' => e = .returned (.bool false) ∧ Ext w w' from by have := pzClue_any (n.size : Int) g.k g.a g.b w (by omega); rw [show clB (n.size : Int) g.k g.a g.b = isCl (n.size : Int) g from rfl, h2] at this; exact this))
    go_enter Tryz.func14, Tryz.ntmps14
    go_wp2_with (first | (go_at_call 48; refine (pzHid_any _ _ hn).mono ?_; rintro e w' ⟨rfl, rfl⟩; rw [h1]) | (go_at_call 49; refine (HC.out _).mono ?_; rintro e w1 ⟨rfl, x1⟩))
    go_ret2
    exact ⟨ret_2b HV.out.symm HO.out.symm, X0.out.trans x1⟩
  · have HO := Lib.hid (dfOk_y h1 h2)
    have HV := Lib.hid (dfV_yes HO.out)
    have HC := Lib.hid (fun w => (show Calls Tryz.prog 49 #[.int .i64 (n.size : Int), .agg #[.int .i64 g.k, .int .i64 g.a, .int .i64 g.b]] w fun e w' => e = .returned (.bool true) ∧ Ext w w' from by have := pzClue_any (n.size : Int) g.k g.a g.b w (by omega); rw [show clB (n.size : Int) g.k g.a g.b = isCl (n.size : Int) g from rfl, h2] at this; exact this))
    have HF := Lib.hid (fun w => pzFit_any g n w h1 h2)
    obtain ⟨x, hx⟩ : ∃ x, x = fitC g n := ⟨_, rfl⟩
    rw [← hx] at HV HF
    clear hx h2
    go_enter Tryz.func14, Tryz.ntmps14
    go_wp2_with (first | (go_at_call 48; refine (pzHid_any _ _ hn).mono ?_; rintro e w' ⟨rfl, rfl⟩; rw [h1]) | (go_at_call 49; refine (HC.out _).mono ?_; rintro e w1 ⟨rfl, x1⟩; obtain ⟨d0, d1, d2⟩ := cl_cells x1) | (go_at_call 50; refine (HF.out _).mono ?_; rintro e w2 ⟨rfl, x2⟩))
    go_ret2
    exact ⟨ret_2b HV.out.symm HO.out.symm, X0.out.trans (x1.trans x2)⟩

set_option maxRecDepth 100000 in
set_option maxHeartbeats 2000000 in
theorem dfP_any (g : Cl) (n : ByteArray) (w : World) (hg : g.ok) (hn : n.size ≤ maxLen) : Calls Tryz.prog 16 #[.agg #[.int .i64 g.k, .int .i64 g.a, .int .i64 g.b], .string n] w fun e w' => e = .returned (.tuple #[.bool (dfV g n), .bool (dfOk g n)]) ∧ Ext w w' := by
  have X0 := Lib.hid (show Ext w (w.alloc (.cells #[.int .i64 g.k, .int .i64 g.a, .int .i64 g.b] 26)) from (Ext.refl w).alloc _)
  cases h1 : isDg 2 3 n
  · have HO := Lib.hid (dfOk_n (g := g) h1)
    have HV := Lib.hid (dfV_no HO.out)
    go_enter Tryz.func16, Tryz.ntmps16
    go_wp2_with (go_at_call 51; refine (isHid_any _ _ hn).mono ?_; rintro e w' ⟨rfl, rfl⟩; rw [h1])
    go_ret2
    exact ⟨ret_2b HV.out.symm HO.out.symm, X0.out⟩
  obtain ⟨z1, z2⟩ := isHid_bd h1
  have HH := Lib.hid h1
  cases h2 : isCl (n.size : Int) g
  · have HO := Lib.hid (dfOk_c h1 h2)
    have HV := Lib.hid (dfV_no HO.out)
    have HC := Lib.hid (fun w => (show Calls Tryz.prog 52 #[.int .i64 (n.size : Int), .agg #[.int .i64 g.k, .int .i64 g.a, .int .i64 g.b]] w fun e w' => e = .returned (.bool false) ∧ Ext w w' from by have := isClP_any (n.size : Int) g.k g.a g.b w hg; rw [inW_yes (show (2 : Int) ≤ (n.size : Int) by omega) (show (n.size : Int) ≤ 3 by omega), show clB (n.size : Int) g.k g.a g.b = isCl (n.size : Int) g from rfl, h2] at this; exact this))
    go_enter Tryz.func16, Tryz.ntmps16
    go_wp2_with (first | (go_at_call 51; refine (isHid_any _ _ hn).mono ?_; rintro e w' ⟨rfl, rfl⟩; rw [h1]) | (go_at_call 52; refine (HC.out _).mono ?_; rintro e w1 ⟨rfl, x1⟩))
    go_ret2
    exact ⟨ret_2b HV.out.symm HO.out.symm, X0.out.trans x1⟩
  · have HO := Lib.hid (dfOk_y h1 h2)
    have HV := Lib.hid (dfV_yes HO.out)
    have HC := Lib.hid (fun w => (show Calls Tryz.prog 52 #[.int .i64 (n.size : Int), .agg #[.int .i64 g.k, .int .i64 g.a, .int .i64 g.b]] w fun e w' => e = .returned (.bool true) ∧ Ext w w' from by have := isClP_any (n.size : Int) g.k g.a g.b w hg; rw [inW_yes (show (2 : Int) ≤ (n.size : Int) by omega) (show (n.size : Int) ≤ 3 by omega), show clB (n.size : Int) g.k g.a g.b = isCl (n.size : Int) g from rfl, h2] at this; exact this))
    have HF := Lib.hid (fun w => fits_any g n w h1 h2)
    obtain ⟨x, hx⟩ : ∃ x, x = fitC g n := ⟨_, rfl⟩
    rw [← hx] at HV HF
    clear hx h2
    go_enter Tryz.func16, Tryz.ntmps16
    go_wp2_with (first | (go_at_call 51; refine (isHid_any _ _ hn).mono ?_; rintro e w' ⟨rfl, rfl⟩; rw [h1]) | (go_at_call 52; refine (HC.out _).mono ?_; rintro e w1 ⟨rfl, x1⟩; obtain ⟨d0, d1, d2⟩ := cl_cells x1) | (go_at_call 53; refine (HF.out _).mono ?_; rintro e w2 ⟨rfl, x2⟩))
    go_ret2
    exact ⟨ret_2b HV.out.symm HO.out.symm, X0.out.trans (x1.trans x2)⟩

end Go.Proofs.YtpdnpphjlnlneaaGreatDoor
