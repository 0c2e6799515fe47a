/- The places of single keys and their distances: the program's and the model's alike. No conditions. -/
import Derived.Test.YtpdnpphjlnlneaaGreatDoorDial
import Derived.Lib.MinMax
import Derived.Deep.QuietTactic
import Derived.BigQuiet
import Derived.Deep.RegionWith
namespace Go.Proofs.YtpdnpphjlnlneaaGreatDoor
open Go.RowKit

theorem ext1 (s : ByteArray) (k : Nat) (h : k < s.size) : s.extract k (k + 1) = ⟨#[s[k]]⟩ := by
  apply ByteArray.ext
  rw [ByteArray.data_extract]
  apply Array.ext
  · rw [Array.size_extract]
    have : s.data.size = s.size := rfl
    simp only [List.size_toArray, List.length_cons, List.length_nil]
    omega
  · intro i h1 h2
    have h3 : i = 0 := by simp only [List.size_toArray, List.length_cons, List.length_nil] at h2; omega
    subst h3
    rw [Array.getElem_extract]
    rfl
theorem one_eq {s : ByteArray} (h : s.size = 1) : s = ⟨#[s[0]'(by omega)]⟩ := by
  rw [← ext1 s 0 (by omega)]
  apply ByteArray.ext
  rw [ByteArray.data_extract]
  apply Array.ext
  · rw [Array.size_extract]
    have : s.data.size = s.size := rfl
    omega
  · intro i h1 h2
    rw [Array.getElem_extract]
    simp

theorem ixS (s : ByteArray) (k : Nat) (hk : k < s.size) (w : World) : (Instr.index 9 (.string s) (.int .i64 (k : Int))).run Tryz.prog w = .ok (.int .u8 s[k].toNat) w := by
  have h1 : (0 : Int) ≤ (k : Int) := by omega
  have h2 : (k : Int) < (s.size : Int) := by omega
  simp [go_sem, hk]
theorem ixS0 (s : ByteArray) (hk : 0 < s.size) (w : World) : (Instr.index 9 (.string s) (.int .i64 0)).run Tryz.prog w = .ok (.int .u8 (s[0]'hk).toNat) w := ixS s 0 hk w

set_option maxRecDepth 100000 in
set_option maxHeartbeats 1000000 in
theorem index1_any (b : UInt8) (w : World) : Calls Tryz.prog 141 #[.string ⟨#[49, 50, 51, 52, 53, 54, 55, 56, 57, 42, 48, 35]⟩, .string ⟨#[b]⟩] w fun e w' => e = .returned (.int .i64 (plc b.toNat)) ∧ w = w' := by
  have hz : 0 < (⟨#[b]⟩ : ByteArray).size := Nat.zero_lt_one
  have he : ∀ w, (callFunc 137 #[.string ⟨#[49, 50, 51, 52, 53, 54, 55, 56, 57, 42, 48, 35]⟩, .int .u8 ((⟨#[b]⟩ : ByteArray)[0]'hz).toNat]).run Tryz.prog w = .ok (.value (.int .i64 (plc b.toNat))) w := fun w => by
    rw [run_callFunc_extern Tryz.func137 (by kernel_rfl) (by kernel_rfl) (by kernel_rfl) (e := Extern.BytealgIndexByte.indexByte) (by kernel_rfl), Lib.run_indexByteString]
    rfl
  go_enter Tryz.func141, Tryz.ntmps141
  go_wp2
  go_ret
  exact ⟨rfl, rfl⟩

theorem index_any (b : UInt8) (w : World) : Calls Tryz.prog 125 #[.string ⟨#[49, 50, 51, 52, 53, 54, 55, 56, 57, 42, 48, 35]⟩, .string ⟨#[b]⟩] w fun e w' => e = .returned (.int .i64 (plc b.toNat)) ∧ w = w' := by
  go_enter Tryz.func125, Tryz.ntmps125
  go_wp2_with (go_at_call 141; refine (index1_any _ _).mono ?_; rintro e w' ⟨rfl, rfl⟩)
  go_ret
  exact ⟨rfl, rfl⟩
theorem placeB_any (b : UInt8) (w : World) (h : isK b.toNat = true) : Calls Tryz.prog 102 #[.string ⟨#[b]⟩] w fun e w' => e = .returned (.int .i64 (pn b : Nat)) ∧ w = w' := by
  rw [← plc_pn h]
  go_enter Tryz.func102, Tryz.ntmps102
  go_wp2_with (go_at_call 125; refine (index_any _ _).mono ?_; rintro e w' ⟨rfl, rfl⟩)
  go_ret
  exact ⟨rfl, rfl⟩
theorem place1_any (s : ByteArray) (w : World) (h : oneD s = true) : Calls Tryz.prog 102 #[.string s] w fun e w' => e = .returned (.int .i64 (p1 s : Nat)) ∧ w = w' := by
  have h1 := oneD_size h
  have h2 := one_eq h1
  rw [p1_at (by omega)]
  have h3 := placeB_any _ w (oneD_get h)
  rw [← h2] at h3
  exact h3
theorem placeX_any (s : ByteArray) (k : Nat) (w : World) (h : isD s = true) (hk : k < s.size) : Calls Tryz.prog 102 #[.string (s.extract k (k + 1))] w fun e w' => e = .returned (.int .i64 (pn s[k] : Nat)) ∧ w = w' := by
  rw [ext1 s k hk]
  exact placeB_any _ w (isD_get h k hk)

theorem padRow_any (p : Nat) (w : World) (hp : p < 12) : Calls Tryz.prog 140 #[.int .i64 p] w fun e w' => e = .returned (.int .i64 ((p / 3 : Nat) : Int)) ∧ w = w' := by
  go_enter Tryz.func140, Tryz.ntmps140
  go_wp2
  go_ret
  exact ⟨ret_iD (by omega), rfl⟩

theorem padCol_any (p : Nat) (w : World) (hp : p < 12) : Calls Tryz.prog 139 #[.int .i64 p] w fun e w' => e = .returned (.int .i64 ((p % 3 : Nat) : Int)) ∧ w = w' := by
  go_enter Tryz.func139, Tryz.ntmps139
  go_wp2
  go_ret
  exact ⟨ret_iD (by omega), rfl⟩

set_option maxHeartbeats 1000000 in
theorem pdist_any (p q : Nat) (c : Bool) (w : World) (hp : p < 12) (hq : q < 12) : Calls Tryz.prog 124 #[.int .i64 p, .int .i64 q, .bool c] w fun e w' => e = .returned (.int .i64 (far c p q : Nat)) ∧ w = w' := by
  cases c
  · go_enter Tryz.func124, Tryz.ntmps124
    go_wp2_with (first | (go_at_call 139; refine (padCol_any _ _ (by assumption)).mono ?_; rintro e w' ⟨rfl, rfl⟩) | (go_at_call 140; refine (padRow_any _ _ (by assumption)).mono ?_; rintro e w' ⟨rfl, rfl⟩))
    go_ret
    exact ⟨ret_iD (by rw [far_no]; unfold absd; omega), rfl⟩
  · go_enter Tryz.func124, Tryz.ntmps124
    go_wp2_with (first | (go_at_call 139; refine (padCol_any _ _ (by assumption)).mono ?_; rintro e w' ⟨rfl, rfl⟩) | (go_at_call 140; refine (padRow_any _ _ (by assumption)).mono ?_; rintro e w' ⟨rfl, rfl⟩))
    go_ret
    exact ⟨ret_iD (by rw [far_yes]; unfold absd; omega), rfl⟩

/-! ### The model's -/
theorem absA_any (a : Int) (w : World) (h : -100 ≤ a) (h2 : a ≤ 100) : Calls Tryz.prog 157 #[.int .i64 a] w fun e w' => e = .returned (.int .i64 (a.natAbs : Nat)) ∧ w = w' := by
  by_cases h0 : a < 0
  · go_enter Tryz.func157, Tryz.ntmps157
    go_wp2
    all_goals go_ret
    all_goals exact ⟨ret_iD (by omega), rfl⟩
  · go_enter Tryz.func157, Tryz.ntmps157
    go_wp2
    all_goals go_ret
    all_goals exact ⟨ret_iD (by omega), rfl⟩

theorem most_any (a b : Int) (w : World) : Calls Tryz.prog 158 #[.int .i64 a, .int .i64 b] w fun e w' => e = .returned (.int .i64 (max a b)) ∧ w = w' := by
  by_cases h0 : a < b
  · go_enter Tryz.func158, Tryz.ntmps158
    go_wp2
    all_goals go_ret
    all_goals exact ⟨ret_iD (by omega), rfl⟩
  · go_enter Tryz.func158, Tryz.ntmps158
    go_wp2
    all_goals go_ret
    all_goals exact ⟨ret_iD (by omega), rfl⟩

theorem thPl_any (b : UInt8) (w : World) (h : isK b.toNat = true) : Calls Tryz.prog 133 #[.int .u8 b.toNat] w fun e w' => e = .returned (.int .i64 (pn b : Nat)) ∧ w = w' := by
  rw [← plc_pn h]
  exact thPlace_any b w

set_option maxHeartbeats 1000000 in
theorem thFar_any (a b : UInt8) (c : Bool) (w : World) (ha : isK a.toNat = true) (hb : isK b.toNat = true) : Calls Tryz.prog 134 #[.int .u8 a.toNat, .int .u8 b.toNat, .bool c] w fun e w' => e = .returned (.int .i64 (far c (pn a) (pn b) : Nat)) ∧ w = w' := by
  have k1 := pn_lt a
  have k2 := pn_lt b
  cases c
  · go_enter Tryz.func134, Tryz.ntmps134
    go_wp2_with (first | (go_at_call 133; refine (thPl_any _ _ (by assumption)).mono ?_; rintro e w' ⟨rfl, rfl⟩) | (go_at_call 157; refine (absA_any _ _ (by omega) (by omega)).mono ?_; rintro e w' ⟨rfl, rfl⟩))
    go_ret
    exact ⟨ret_iD (by rw [far_no]; unfold absd; omega), rfl⟩
  · go_enter Tryz.func134, Tryz.ntmps134
    go_wp2_with (first | (go_at_call 133; refine (thPl_any _ _ (by assumption)).mono ?_; rintro e w' ⟨rfl, rfl⟩) | (go_at_call 157; refine (absA_any _ _ (by omega) (by omega)).mono ?_; rintro e w' ⟨rfl, rfl⟩) | (go_at_call 158; refine (most_any _ _ _).mono ?_; rintro e w' ⟨rfl, rfl⟩))
    go_ret
    exact ⟨ret_iD (by rw [far_yes]; unfold absd; omega), rfl⟩

theorem p1_get {s : ByteArray} (h : oneD s = true) : pn (s[0]'(by have := oneD_size h; omega)) = p1 s := (p1_at _).symm
end Go.Proofs.YtpdnpphjlnlneaaGreatDoor
