/- Whether a text has letters only, and not too many of them: the program's test and its model's. No conditions. -/
import Derived.Test.YtmpajijnpoekgabWord
import Derived.Test.YtmpajijnpoekgabPad
import Derived.Lib.OthersKept
import Derived.Laws.RangeAny
import Derived.Deep.QuietTactic
import Derived.BigQuiet
namespace Go.Proofs.Ytmpajijnpoekgab
open Go.RowKit

def allL (s : ByteArray) : Bool := s.data.toList.all fun c => isL c.toNat
def isT (n : Nat) (s : ByteArray) : Bool := decide (s.size ≤ n) && allL s
theorem isT_big {n : Nat} {s : ByteArray} (h : n < s.size) : isT n s = false := by
  unfold isT
  rw [decide_eq_false (by omega)]
  rfl
theorem allL_no {s : ByteArray} (k : Nat) (h : k < s.size) (hL : isL s[k].toNat = false) : allL s = false := by
  have hm : s[k] ∈ s.data.toList := by
    have h2 : k < s.data.toList.length := by simpa using h
    have : s.data.toList[k] = s[k] := rfl
    rw [← this]; exact List.getElem_mem h2
  unfold allL
  rw [List.all_eq_false]; exact ⟨_, hm, by simp [hL]⟩
theorem isT_no {n : Nat} {s : ByteArray} (k : Nat) (h : k < s.size) (hL : isL s[k].toNat = false) : isT n s = false := by
  unfold isT
  rw [allL_no k h hL, Bool.and_false]
theorem isT_yes {n : Nat} {s : ByteArray} (h : s.size ≤ n) (h2 : (s.data.toList.take s.size).all (fun c => isL c.toNat) = true) : isT n s = true := by
  unfold isT allL
  rw [List.take_of_length_le (by simp)] at h2
  rw [decide_eq_true h, h2]
  rfl
theorem isT_size {n : Nat} {s : ByteArray} (h : isT n s = true) : s.size ≤ n := by
  unfold isT at h
  simp only [Bool.and_eq_true, decide_eq_true_eq] at h
  exact h.1
theorem isT_get {n : Nat} {s : ByteArray} (h : isT n s = true) (k : Nat) (hk : k < s.size) : isL s[k].toNat = true := by
  unfold isT allL at h
  simp only [Bool.and_eq_true, List.all_eq_true] at h
  have h2 : k < s.data.toList.length := by simpa using hk
  exact h.2 s[k] (List.getElem_mem h2)
theorem isT_bd {n : Nat} {s : ByteArray} (h : isT n s = true) (k : Nat) (hk : k < s.size) : 97 ≤ s[k].toNat ∧ s[k].toNat ≤ 122 := by
  have := isT_get h k hk
  unfold isL at this
  simp only [Bool.and_eq_true, decide_eq_true_eq] at this
  omega
theorem isL_of {c : Nat} (h : 97 ≤ c) (h2 : c ≤ 122) : isL (c : Int) = true := by
  unfold isL
  rw [decide_eq_true (by omega), decide_eq_true (by omega)]
  rfl
theorem isL_lo {c : Nat} (h : c < 97) : isL (c : Int) = false := by
  unfold isL
  rw [decide_eq_false (by omega)]
  rfl
theorem isL_hi {c : Nat} (h : 122 < c) : isL (c : Int) = false := by
  unfold isL
  rw [decide_eq_false (show ¬ (c : Int) ≤ 122 by omega), Bool.and_false]

/-- The sign at a place. -/
def sg (s : ByteArray) (k : Nat) : UInt8 := s.data.toList.getD k 0
theorem sg_at (s : ByteArray) (k : Nat) (h : k < s.size) : s[k] = sg s k := by
  unfold sg
  rw [List.getD_eq_getElem?_getD, List.getElem?_eq_getElem (by simpa using h)]
  rfl
theorem ixB (s : ByteArray) (k : Nat) (hk : k < s.size) (w : World) : (Instr.index 9 (.string s) (.int .i64 (k : Int))).run Try.prog w = .ok (.int .u8 ((sg s k).toNat : Int)) w := by
  have h1 : (0 : Int) ≤ (k : Int) := by omega
  have h2 : (k : Int) < (s.size : Int) := by omega
  rw [← sg_at s k hk]
  simp [go_sem, hk]
theorem sg_bd {n : Nat} {s : ByteArray} (h : isT n s = true) (k : Nat) (hk : k < s.size) : 97 ≤ (sg s k).toNat ∧ (sg s k).toNat ≤ 122 := by
  rw [← sg_at s k hk]; exact isT_bd h k hk
theorem iter_ext {w w' : World} {k : Nat} {q : ByteArray} {p : Nat} (h : w.heap[k]? = some (.stringIter q p)) (hx : Ext w w') : w'.heap[k]? = some (.stringIter q p) := (hx.block k (Array.getElem?_eq_some_iff.1 h).1).trans h
theorem ext_iter {a w : World} (h : Ext a w) {k : Nat} (hk : a.heap.size ≤ k) (q : ByteArray) (p : Nat) : Ext a (w.iterAt k q p) := Lib.below_iterAt h hk q p

set_option maxRecDepth 100000 in
set_option maxHeartbeats 1000000 in
theorem hasL_any (s : ByteArray) (n : Nat) (w : World) (_hs : s.size ≤ maxLen) : Calls Try.prog 106 #[.string s, .int .i64 n] w fun e w' => e = .returned (.bool (isT n s)) ∧ Ext w w' := by
  unfold maxLen at _hs
  by_cases h1 : n < s.size
  · have HV := Lib.hid (isT_big h1)
    go_enter Try.func106, Try.ntmps106
    go_wp2
    go_ret
    exact ⟨ret_bool HV.out.symm, Ext.refl _⟩
  have hle : s.size ≤ n := by omega
  have hit0 : (w.iter s 0).heap[w.heap.size]? = some (.stringIter s 0) := World.iter_heap _ _ _
  have hx0 : Ext w (w.iter s 0) := Below.alloc (Ext.refl _) (Nat.le_refl _) _
  go_enter Try.func106, Try.ntmps106
  go_wp2
  obtain ⟨K, hK⟩ : ∃ K, K = w.heap.size := ⟨_, rfl⟩
  have hKw : w.heap.size ≤ K := by omega
  rw [← hK] at hit0 ⊢
  clear hK
  go_loopw [6] (fun _ wr => ∃ p : Nat, p ≤ s.size ∧ (s.data.toList.take p).all (fun c => isL c.toNat) = true ∧ wr.heap[K]? = some (.stringIter s p) ∧ Ext w wr) (fun _ wr => s.size - wr.iterPos K)
  case atStart => exact ⟨0, Nat.zero_le _, rfl, hit0, hx0⟩
  case round =>
    obtain ⟨p, hp, hall, hit, hx⟩ := hrel
    have HA := Lib.hid hall
    clear hall
    by_cases hlt : p < s.size
    · by_cases ha : s[p].toNat < 128
      · have hnx := fun ty => Lib.run_next_ascii_at (P := Try.prog) wr K s p ty hit hlt ha
        have hit2 := Lib.iterAt_heap wr K s p (p + 1) hit
        have hx1 := ext_iter hx hKw s (p + 1)
        obtain ⟨c, hc⟩ : ∃ c, c = s[p].toNat := ⟨_, rfl⟩
        have HC := Lib.hid hc
        rw [← hc] at hnx ha
        clear hc
        by_cases hA : c < 97
        · have HV := Lib.hid (isT_no (n := n) p hlt (by rw [← HC.out]; exact isL_lo hA))
          go_wp2
          go_ret
          exact ⟨ret_bool HV.out.symm, hx1⟩
        by_cases hB : 122 < c
        · have HV := Lib.hid (isT_no (n := n) p hlt (by rw [← HC.out]; exact isL_hi hB))
          go_wp2
          go_ret
          exact ⟨ret_bool HV.out.symm, hx1⟩
        have HN := Lib.hid (show (s.data.toList.take (p + 1)).all (fun c => isL c.toNat) = true by
          rw [isW_take s p hlt, HA.out, ← HC.out, isL_of (by omega) (by omega)]; rfl)
        go_wp2
        refine ⟨⟨p + 1, by omega, HN.out, hit2, hx1⟩, ?_⟩
        simp only [World.iterPos, hit2, hit]
        omega
      · have hnx := fun ty => Lib.run_next_any_at (P := Try.prog) wr K s p ty hit hlt
        have HV := Lib.hid (isT_no (n := n) p hlt (isL_hi (by omega)))
        have hx1 := ext_iter hx hKw s (p + (Utf8.decode s p).2)
        have hd := (decode_high s p hlt (by omega)).1
        have hd2 := decode_le s p
        obtain ⟨r, hr⟩ : ∃ r, r = (Utf8.decode s p).1 := ⟨_, rfl⟩
        rw [← hr] at hnx hd hd2
        clear hr ha
        go_wp2
        go_ret
        exact ⟨ret_bool HV.out.symm, hx1⟩
    · have hnx := fun ty => Lib.run_next_end_at (P := Try.prog) wr K s p ty hit hlt
      obtain rfl : p = s.size := by omega
      have HV := Lib.hid (isT_yes hle HA.out)
      go_wp2
      go_ret
      exact ⟨ret_bool HV.out.symm, hx⟩

set_option maxRecDepth 100000 in
theorem isTyped_any (s : ByteArray) (w : World) (hs : s.size ≤ maxLen) : Calls Try.prog 81 #[.string s] w fun e w' => e = .returned (.bool (isT 20 s)) ∧ Ext w w' := by
  go_enter Try.func81, Try.ntmps81
  go_wp2_with (go_at_call 106; refine (hasL_any s 20 _ hs).mono ?_; rintro e w1 ⟨rfl, x1⟩)
  go_ret
  exact ⟨rfl, x1⟩

set_option maxRecDepth 100000 in
theorem areTyped_any (s t : ByteArray) (w : World) (hs : s.size ≤ maxLen) (ht : t.size ≤ maxLen) : Calls Try.prog 74 #[.string s, .string t] w fun e w' => e = .returned (.bool (isT 20 s && isT 20 t)) ∧ Ext w w' := by
  cases h : isT 20 s
  · go_enter Try.func74, Try.ntmps74
    go_wp2_with (go_at_call 81; refine (isTyped_any s _ hs).mono ?_; rintro e w1 ⟨rfl, x1⟩; rw [h])
    go_ret
    exact ⟨rfl, x1⟩
  · go_enter Try.func74, Try.ntmps74
    go_wp2_with (first | (go_at_call 81; refine (isTyped_any s _ hs).mono ?_; rintro e w1 ⟨rfl, x1⟩; rw [h]) | (go_at_call 81; refine (isTyped_any t _ ht).mono ?_; rintro e w2 ⟨rfl, x2⟩))
    go_ret
    exact ⟨rfl, x1.trans x2⟩

set_option maxRecDepth 100000 in
set_option maxHeartbeats 1000000 in
theorem bkText_any (s : ByteArray) (w : World) (hs : s.size ≤ maxLen) : Calls Try.prog 79 #[.string s] w fun e w' => e = .returned (.bool (isT 20 s)) ∧ w = w' := by
  unfold maxLen at hs
  by_cases h1 : 20 < s.size
  · have HV := Lib.hid (isT_big h1)
    go_enter Try.func79, Try.ntmps79
    go_wp2
    go_ret
    exact ⟨ret_bool HV.out.symm, rfl⟩
  have hle : s.size ≤ 20 := by omega
  go_enter Try.func79, Try.ntmps79
  go_wp2
  go_loop [3] (fun i => ∃ k : Nat, k ≤ s.size ∧ i = .int .i64 k ∧ (s.data.toList.take k).all (fun c => isL c.toNat) = true) (fun i => s.size - (intOf i).toNat)
  case atStart => exact ⟨0, Nat.zero_le _, rfl, rfl⟩
  case round =>
    obtain ⟨k, hk, rfl, hall⟩ := hrel
    have HA := Lib.hid hall
    clear hall
    by_cases hlt : k < s.size
    · by_cases hA : s[k].toNat < 97
      · have HV := Lib.hid (isT_no (n := 20) k hlt (isL_lo hA))
        go_wp2
        go_ret
        exact ⟨ret_bool HV.out.symm, rfl⟩
      by_cases hB : 122 < s[k].toNat
      · have HV := Lib.hid (isT_no (n := 20) k hlt (isL_hi hB))
        go_wp2
        go_ret
        exact ⟨ret_bool HV.out.symm, rfl⟩
      have HN := Lib.hid (show (s.data.toList.take (k + 1)).all (fun c => isL c.toNat) = true by
        rw [isW_take s k hlt, HA.out, isL_of (by omega) (by omega)]; rfl)
      go_wp2
      go_round
      case rel => exact ⟨k + 1, by omega, by go_num, HN.out⟩
      case measure => simp [intOf]; omega
    · obtain rfl : k = s.size := by omega
      have HV := Lib.hid (isT_yes hle HA.out)
      go_wp2
      go_ret
      exact ⟨ret_bool HV.out.symm, rfl⟩

set_option maxRecDepth 100000 in
theorem bkPair_any (s t : ByteArray) (w : World) (hs : s.size ≤ maxLen) (ht : t.size ≤ maxLen) : Calls Try.prog 72 #[.string s, .string t] w fun e w' => e = .returned (.bool (isT 20 s && isT 20 t)) ∧ w = w' := by
  cases h : isT 20 s
  · go_enter Try.func72, Try.ntmps72
    go_wp2_with (go_at_call 79; refine (bkText_any _ _ (by assumption)).mono ?_; rintro e w1 ⟨rfl, rfl⟩; rw [h])
    go_ret
    exact ⟨rfl, rfl⟩
  · go_enter Try.func72, Try.ntmps72
    go_wp2_with (go_at_call 79; refine (bkText_any _ _ (by assumption)).mono ?_; rintro e w1 ⟨rfl, rfl⟩; try rw [h])
    go_ret
    exact ⟨rfl, rfl⟩
end Go.Proofs.Ytmpajijnpoekgab
