/- Plans for thumbs: the program's and the model's tests of them. No conditions. -/
import Derived.Test.YtnnbpcookemilaaSteps
import Derived.Test.YtnnbpcookemilaaToI
import Derived.Deep.MidRow
namespace Go.Proofs.Ytnnbpcookemilaa
open Go.RowKit

theorem IntsA.get {w : World} {a : Option Addr} {cap : Nat} {zs : List Int} (h : IntsA w (.slice a zs.length cap) zs) (j : Nat) (hj : j < zs.length) : ∃ b off, a = some ⟨b, off, none⟩ ∧ b < w.heap.size ∧ w.cell? ⟨b, off + j, none⟩ = some (.int .i64 zs[j]) := by
  rcases h.2 with ⟨rfl, _⟩ | ⟨b, off, cap', e, h2, h3⟩
  · exact absurd hj (Nat.not_lt_zero _)
  · injection e with e1 e2 e3
    exact ⟨b, off, e1, h2, h3 j hj⟩
def okT (z : Int) : Bool := inB z 0 1
theorem okT_yes {z : Int} (h : okT z = true) : z = 0 ∨ z = 1 := by unfold okT inB at h; simp at h; omega
theorem okT_no {z : Int} (h : okT z = false) : z ≠ 0 ∧ z ≠ 1 := by
  unfold okT inB at h
  constructor
  · intro e; subst e; simp at h
  · intro e; subst e; simp at h
theorem takeZ (zs : List Int) (k : Nat) (h : k < zs.length) : (zs.take (k + 1)).all okT = ((zs.take k).all okT && okT zs[k]) := by
  rw [List.take_succ_eq_append_getElem h, List.all_append]; simp
theorem allT_no {zs : List Int} (k : Nat) (h : k < zs.length) (h2 : okT zs[k] = false) : zs.all okT = false := by
  rw [List.all_eq_false]; exact ⟨zs[k], List.getElem_mem h, by simp [h2]⟩
theorem allT_at {zs : List Int} (h : zs.all okT = true) (k : Nat) (hk : k < zs.length) : zs[k] = 0 ∨ zs[k] = 1 := by
  rw [List.all_eq_true] at h
  exact okT_yes (h _ (List.getElem_mem hk))
def plB (zs : List Int) (s : ByteArray) : Bool := decide (zs.length = s.size) && zs.all okT
theorem plB_no1 {zs : List Int} {s : ByteArray} (h : zs.length ≠ s.size) : plB zs s = false := by unfold plB; rw [decide_eq_false h]; rfl
theorem plB_no2 {zs : List Int} {s : ByteArray} (h : zs.all okT = false) : plB zs s = false := by unfold plB; rw [h, Bool.and_false]
theorem plB_yes {zs : List Int} {s : ByteArray} (h : zs.length = s.size) (h2 : zs.all okT = true) : plB zs s = true := by unfold plB; rw [decide_eq_true h, h2]; rfl
theorem plB_len {zs : List Int} {s : ByteArray} (h : plB zs s = true) : zs.length = s.size := by unfold plB at h; simp at h; exact h.1
theorem plB_all {zs : List Int} {s : ByteArray} (h : plB zs s = true) : zs.all okT = true := by
  unfold plB at h
  rw [Bool.and_eq_true] at h
  exact h.2

set_option maxHeartbeats 1000000 in
theorem isPlan_any (v : Value) (zs : List Int) (s : ByteArray) (w : World) (h : IntsA w v zs) (_hs : s.size ≤ maxLen) : Calls Try.prog 62 #[v, .string s] w fun e w' => e = .returned (.bool (plB zs s)) ∧ Ext w w' := by
  have H := Lib.hid h
  have hl := h.1
  unfold maxLen at hl _hs
  obtain ⟨a, cap, hv⟩ := h.at
  rw [hv] at H ⊢
  clear hv h
  by_cases hn : zs.length = s.size
  · have hnn : ((zs.length : Int) == (s.size : Int)) = true := by rw [hn]; exact beq_self_eq_true _
    have HN0 := Lib.hid hn
    clear hn
    go_enter Try.func62, Try.ntmps62
    go_wp2
    go_loopw [14] (fun i wr => ∃ k : Nat, k ≤ zs.length ∧ i = .int .i64 k ∧ (zs.take k).all okT = true ∧ Ext w wr) (fun i _ => zs.length - (intOf i).toNat)
    case atStart => exact ⟨0, Nat.zero_le _, rfl, rfl, Ext.refl _⟩
    case round =>
      obtain ⟨k, hk, rfl, hall, hx⟩ := hrel
      have HA := Lib.hid hall
      clear hall
      by_cases hlt : k < zs.length
      · obtain ⟨b, off, ha, _, e1⟩ := (H.out.ext hx).get k hlt
        have HT := Lib.hid (takeZ zs k hlt)
        have HF := Lib.hid (fun (h : okT zs[k] = false) => allT_no k hlt h)
        obtain ⟨z, hz⟩ : ∃ z, z = zs[k] := ⟨_, rfl⟩
        rw [← hz] at e1 HT HF
        clear hz
        subst ha
        cases hb : okT z
        · have HV := Lib.hid (plB_no2 (s := s) (HF.out hb))
          have hz2 := okT_no hb
          have hz3 := hz2.1
          have hz4 := hz2.2
          have tz0 : (z != 0) = true := bne_iff_ne.2 hz3
          have tz1 : (z != 1) = true := bne_iff_ne.2 hz4
          clear hz2
          go_wp2
          go_ret
          exact ⟨ret_bool HV.out.symm, hx⟩
        · have HN := Lib.hid (show (zs.take (k + 1)).all okT = true by rw [HT.out, HA.out, hb]; rfl)
          rcases okT_yes hb with hz | hz
          · subst hz
            clear hb
            go_wp2
            go_roundw
            case rel => exact ⟨k + 1, by omega, by go_num, HN.out, hx⟩
            case measure => simp [intOf]; omega
          · subst hz
            clear hb
            go_wp2
            go_roundw
            case rel => exact ⟨k + 1, by omega, by go_num, HN.out, hx⟩
            case measure => simp [intOf]; omega
      · have HV := Lib.hid (plB_yes HN0.out (by rw [List.take_of_length_le (by omega)] at HA; exact HA.out))
        go_wp2
        go_ret
        exact ⟨ret_bool HV.out.symm, hx⟩
  · have hnn : ((zs.length : Int) == (s.size : Int)) = false := by simp; omega
    have HV := Lib.hid (plB_no1 hn)
    clear hn
    go_enter Try.func62, Try.ntmps62
    go_wp2
    go_ret
    exact ⟨ret_bool HV.out.symm, Ext.refl _⟩

set_option maxHeartbeats 1000000 in
theorem allT_any (v : Value) (zs : List Int) (w : World) (h : IntsA w v zs) : Calls Try.prog 61 #[v, .int .i64 0, .int .i64 1] w fun e w' => e = .returned (.bool (zs.all okT)) ∧ Ext w w' := by
  have H := Lib.hid h
  have hl := h.1
  unfold maxLen at hl
  obtain ⟨a, cap, hv⟩ := h.at
  rw [hv] at H ⊢
  clear hv h
  go_enter Try.func61, Try.ntmps61
  go_wp2
  go_loopw [11] (fun i wr => ∃ k : Nat, k ≤ zs.length ∧ i = .int .i64 k ∧ (zs.take k).all okT = true ∧ Ext w wr) (fun i _ => zs.length - (intOf i).toNat)
  case atStart => exact ⟨0, Nat.zero_le _, rfl, rfl, Ext.refl _⟩
  case round =>
    obtain ⟨k, hk, rfl, hall, hx⟩ := hrel
    have HA := Lib.hid hall
    clear hall
    by_cases hlt : k < zs.length
    · obtain ⟨b, off, ha, _, e1⟩ := (H.out.ext hx).get k hlt
      have HT := Lib.hid (takeZ zs k hlt)
      have HF := Lib.hid (fun (h : okT zs[k] = false) => allT_no k hlt h)
      obtain ⟨z, hz⟩ : ∃ z, z = zs[k] := ⟨_, rfl⟩
      rw [← hz] at e1 HT HF
      clear hz
      subst ha
      cases hb : okT z
      · have HV := Lib.hid (id (HF.out hb))
        have hz2 := okT_no hb
        have hz3 := hz2.1
        have hz4 := hz2.2
        have tz0 : (z != 0) = true := bne_iff_ne.2 hz3
        have tz1 : (z != 1) = true := bne_iff_ne.2 hz4
        clear hz2
        go_wp2_with (go_at_call 71; refine (in_any _ _ _ _).mono ?_; rintro e w' ⟨rfl, rfl⟩; rw [show inB z 0 1 = false from hb])
        go_ret
        exact ⟨ret_bool HV.out.symm, hx⟩
      · have HN := Lib.hid (show (zs.take (k + 1)).all okT = true by rw [HT.out, HA.out, hb]; rfl)
        go_wp2_with (go_at_call 71; refine (in_any _ _ _ _).mono ?_; rintro e w' ⟨rfl, rfl⟩; rw [show inB z 0 1 = true from hb])
        go_roundw
        case rel => exact ⟨k + 1, by omega, by go_num, HN.out, hx⟩
        case measure => simp [intOf]; omega
    · have HV := Lib.hid (id (by rw [List.take_of_length_le (by omega)] at HA; exact HA.out))
      go_wp2
      go_ret
      exact ⟨ret_bool HV.out.symm, hx⟩

theorem pair_size (x y : Value) : (Try.prog.info? 68).map (·.size) = some (#[x, y] : Array Value).size := by kernel_rfl
theorem pairOf_any (l r : ByteArray) (w : World) (hl : oneD l = true) (hr : oneD r = true) : Calls Try.prog 58 #[.string l, .string r] w fun e w' => e = .returned (.agg #[.int .i64 (p1 l : Nat), .int .i64 (p1 r : Nat)]) ∧ Ext w w' := by
  have X : Ext w (w.alloc (.cells #[.int .i64 (p1 l : Nat), .int .i64 (p1 r : Nat)] 68)) := Below.alloc (Ext.refl _) (Nat.le_refl _) _
  go_enter Try.func58, Try.ntmps58
  go_wp2_with (go_at_call 49; refine (place1_any _ _ (by assumption)).mono ?_; rintro e w' ⟨rfl, rfl⟩)
  exact bodyPost_ret (results_cell_row (P := Try.prog) (p := 4) (ty := 68) rfl _ _ w.heap.size 68 #[.int .i64 (p1 l : Nat), .int .i64 (p1 r : Nat)] (0, 0) _ rfl (heap_alloc_new w _) Try.underlying68 rfl (pair_size _ _)) rfl ⟨rfl, X⟩
theorem dl2 {s l r : ByteArray} (h : dlB s [l, r] = true) : oneD l = true ∧ oneD r = true ∧ isD s = true := by
  unfold dlB at h
  simp at h
  exact ⟨h.1.1, h.1.2, h.2⟩
theorem both_any (s l r : ByteArray) (w : World) (hs : s.size ≤ maxLen) (hl : l.size ≤ maxLen) (hr : r.size ≤ maxLen) : Calls Try.prog 54 #[.string s, .string l, .string r] w fun e w' => e = .returned (.bool (dlB s [l, r])) ∧ w = w' := by
  cases h1 : isD s
  · have HV := Lib.hid (show dlB s [l, r] = false by unfold dlB; simp [h1])
    go_enter Try.func54, Try.ntmps54
    go_wp2_with (go_at_call 43; refine (thGood_any _ _ hs).mono ?_; rintro e w' ⟨rfl, rfl⟩; rw [h1])
    go_ret
    exact ⟨ret_bool HV.out.symm, rfl⟩
  cases h2 : oneD l
  · have HV := Lib.hid (show dlB s [l, r] = false by unfold dlB; simp [h2])
    go_enter Try.func54, Try.ntmps54
    go_wp2_with (first | (go_at_call 43; refine (thGood_any _ _ hs).mono ?_; rintro e w' ⟨rfl, rfl⟩; rw [h1]) | (go_at_call 45; refine (thOne_any _ _ (by assumption)).mono ?_; rintro e w' ⟨rfl, rfl⟩; rw [h2]))
    go_ret
    exact ⟨ret_bool HV.out.symm, rfl⟩
  cases h3 : oneD r
  · have HV := Lib.hid (show dlB s [l, r] = false by unfold dlB; simp [h3])
    go_enter Try.func54, Try.ntmps54
    go_wp2_with (first | (go_at_call 43; refine (thGood_any _ _ hs).mono ?_; rintro e w' ⟨rfl, rfl⟩; rw [h1]) | (go_at_call 45; refine (thOne_any _ _ (by assumption)).mono ?_; rintro e w' ⟨rfl, rfl⟩; first | rw [h2] | rw [h3]))
    go_ret
    exact ⟨ret_bool HV.out.symm, rfl⟩
  · have HV := Lib.hid (show dlB s [l, r] = true by unfold dlB; simp [h1, h2, h3])
    go_enter Try.func54, Try.ntmps54
    go_wp2_with (first | (go_at_call 43; refine (thGood_any _ _ hs).mono ?_; rintro e w' ⟨rfl, rfl⟩; rw [h1]) | (go_at_call 45; refine (thOne_any _ _ (by assumption)).mono ?_; rintro e w' ⟨rfl, rfl⟩; first | rw [h2] | rw [h3]))
    go_ret
    exact ⟨ret_bool HV.out.symm, rfl⟩
end Go.Proofs.Ytnnbpcookemilaa
