/- Walks: the program's test and its model's. No conditions. -/
import Derived.Test.YtpdnpphjlnlneaaGreatDoorNx
namespace Go.Proofs.YtpdnpphjlnlneaaGreatDoor
open Go.RowKit

/-- A text's digit. -/
def dgt (s : ByteArray) (i : Nat) : Nat := (s.data.toList.getD i 0).toNat - 48
theorem dgt_of {s : ByteArray} (h : isWk s = true) {i : Nat} (hi : i < s.size) : dgt s i < 10 ∧ ((s[i]'hi).toNat : Int) = (dgt s i : Int) + 48 := by
  have hb := isWk_bd h i hi
  have e : s.data.toList.getD i 0 = s[i]'hi := by
    rw [List.getD_eq_getElem?_getD, List.getElem?_eq_getElem (show i < s.data.toList.length by simpa using hi)]
    rfl
  unfold dgt
  rw [e]
  omega
def dgs (s : ByteArray) : List Nat := s.data.toList.map fun b => b.toNat - 48
theorem dgs_len (s : ByteArray) : (dgs s).length = s.size := by unfold dgs; rw [List.length_map]; simp
theorem dgs_at (s : ByteArray) (k : Nat) (h : k < (dgs s).length) : (dgs s)[k] = dgt s k := by
  have h2 : k < (s.data.toList.map fun b => b.toNat - 48).length := h
  show (s.data.toList.map fun b => b.toNat - 48)[k]'h2 = _
  rw [List.getElem_map]
  unfold dgt
  rw [List.getD_eq_getElem?_getD, List.getElem?_eq_getElem (by simpa using h2)]
  rfl
/-- The steps of a text are steps of a piece, as far as so many digits. -/
def wg (p : Nat) (s : ByteArray) : Nat → Bool
  | 0 => true
  | 1 => true
  | n + 2 => wg p s (n + 1) && goB p (dgt s n) (dgt s (n + 1))
theorem wg_yes {p : Nat} {s : ByteArray} {j : Nat} (h : wg p s (j + 1) = true) (hl : goB p (dgt s j) (dgt s (j + 1)) = true) : wg p s (j + 1 + 1) = true := by
  rw [wg, h, hl]; rfl
theorem wg_bad {p : Nat} {s : ByteArray} {j : Nat} (hl : goB p (dgt s j) (dgt s (j + 1)) = false) : wg p s (j + 1 + 1) = false := by
  rw [wg, hl, Bool.and_false]
theorem wg_no {p : Nat} {s : ByteArray} {k : Nat} (h : wg p s k = false) : ∀ m, k ≤ m → wg p s m = false := by
  intro m hm
  induction m with
  | zero => obtain rfl : k = 0 := by omega
            cases h
  | succ m ih =>
    by_cases e : k = m + 1
    · rw [← e]; exact h
    · cases m with
      | zero => obtain rfl : k = 0 := by omega
                cases h
      | succ m => rw [wg, ih (by omega)]; rfl
def isWlk (p : Nat) (s : ByteArray) : Bool := isWk s && wg p s s.size
theorem isWlk_d {p : Nat} {s : ByteArray} (h : isWk s = false) : isWlk p s = false := by unfold isWlk; rw [h]; rfl
theorem isWlk_n {p : Nat} {s : ByteArray} {k : Nat} (h : wg p s k = false) (hk : k ≤ s.size) : isWlk p s = false := by unfold isWlk; rw [wg_no h _ hk, Bool.and_false]
theorem isWlk_y {p : Nat} {s : ByteArray} (h : isWk s = true) (h2 : wg p s s.size = true) : isWlk p s = true := by unfold isWlk; rw [h, h2]; rfl
theorem isWlk_parts {p : Nat} {s : ByteArray} (h : isWlk p s = true) : isWk s = true ∧ wg p s s.size = true := by
  unfold isWlk at h
  rw [Bool.and_eq_true] at h
  exact h

set_option maxHeartbeats 1000000 in
theorem wkWalk_any (p : Nat) (s : ByteArray) (w : World) (hp : p < 4) (hs : s.size ≤ maxLen) : Calls Tryz.prog 118 #[.string (pcT p), .string s] w fun e w' => e = .returned (.bool (isWlk p s)) ∧ Ext w w' := by
  cases h1 : isWk s
  · have HV := Lib.hid (isWlk_d (p := p) h1)
    go_enter Tryz.func118, Tryz.ntmps118
    go_wp2_with (go_at_call 135; refine (wkDig_any _ _ hs).mono ?_; rintro e w' ⟨rfl, rfl⟩; rw [h1])
    go_ret
    exact ⟨ret_bool HV.out.symm, Ext.refl _⟩
  obtain ⟨hz1, hz2⟩ := isWk_size h1
  have HD := Lib.hid h1
  go_enter Tryz.func118, Tryz.ntmps118
  go_wp2_with (go_at_call 135; refine (wkDig_any _ _ hs).mono ?_; rintro e w' ⟨rfl, rfl⟩; rw [h1])
  clear h1
  go_loopw [5] (fun i wr => ∃ k : Nat, k + 1 ≤ s.size ∧ i = .int .i64 ((k + 1 : Nat) : Int) ∧ wg p s (k + 1) = true ∧ Ext w wr) (fun i _ => s.size - (intOf i).toNat)
  case atStart => exact ⟨0, by omega, rfl, rfl, Ext.refl _⟩
  case round =>
    obtain ⟨k, hk, rfl, hw, hx⟩ := hrel
    have HW := Lib.hid hw
    clear hw
    by_cases hlt : k + 1 < s.size
    · obtain ⟨a1, a2⟩ := dgt_of HD.out (show k < s.size by omega)
      obtain ⟨b1, b2⟩ := dgt_of HD.out hlt
      have HY := Lib.hid (fun h => wg_yes (p := p) (s := s) (j := k) HW.out h)
      have HN := Lib.hid (fun h => isWlk_n (wg_bad (p := p) (s := s) (j := k) h) hlt)
      have ik : ∀ w, (Instr.index 9 (.string s) (.int .i64 (k : Int))).run Tryz.prog w = .ok (.int .u8 (s[k]'(by omega)).toNat) w := fun w => ixS s k (by omega) w
      obtain ⟨k1, hk1⟩ : ∃ k1, k1 = k + 1 := ⟨_, rfl⟩
      have hk1s : k1 < s.size := by omega
      have ik1 : ∀ w, (Instr.index 9 (.string s) (.int .i64 (k1 : Int))).run Tryz.prog w = .ok (.int .u8 ((dgt s (k + 1) : Int) + 48)) w := fun w => by
        rw [← b2]
        have := ixS s k1 hk1s w
        subst hk1
        exact this
      rw [a2] at ik
      obtain ⟨a, ha⟩ : ∃ a, a = dgt s k := ⟨_, rfl⟩
      obtain ⟨b, hb⟩ : ∃ b, b = dgt s (k + 1) := ⟨_, rfl⟩
      rw [← ha] at ik HY HN a1
      rw [← hb] at ik1 HY HN b1
      have hkm : (k1 : Int) - 1 = (k : Int) := by omega
      have Wk : IntKind.i64.wrap ((k1 : Int) - 1) = (k : Int) := by simp only [IntKind.wrap_i64]; omega
      rw [← hk1]
      have HKK := Lib.hid hk1
      have hk1n : k1 ≤ 40 := by omega
      clear a2 b2 ha hb hk1 hlt hk
      have HGO := Lib.hid (fun w => wkGoes_any p a b ((a : Int) + 48) ((b : Int) + 48) w hp a1 b1 rfl rfl)
      cases hg : goB p a b
      · have HV := Lib.hid (HN.out hg)
        rw [hg] at HGO
        go_wp2
        go_quiet (first | (exact Calls.quiet_of_same ((HGO.out _).mono fun e w' h => ⟨h.1, h.2.symm⟩)))
        go_wp2
        go_ret
        exact ⟨ret_bool HV.out.symm, ext_drewN hx _⟩
      · have HV := Lib.hid (HY.out hg)
        rw [hg] at HGO
        go_wp2
        go_quiet (first | (exact Calls.quiet_of_same ((HGO.out _).mono fun e w' h => ⟨h.1, h.2.symm⟩)))
        go_wp2
        go_roundw
        case rel => exact ⟨k + 1, by have := HKK.out; omega, by have := HKK.out; rw [show ((k + 1 + 1 : Nat) : Int) = (k1 : Int) + 1 by omega], HV.out, ext_drewN hx _⟩
        case measure => simp [intOf]; omega
    · have HV := Lib.hid (isWlk_y (p := p) (s := s) HD.out ((show k + 1 = s.size by omega) ▸ HW.out))
      go_wp2
      go_ret
      exact ⟨ret_bool HV.out.symm, hx⟩

theorem ext_from {s : ByteArray} {i : Nat} (hi : i < s.size) : ∃ h : 0 < (s.extract i s.size).size, (s.extract i s.size)[0]'h = s[i] := by
  have hd : (s.extract i s.size).data = s.data.extract i s.size := ByteArray.data_extract
  have hz : (s.extract i s.size).size = s.size - i := by
    show (s.extract i s.size).data.size = s.size - i
    rw [hd, Array.size_extract]
    have : s.data.size = s.size := rfl
    omega
  refine ⟨by omega, ?_⟩
  show (s.extract i s.size).data[0]'_ = s.data[i]'_
  simp only [hd, Array.getElem_extract, Nat.add_zero]
theorem digitOf_any (s : ByteArray) (d : Nat) (w : World) (h0 : 0 < s.size) (hd : d < 10) (h : ((s[0]'h0).toNat : Int) = (d : Int) + 48) : Calls Tryz.prog 122 #[.string s] w fun e w' => e = .returned (.int .i64 d) ∧ w = w' := by
  have hx := fun w => ixS0 s h0 w
  rw [h] at hx
  have e1 : IntKind.u8.wrap ((d : Int) + 48 - 48) = (d : Int) := by rw [IntWalk.u8_in _ (by omega)]; omega
  go_enter Tryz.func122, Tryz.ntmps122
  go_wp2
  go_ret
  exact ⟨ret_iD (by omega), rfl⟩
theorem slFromW (s : ByteArray) (i : Nat) (h1 : i ≤ s.size) (w : World) : (Instr.slice 9 (.string s) (some (.int .i64 (i : Int))) none none).run Tryz.prog w = .ok (.string (s.extract i s.size)) w := by
  have a1 : (0 : Int) ≤ (i : Int) := by omega
  have a2 : (i : Int) ≤ (s.size : Int) := by omega
  simp [go_sem, h1]

set_option maxHeartbeats 1000000 in
theorem digitsOf_any (s : ByteArray) (w : World) (hK : isWk s = true) : Calls Tryz.prog 98 #[.string s] w fun e w' => OwnP w w' e (dgs s) := by
  have HD := Lib.hid hK
  obtain ⟨_, h30⟩ := isWk_size hK
  have HL := Lib.hid (dgs_len s)
  clear hK
  obtain ⟨i0, hi, hz0, hzs, hzb⟩ := info_parts info_intP
  have HI := Lib.hid (show Tryz.prog.info? 3 = some i0 ∧ i0.zero = some (.int .i64 0) ∧ i0.size = 1 ∧ i0.bytes = 8 from ⟨hi, hz0, hzs, hzb⟩)
  clear hi hz0 hzs hzb
  go_enter Tryz.func98, Tryz.ntmps98
  go_wp2_with (at_make; refine wpList_make_full _ rfl _ _ 42 rfl w.heap.size 3 i0 (.int .i64 0) 1 Tryz.underlying42 HI.out.1 HI.out.2.1 HI.out.2.2.1 .i64 .i64 _ _ s.size rfl rfl rfl rfl (by rw [HI.out.2.2.2]; omega) (by unfold maxLen; omega) (Nat.le_refl _) ?_; intro w1 hown hgr)
  have X1 : Ext w w1 := ext_grown (Ext.refl w) hgr (by intro k hk; cases hk)
  obtain ⟨xs1, hxs1⟩ : ∃ xs, xs = (madeCells (Value.int .i64 0).cells (s.size * 1)).toList := ⟨_, rfl⟩
  rw [← hxs1] at hown
  clear hxs1 hgr
  go_loopw [10] (fun i wr => ∃ k : Nat, k ≤ s.size ∧ i = .int .i64 k ∧ ∃ xs : List Value, wr.ownsRow w.heap.size 3 1 (.slice (some ⟨w.heap.size, 0, none⟩) s.size s.size) s.size xs ∧ (∀ j (hj : j < s.size), j < k → xs[j]? = some (.int .i64 (dgt s j : Int))) ∧ Ext w wr) (fun i _ => s.size - (intOf i).toNat)
  case atStart => exact ⟨0, Nat.zero_le _, rfl, xs1, hown, fun j _ h => absurd h (by omega), X1⟩
  case round =>
    obtain ⟨k, hk, rfl, xs, hown, hxs, hx⟩ := hrel
    have HO := Lib.hid hown
    have HX := Lib.hid hxs
    clear hown hxs
    by_cases hlt : k < s.size
    · have hlen : xs.length = s.size := by have := HO.out.1; omega
      obtain ⟨u, hu⟩ : ∃ u, xs[k]? = some u := ⟨xs[k]'(by omega), List.getElem?_eq_getElem _⟩
      have hc3 := (HO.out.cellAt k (by omega)).trans hu
      have hf3 := HO.out.frozenAt k
      clear hu hlen
      have hk1 : k + 1 ≤ s.size := by omega
      obtain ⟨e0, e1⟩ := ext_from hlt
      obtain ⟨b1, b2⟩ := dgt_of HD.out hlt
      rw [← e1] at b2
      have hsl := fun w => slFromW s k (by omega) w
      have HDG := Lib.hid (fun w => digitOf_any (s.extract k s.size) (dgt s k) w e0 b1 b2)
      clear e0 e1 b2
      go_wp2_with (go_at_call 122; refine (HDG.out _).mono ?_; rintro e w' ⟨rfl, rfl⟩)
      go_roundw
      case rel =>
        refine ⟨k + 1, by omega, by go_num, xs.set k (.int .i64 (dgt s k : Int)), (HO.out.stored k _).1, ?_, hx.setCell (Nat.le_refl _) _⟩
        intro j hj hjk
        by_cases e : j = k
        · subst e
          rw [List.getElem?_set_self (by have := HO.out.1; omega)]
        · rw [List.getElem?_set_ne (by omega)]
          exact HX.out j hj (by omega)
      case measure => simp [intOf]; omega
    · go_wp2
      go_ret
      have hk' : k = s.size := by omega
      have e : xs = pcs (dgs s) := by
        apply List.ext_getElem?
        intro j
        by_cases hj : j < s.size
        · rw [HX.out j hj (by omega), pcs_at _ j (by rw [dgs_len]; exact hj), dgs_at]
        · rw [List.getElem?_eq_none (by have := HO.out.1; omega), List.getElem?_eq_none (by rw [pcs_len, dgs_len]; omega)]
      exact ⟨_, rfl, by unfold RowP; rw [dgs_len, ← e]; exact HO.out, hx⟩
end Go.Proofs.YtpdnpphjlnlneaaGreatDoor
