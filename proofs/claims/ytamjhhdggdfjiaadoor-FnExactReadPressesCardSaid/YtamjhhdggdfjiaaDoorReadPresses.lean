/- For every text the program's ReadPresses answers as its model does, the pad's table being as the program lays it. -/
import Derived.Test.YtamjhhdggdfjiaaDoorCards
import Derived.Test.YtamjhhdggdfjiaaDoorTie
import Derived.Test.YtamjhhdggdfjiaaDoorTab
import Derived.Test.YtamjhhdggdfjiaaDoorPress
import Derived.Deep.QuietTactic
import Derived.BigQuiet
import Derived.IntWalk
namespace Go.Proofs.YtamjhhdggdfjiaaDoor.readPresses
open Go.ChangeShapes Go.WideShapes Go.ChangeAt Go.RowKit
open Go.ChangeMaps (open_string shut_string)

theorem ext_drewN {a w : World} (h : Ext a w) (n : Nat) : Ext a (w.drewN n) := Below.trans h ⟨rfl, rfl, rfl, Nat.le_refl _, fun _ _ => rfl⟩
theorem getP (p : ByteArray) (k : Nat) (h : k < p.size) : p.data.toList[k]? = some p[k] := by
  rw [List.getElem?_eq_getElem (by simpa using h)]
  rfl
theorem noP (p : ByteArray) (k : Nat) (h : p.size ≤ k) : p.data.toList[k]? = none := List.getElem?_eq_none (by simpa using h)
theorem lenP (p : ByteArray) : p.data.toList.length = p.size := by simp

/-- An answer that is where a run ends. -/
def EndPost (p : ByteArray) (i : Nat) (w : World) (e : Ending) (w' : World) : Prop := ∃ n : Nat, IsEnd p.data.toList i n ∧ e = .returned (.int .i64 n) ∧ Ext w w'

theorem end_of (p : ByteArray) (i k : Nat) (hik : i ≤ k) (hk : k ≤ p.size) (hall : ∀ j, i ≤ j → j < k → p.data.toList[j]? = p.data.toList[i]?) (hn : p.data.toList[k]? ≠ p.data.toList[i]?) : IsEnd p.data.toList i k := by
  refine ⟨?_, by rw [lenP]; exact hk, hall, hn⟩
  rcases Nat.lt_or_ge i k with h | h
  · exact h
  · exfalso; apply hn; rw [show k = i by omega]
theorem all_next (p : ByteArray) (i k : Nat) (hall : ∀ j, i ≤ j → j < k → p.data.toList[j]? = p.data.toList[i]?) (h : p.data.toList[k]? = p.data.toList[i]?) : ∀ j, i ≤ j → j < k + 1 → p.data.toList[j]? = p.data.toList[i]? := by
  intro j h1 h2
  by_cases e : j = k
  · rw [e, h]
  · exact hall j h1 (by omega)

set_option maxHeartbeats 1000000 in
theorem runEnd_any (p : ByteArray) (i : Nat) (hi : i < p.size) (hs : p.size ≤ 200) (w : World) : Calls Tryd.prog 53 #[.string p, .int .i64 i] w (EndPost p i w) := by
  go_enter Tryd.func53, Tryd.ntmps53
  go_wp2
  go_loopw [5] (fun c wr => ∃ k : Nat, i ≤ k ∧ k ≤ p.size ∧ c = .int .i64 k ∧ (∀ j, i ≤ j → j < k → p.data.toList[j]? = p.data.toList[i]?) ∧ Ext w wr) (fun c _ => p.size - (intOf c).toNat)
  case atStart => exact ⟨i, Nat.le_refl _, by omega, rfl, fun j h1 h2 => absurd h2 (by omega), Ext.refl _⟩
  case round =>
    obtain ⟨k, hik, hk, rfl, hall, hx⟩ := hrel
    have HA := Lib.hid hall
    clear hall
    by_cases hlt : k < p.size
    · have i1 : ∀ w, (Instr.index 9 (.string p) (.int .i64 (k : Int))).run Tryd.prog w = .ok (.int .u8 p[k].toNat) w := fun w => ix_any p k hlt w
      have i2 : ∀ w, (Instr.index 9 (.string p) (.int .i64 (i : Int))).run Tryd.prog w = .ok (.int .u8 p[i].toNat) w := fun w => ix_any p i hi w
      by_cases he : (p[k].toNat : Int) = p[i].toNat
      · have HE := Lib.hid (show p.data.toList[k]? = p.data.toList[i]? by rw [getP p k hlt, getP p i hi]; exact congrArg some (UInt8.toNat_inj.mp (by omega)))
        go_wp2
        go_quiet (fail)
        go_wp2
        go_roundw
        case rel => exact ⟨k + 1, by omega, by omega, by go_num, all_next p i k HA.out HE.out, ext_drewN hx _⟩
        case measure => simp [intOf]; omega
      · have HE := Lib.hid (show p.data.toList[k]? ≠ p.data.toList[i]? by rw [getP p k hlt, getP p i hi]; intro h; apply he; rw [Option.some.inj h])
        go_wp2
        go_quiet (fail)
        go_wp2
        go_ret
        exact ⟨k, end_of p i k hik hk HA.out HE.out, rfl, ext_drewN hx _⟩
    · have HE := Lib.hid (show p.data.toList[k]? ≠ p.data.toList[i]? by rw [noP p k (by omega), getP p i hi]; simp)
      go_wp2
      go_quiet (fail)
      go_wp2
      go_ret
      exact ⟨k, end_of p i k hik hk HA.out HE.out, rfl, ext_drewN hx _⟩

theorem field_let (d : Int) (L : ByteArray) (w : World) : (Instr.field 55 (.agg #[.int .u8 d, .string L]) 1).run Tryd.prog w = .ok (.string L) w := by kernel_rfl

theorem lt8_no {c : Int} (h : isD c = false) : (lt8 c).size = 0 := by
  unfold lt8
  rw [if_neg (by intro h2; simp [isD, h2] at h)]
  rfl

set_option maxHeartbeats 1000000 in
theorem letter_no (c : UInt8) (n : Nat) (_hn : n ≤ 200) (h : (lt8 (c.toNat : Int)).size < n + 1) (w : World) (hp : PadIs w) : Calls Tryd.prog 54 #[.int .u8 (c.toNat : Int), .int .i64 ((n : Int) + 1)] w fun e w' => e = .returned (.tuple #[.int .u8 0, .bool false]) ∧ Ext w w' := by
  cases hd : isD (c.toNat : Int)
  · go_enter Tryd.func54, Tryd.ntmps54
    go_wp2_with (go_at_call 76; refine (isD_any _ _).mono ?_; rintro e w' ⟨rfl, rfl⟩; rw [hd])
    go_ret2
    exact ⟨rfl, Ext.refl _⟩
  · rw [lt8_dk hd] at h
    have HD := Lib.hid hd
    have hlt : ((lt (dk (c.toNat : Int))).size : Int) < (n : Int) + 1 := by omega
    go_enter Tryd.func54, Tryd.ntmps54
    go_wp2_with (first | (go_at_call 76; refine (isD_any _ _).mono ?_; rintro e w' ⟨rfl, rfl⟩; rw [HD.out]) | (go_at_call 77; refine (keyAt_any _ _ HD.out hp).mono ?_; rintro e w1 ⟨rfl, x1⟩) | (go_at_call 78; refine (size_any _ _ _).mono ?_; rintro e w2 ⟨rfl, x2⟩))
    go_ret2
    exact ⟨rfl, x1.trans x2⟩

set_option maxHeartbeats 1000000 in
theorem letter_yes (c : UInt8) (n : Nat) (hn : n ≤ 200) (h : n < (lt8 (c.toNat : Int)).size) (w : World) (hp : PadIs w) : Calls Tryd.prog 54 #[.int .u8 (c.toNat : Int), .int .i64 ((n : Int) + 1)] w fun e w' => e = .returned (.tuple #[.int .u8 ((lt8 (c.toNat : Int))[n].toNat : Int), .bool true]) ∧ Ext w w' := by
  cases hd : isD (c.toNat : Int)
  · rw [lt8_no hd] at h
    omega
  · have HD := Lib.hid hd
    have hl := lt8_dk hd
    obtain ⟨L, hL⟩ : ∃ L, L = lt8 (c.toNat : Int) := ⟨_, rfl⟩
    have h' : n < L.size := by rw [hL]; exact h
    have HL := Lib.hid (show lt (dk (c.toNat : Int)) = L by rw [hL, hl])
    have e1 : ((lt8 (c.toNat : Int))[n].toNat : Int) = L[n].toNat := by subst hL; rfl
    rw [e1]
    clear hL hl h e1 hd
    have hidx : ∀ w, (Instr.index 9 (.string L) (.int .i64 (n : Int))).run Tryd.prog w = .ok (.int .u8 L[n].toNat) w := fun w => ix_any L n h' w
    go_enter Tryd.func54, Tryd.ntmps54
    have hfld : ∀ w, (Instr.field 55 (.agg #[.int .u8 (c.toNat : Int), .string L]) 1).run Tryd.prog w = .ok (.string L) w := field_let _ _
    go_wp2_with (first | (go_at_call 76; refine (isD_any _ _).mono ?_; rintro e w' ⟨rfl, rfl⟩; rw [HD.out]) | (go_at_call 77; first | (refine (keyAt_any _ _ HD.out hp).mono ?_; rintro e w1 ⟨rfl, x1⟩; rw [HL.out]) | (refine (keyAt_any _ _ HD.out (hp.ext (x1.trans x2))).mono ?_; rintro e w3 ⟨rfl, x3⟩; rw [HL.out])) | (go_at_call 78; refine (size_any _ _ _).mono ?_; rintro e w2 ⟨rfl, x2⟩))
    go_ret2
    exact ⟨rfl, (x1.trans x2).trans x3⟩

/-! ### The program's reading: waits are passed over -/
theorem tx_cases (d : UInt8) (y : List UInt8) (hy : ∀ b ∈ y, isL b.toNat = true) : y = [] ∨ ∃ c z, y = c :: z ∧ isL c.toNat = true ∧ (∀ b ∈ z, isL b.toNat = true) ∧ (tx d y = 32 :: (prL c ++ tx (dgB8 c) z) ∨ tx d y = prL c ++ tx (dgB8 c) z) := by
  cases y with
  | nil => exact .inl rfl
  | cons c z =>
    refine .inr ⟨c, z, rfl, hy c (by simp), fun b hb => hy b (by simp [hb]), ?_⟩
    rw [tx_cons, List.append_assoc]
    by_cases e : d = dgB8 c
    · rw [if_pos e]; exact .inl rfl
    · rw [if_neg e]; exact .inr rfl
def Wr (P : List UInt8) (i : Nat) (o : List UInt8) : Prop := ∀ x : List UInt8, (∀ b ∈ x, isL b.toNat = true) → tx 0 x = P → ∃ y d, x = o ++ y ∧ (∀ b ∈ y, isL b.toNat = true) ∧ (P.drop i = tx d y ∨ tx d y = 32 :: P.drop i)
theorem Wr.nil (P : List UInt8) : Wr P 0 [] := fun x hx hp => ⟨x, 0, rfl, hx, .inl hp.symm⟩
theorem prL_head (c : UInt8) (h : isL c.toNat = true) (l : List UInt8) : (prL c ++ l).head? = some (dgB8 c) := by rw [prL_cons c h]; rfl
theorem Wr.skip {P : List UInt8} {i e : Nat} {o : List UInt8} (h : Wr P i o) (h32 : P[i]? = some 32) (he : IsEnd P i e) : Wr P e o := by
  intro x hx hp
  obtain ⟨y, d, e1, hy, hor⟩ := h x hx hp
  have hh : (P.drop i).head? = some 32 := by rw [List.head?_drop]; exact h32
  rcases tx_cases d y hy with rfl | ⟨c, z, rfl, hc, hz, h1⟩
  · exfalso
    rcases hor with h2 | h2
    · rw [h2, tx] at hh; cases hh
    · rw [tx] at h2; cases h2
  · refine ⟨c :: z, d, e1, hy, .inr ?_⟩
    rcases hor with h2 | h2
    · rcases h1 with h3 | h3
      · have h4 : P.drop i = List.replicate 1 32 ++ (prL c ++ tx (dgB8 c) z) := by rw [h2, h3]; rfl
        have h5 := he.eq (by omega) h4 (by rw [prL_head c hc]; intro h6; exact dgB8_ne c (Option.some.inj h6))
        rw [h3, h5, ← List.drop_drop, h4]
        rfl
      · exfalso
        rw [h2, h3, prL_head c hc] at hh
        exact dgB8_ne c (Option.some.inj hh)
    · exfalso
      rcases h1 with h3 | h3
      · rw [h3] at h2
        injection h2 with _ h4
        rw [← h4, prL_head c hc] at hh
        exact dgB8_ne c (Option.some.inj hh)
      · have h4 := prL_head c hc (tx (dgB8 c) z)
        rw [← h3, h2] at h4
        exact dgB8_ne c (Option.some.inj h4).symm
theorem Wr.run {P : List UInt8} {i e : Nat} {o : List UInt8} (h : Wr P i o) {k : UInt8} (hk : P[i]? = some k) (h32 : k ≠ 32) (he : IsEnd P i e) (x : List UInt8) (hx : ∀ b ∈ x, isL b.toNat = true) (hp : tx 0 x = P) : ∃ c z, x = o ++ c :: z ∧ isL c.toNat = true ∧ (∀ b ∈ z, isL b.toNat = true) ∧ dgB8 c = k ∧ (e : Int) = i + (pl c.toNat + 1) ∧ P.drop e = tx (dgB8 c) z := by
  obtain ⟨y, d, e1, hy, hor⟩ := h x hx hp
  have hh : (P.drop i).head? = some k := by rw [List.head?_drop]; exact hk
  rcases tx_cases d y hy with rfl | ⟨c, z, rfl, hc, hz, h1⟩
  · exfalso
    rcases hor with h2 | h2
    · rw [h2, tx] at hh; cases hh
    · rw [tx] at h2; cases h2
  · have h4 : P.drop i = prL c ++ tx (dgB8 c) z := by
      rcases hor with h2 | h2
      · rcases h1 with h3 | h3
        · exfalso
          rw [h2, h3] at hh
          exact h32 (Option.some.inj hh).symm
        · rw [h2, h3]
      · rcases h1 with h3 | h3
        · rw [h3] at h2
          injection h2 with _ h4
          exact h4.symm
        · exfalso
          have h5 := prL_head c hc (tx (dgB8 c) z)
          rw [← h3, h2] at h5
          exact dgB8_ne c (Option.some.inj h5).symm
    have hb := pl_bd c.toNat hc
    have hd : dgB8 c = k := by
      rw [h4, prL_head c hc] at hh
      exact Option.some.inj hh
    have hm : e = i + (pl c.toNat + 1).toNat := he.eq (by omega) h4 (fun h0 => tx_head c z hz _ h0 (by rfl))
    refine ⟨c, z, e1, hc, hz, hd, by omega, ?_⟩
    have h2 : P.drop e = (P.drop i).drop (pl c.toNat + 1).toNat := by rw [List.drop_drop, hm]
    rw [h2, h4]
    unfold prL
    rw [List.drop_left' (by rw [List.length_replicate])]
theorem size_dg (c k : UInt8) (hd : dgB8 c = k) : lt8 (k.toNat : Int) = lt (grp c.toNat) := by
  rw [← hd, show ((dgB8 c).toNat : Int) = dg c.toNat from dgB c, lt8_dg]
theorem Wr.short {P : List UInt8} {i e : Nat} {o : List UInt8} (h : Wr P i o) {k : UInt8} (hk : P[i]? = some k) (h32 : k ≠ 32) (he : IsEnd P i e) (hs : (lt8 (k.toNat : Int)).size < e - i) (x : List UInt8) (hx : ∀ b ∈ x, isL b.toNat = true) : tx 0 x ≠ P := by
  intro hp
  obtain ⟨c, z, _, hc, _, hd, hm, _⟩ := h.run hk h32 he x hx hp
  have hb := pl_bd c.toNat hc
  rw [size_dg c k hd] at hs
  omega
theorem Wr.step {P : List UInt8} {i e : Nat} {o : List UInt8} (h : Wr P i o) {k : UInt8} (hk : P[i]? = some k) (h32 : k ≠ 32) (he : IsEnd P i e) (n : Nat) (hn : e = i + (n + 1)) (hs : n < (lt8 (k.toNat : Int)).size) : Wr P e (o ++ [(lt8 (k.toNat : Int))[n]]) := by
  intro x hx hp
  obtain ⟨c, z, e1, hc, hz, hd, hm, h3⟩ := h.run hk h32 he x hx hp
  obtain ⟨l1, l2, l3⟩ := lt8_letter k (n + 1) (by omega) (by omega)
  simp only [Nat.add_sub_cancel] at l1 l2 l3
  have hcc : c = (lt8 (k.toNat : Int))[n] := letter_eq _ _ (by rw [hd, l2]) (by rw [l3]; omega)
  exact ⟨z, dgB8 c, by rw [e1, ← hcc]; simp, hz, .inl h3⟩
theorem Wr.done {P : List UInt8} {i : Nat} {o : List UInt8} (h : Wr P i o) (hi : P.length ≤ i) (x : List UInt8) (hx : ∀ b ∈ x, isL b.toNat = true) (hp : tx 0 x = P) : x = o := by
  obtain ⟨y, d, e1, hy, hor⟩ := h x hx hp
  rw [List.drop_of_length_le hi] at hor
  rcases tx_cases d y hy with rfl | ⟨c, z, rfl, hc, hz, h1⟩
  · rw [e1, List.append_nil]
  · exfalso
    have h5 := prL_cons c hc
    rcases hor with h2 | h2
    · rcases h1 with h3 | h3
      · rw [h3] at h2; cases h2
      · rw [h3, h5] at h2; cases h2
    · rcases h1 with h3 | h3
      · rw [h3, h5] at h2; cases h2
      · rw [h3, h5] at h2
        injection h2 with h6 _
        exact dgB8_ne c h6

/-- An answer that is a text, the only one whose letters have these presses. -/
def WordPost (p : ByteArray) (w : World) (e : Ending) (w' : World) : Prop := ∃ t : ByteArray, e = .returned (.string t) ∧ Ext w w' ∧ t.size ≤ p.size ∧ ∀ x : List UInt8, (∀ b ∈ x, isL b.toNat = true) → tx 0 x = p.data.toList → t = Bs x
theorem Txt.own0 {B : Nat} {w : World} {v : Value} {l : List UInt8} (h : Txt B w v l) (j : Nat) (hj : v.ownBlock = some j) : B ≤ j := Txt.base h j hj
theorem conv_nil (w : World) : (convert 44 9 (.slice none 0 0)).run Tryd.prog w = .ok (.string (Bs [])) w := by kernel_rfl

set_option maxRecDepth 100000 in
set_option maxHeartbeats 1000000 in
theorem runs_any (p : ByteArray) (hs : p.size ≤ 200) (w : World) (hp : PadIs w) : Calls Tryd.prog 31 #[.string p] w (WordPost p w) := by
  obtain ⟨i0, hi, hz0, hzs, hzb⟩ := info_parts info_u8
  have HI := Lib.hid (show Tryd.prog.info? 5 = some i0 ∧ i0.zero = some (.int .u8 0) ∧ i0.size = 1 ∧ i0.bytes = 1 from ⟨hi, hz0, hzs, hzb⟩)
  clear hi hz0 hzs hzb
  go_enter Tryd.func31, Tryd.ntmps31
  go_wp2
  go_loopw [3, 4] (fun v i wr => ∃ (k : Nat) (o : List UInt8), k ≤ p.size ∧ i = .int .i64 k ∧ Txt w.heap.size wr v o ∧ (o = [] → v = .slice none 0 0) ∧ o.length ≤ k ∧ Wr p.data.toList k o ∧ Ext w wr) (fun _ i _ => p.size - (intOf i).toNat)
  case atStart => exact ⟨0, [], Nat.zero_le _, rfl, Txt.nil _ _, fun _ => rfl, Nat.le_refl _, Wr.nil _, Ext.refl _⟩
  case round =>
    obtain ⟨k, o, hk, rfl, hown, hnil, hol, hw, hx⟩ := hrel
    have HO := Lib.hid hown
    have HN := Lib.hid hnil
    have HW := Lib.hid hw
    clear hown hnil hw
    by_cases hlt : k < p.size
    · have i1 : ∀ w, (Instr.index 9 (.string p) (.int .i64 (k : Int))).run Tryd.prog w = .ok (.int .u8 p[k].toNat) w := fun w => ix_any p k hlt w
      have HP := Lib.hid (getP p k hlt)
      by_cases h32 : (p[k].toNat : Int) = 32
      · have H32 := Lib.hid (show p.data.toList[k]? = some 32 by rw [HP.out]; exact congrArg some (UInt8.toNat_inj.mp (by have : (32 : UInt8).toNat = 32 := rfl; omega)))
        go_wp2_with (go_at_call 53; refine (runEnd_any p k hlt hs _).mono ?_; rintro e w1 ⟨n, hn, rfl, x1⟩)
        have HE := Lib.hid hn
        have hn1 := hn.1
        have hn2 := hn.2.1
        rw [lenP] at hn2
        clear hn
        go_wp2
        go_roundw
        case rel => exact ⟨n, o, hn2, rfl, HO.out.ext x1, HN.out, by omega, HW.out.skip H32.out HE.out, hx.trans x1⟩
        case measure => simp [intOf]; omega
      · have H32 := Lib.hid (show p[k] ≠ 32 by intro h; apply h32; rw [h]; rfl)
        go_wp2_with (go_at_call 53; refine (runEnd_any p k hlt hs _).mono ?_; rintro e w1 ⟨n, hn, rfl, x1⟩; have HE := Lib.hid hn; have hn1 := hn.1; have hn2 := hn.2.1; rw [lenP] at hn2; clear hn)
        obtain ⟨m, rfl⟩ : ∃ m, n = k + (m + 1) := ⟨n - k - 1, by omega⟩
        rw [show ((k + (m + 1) : Nat) : Int) - (k : Int) = (m : Int) + 1 by omega]
        by_cases hm : m < (lt8 (p[k].toNat : Int)).size
        · obtain ⟨b, hb⟩ : ∃ b, b = (lt8 (p[k].toNat : Int))[m] := ⟨_, rfl⟩
          have LY : ∀ w, PadIs w → Calls Tryd.prog 54 #[.int .u8 (p[k].toNat : Int), .int .i64 ((m : Int) + 1)] w fun e w' => e = .returned (.tuple #[.int .u8 (b.toNat : Int), .bool true]) ∧ Ext w w' := by
            subst hb
            exact fun w h => letter_yes p[k] m (by omega) hm w h
          have HS := Lib.hid (show Wr p.data.toList (k + (m + 1)) (o ++ [b]) by rw [hb]; exact HW.out.step HP.out H32.out HE.out m rfl hm)
          clear hb hm
          refine (LY _ (hp.ext (hx.trans x1))).mono ?_
          rintro e w2 ⟨rfl, x2⟩
          clear LY
          go_wp2_with (at_builtin; refine wpList_append_own _ rfl (.tmp 31) (.tmp 33) 44 rfl w.heap.size 5 i0 (.int .u8 0) 1 1 Tryd.underlying44 HI.out.1 HI.out.2.1 HI.out.2.2.1 HI.out.2.2.2 rfl (by decide) _ _ _ rfl (World.ownsRow.alloc (HO.out.ext (x1.trans x2)) _) ⟨w2.heap.size, 0, none⟩ 1 1 [.int .u8 (b.toNat : Int)] rfl rfl (cell_one_new _ _ _) (one1 _) (by unfold maxLen; omega) (by omega) (by have := ((hx.trans x1).trans x2).size; simp; omega) ?_; intro v' w5 hown' hgr' _)
          have R : Txt w.heap.size w5 v' (o ++ [b]) := Txt.snoc hown'
          have X : Ext w w5 := (((hx.trans x1).trans x2).alloc _).grown hgr' (fun j hj => Txt.own0 HO.out j hj)
          clear hown' hgr'
          go_wp2
          go_roundw
          case rel => exact ⟨k + (m + 1), o ++ [b], hn2, rfl, R, fun h => by simp at h, by rw [List.length_append, List.length_singleton]; omega, HS.out, X⟩
          case measure => simp [intOf]; omega
        · have HS := Lib.hid (fun x hx => HW.out.short HP.out H32.out HE.out (show _ < _ by omega) x hx)
          refine (letter_no p[k] m (by omega) (by omega) _ (hp.ext (hx.trans x1))).mono ?_
          rintro e w2 ⟨rfl, x2⟩
          clear hm
          go_wp2
          go_ret
          exact ⟨_, rfl, (hx.trans x1).trans x2, Nat.zero_le _, fun x h1 h2 => absurd h2 (HS.out x h1)⟩
    · have HD := Lib.hid (fun x h1 h2 => HW.out.done (by rw [lenP]; omega) x h1 h2)
      by_cases ho : o = []
      · have hv := HN.out ho
        have HOO := Lib.hid ho
        subst hv
        clear ho
        have hc := conv_nil
        go_wp2
        go_ret
        exact ⟨_, rfl, hx, Nat.zero_le _, fun x h1 h2 => by rw [HD.out x h1 h2, HOO.out]⟩
      · obtain ⟨a, c, rfl, hc⟩ := conv_txt HO.out ho
        have hz : (Bs o).size ≤ p.size := by rw [Bs_size]; omega
        clear ho
        go_wp2
        go_ret
        exact ⟨_, rfl, hx, hz, fun x h1 h2 => by rw [HD.out x h1 h2]⟩

/-! ### The model's reading -/
theorem cut1 (s : ByteArray) (a : Nat) (h : a < s.size) : s.extract a (a + 1) = ⟨#[s[a]]⟩ := by
  apply ByteArray.ext
  rw [ByteArray.data_extract]
  apply Array.ext
  · simp; have : s.data.size = s.size := rfl; omega
  · intro i h1 h2
    have : i = 0 := by simp at h2; exact h2
    subst this
    simp
    rfl
theorem snoc_cut {o : List UInt8} {L : ByteArray} {a b : Nat} (h : a < L.size) (hb : b = a + 1) : Bs o ++ L.extract a b = Bs (o ++ [L[a]]) := by
  subst hb
  rw [cut1 L a h, Bs_snoc]
/-- An answer of the model's: a word with these presses, or none. -/
def ReadPost (p : ByteArray) (w : World) (e : Ending) (w' : World) : Prop := ∃ (t : ByteArray) (ok : Bool), e = .returned (.tuple #[.string t, .bool ok]) ∧ Ext w w' ∧ (ok = true → isW t = true ∧ tx 0 t.data.toList = p.data.toList) ∧ (ok = false → ∀ x : List UInt8, (∀ b ∈ x, isL b.toNat = true) → isW (Bs x) = true → tx 0 x ≠ p.data.toList)
theorem read_done {p : ByteArray} {k : Nat} {o : List UInt8} {f : Bool} (h : At p.data.toList k o f) (hk : p.size ≤ k) : (isW (Bs o) = true → isW (Bs o) = true ∧ tx 0 (Bs o).data.toList = p.data.toList) ∧ (isW (Bs o) = false → ∀ x : List UInt8, (∀ b ∈ x, isL b.toNat = true) → isW (Bs x) = true → tx 0 x ≠ p.data.toList) := by
  obtain ⟨h1, h2⟩ := h.done (by rw [lenP]; exact hk)
  refine ⟨fun h3 => ⟨h3, h1⟩, fun h3 x hx hw hp => ?_⟩
  rw [h2 x hx hp, h3] at hw
  cases hw

set_option maxRecDepth 100000 in
set_option maxHeartbeats 4000000 in
theorem prRead_any (p : ByteArray) (hs : p.size ≤ 200) (w : World) : Calls Tryd.prog 30 #[.string p] w (ReadPost p w) := by
  go_enter Tryd.func30, Tryd.ntmps30
  go_wp2
  go_loopw [4, 5] (fun t i wr => ∃ (k : Nat) (o : List UInt8) (f : Bool), k ≤ p.size ∧ i = .int .i64 k ∧ t = .string (Bs o) ∧ o.length ≤ k ∧ At p.data.toList k o f ∧ Ext w wr) (fun _ i _ => p.size - (intOf i).toNat)
  case atStart => exact ⟨0, [], false, Nat.zero_le _, rfl, rfl, Nat.le_refl _, At.nil _, Ext.refl _⟩
  case round =>
    obtain ⟨k, o, f, hk, rfl, rfl, hol, hat, hx⟩ := hrel
    have HA := Lib.hid hat
    clear hat
    by_cases hlt : k < p.size
    · have ik : ∀ w, (Instr.index 9 (.string p) (.int .i64 (k : Int))).run Tryd.prog w = .ok (.int .u8 p[k].toNat) w := fun w => ix_any p k hlt w
      have HP := Lib.hid (getP p k hlt)
      go_wp2
      go_loopw [6] (fun c wz => ∃ n : Nat, k ≤ n ∧ n ≤ p.size ∧ c = .int .i64 n ∧ (∀ j, k ≤ j → j < n → p.data.toList[j]? = p.data.toList[k]?) ∧ Ext w wz) (fun c _ => p.size - (intOf c).toNat)
      case atStart => exact ⟨k, Nat.le_refl _, by omega, rfl, fun j h1 h2 => absurd h2 (by omega), hx⟩
      case round =>
        obtain ⟨n, hkn, hn, rfl, hall, hxz⟩ := hrel
        have HL := Lib.hid hall
        clear hall
        have hcase : (∃ h : n < p.size, (p[n].toNat : Int) = p[k].toNat) ∨ (p.size ≤ n ∨ ∃ h : n < p.size, ¬ (p[n].toNat : Int) = p[k].toNat) := by
          by_cases h : n < p.size
          · by_cases h2 : (p[n].toNat : Int) = p[k].toNat
            · exact .inl ⟨h, h2⟩
            · exact .inr (.inr ⟨h, h2⟩)
          · exact .inr (.inl (by omega))
        rcases hcase with ⟨hnl, he⟩ | hstop
        · have i1 : ∀ w, (Instr.index 9 (.string p) (.int .i64 (n : Int))).run Tryd.prog w = .ok (.int .u8 p[n].toNat) w := fun w => ix_any p n hnl w
          have HE := Lib.hid (show p.data.toList[n]? = p.data.toList[k]? by rw [getP p n hnl, getP p k hlt]; exact congrArg some (UInt8.toNat_inj.mp (by omega)))
          go_wp2
          go_quiet (fail)
          go_wp2
          go_roundw
          case rel => exact ⟨n + 1, by omega, by omega, by go_num, all_next p k n HL.out HE.out, ext_drewN hxz _⟩
          case measure => simp [intOf]; omega
        · have hend : IsEnd p.data.toList k n := by
            refine end_of p k n hkn hn HL.out ?_
            rcases hstop with h | ⟨h, h2⟩
            · rw [noP p n h, getP p k hlt]; simp
            · rw [getP p n h, getP p k hlt]; intro h3; apply h2; rw [Option.some.inj h3]
          have HN := Lib.hid hend
          have hkn2 := hend.1
          clear hend
          by_cases hm : n - k ≤ (lt8 (p[k].toNat : Int)).size
          · obtain ⟨o2, q1, q2, q3⟩ : ∃ o2 : List UInt8, Mid p.data.toList n o2 p[k] ∧ Bs o ++ (lt8 (p[k].toNat : Int)).extract (n - k - 1) (n - k) = Bs o2 ∧ o2.length ≤ n := ⟨_, HA.out.mid HP.out HN.out hm, snoc_cut (by omega) (by omega), by rw [List.length_append, List.length_singleton]; omega⟩
            have HM := Lib.hid q1
            have HS := Lib.hid q2
            have HOL := Lib.hid q3
            have hm2 : (n : Int) - (k : Int) ≤ ((lt8 (p[k].toNat : Int)).size : Int) := by omega
            clear hm q1 q2 q3
            have hbz : (Bs o).size ≤ 200 := by rw [Bs_size]; omega
            rcases hstop with h | ⟨h, h2⟩
            · have hnn : ¬ n < p.size := by omega
              have HT := Lib.hid (HM.out.plain (by rw [noP p n h]; simp))
              clear h
              go_wp2
              go_quiet (fail)
              go_wp2_with (go_at_call 51; refine (prL_any _ _).mono ?_; rintro e w' ⟨rfl, rfl⟩)
              go_roundw
              case rel => exact ⟨n, o2, false, hn, rfl, congrArg Value.string HS.out, HOL.out, HT.out, ext_drewN hxz _⟩
              case measure => simp [intOf]; omega
            · have i1 : ∀ w, (Instr.index 9 (.string p) (.int .i64 (n : Int))).run Tryd.prog w = .ok (.int .u8 p[n].toNat) w := fun w => ix_any p n h w
              by_cases h32 : (p[n].toNat : Int) = 32
              · have H32 := Lib.hid (show p.data.toList[n]? = some 32 by rw [getP p n h]; exact congrArg some (UInt8.toNat_inj.mp (by have : (32 : UInt8).toNat = 32 := rfl; omega)))
                have hq : p[n - 1] = p[k] := by
                  have h3 := HL.out (n - 1) (by omega) (by omega)
                  rw [getP p (n - 1) (by omega), getP p k hlt] at h3
                  exact Option.some.inj h3
                have HQ := Lib.hid hq
                clear hq
                by_cases hl : n + 1 < p.size
                · have j1 : ∀ w, (Instr.index 9 (.string p) (.int .i64 ((n : Int) + 1))).run Tryd.prog w = .ok (.int .u8 p[n + 1].toNat) w := fun w => ix_any p (n + 1) hl w
                  have j2 : ∀ w, (Instr.index 9 (.string p) (.int .i64 ((n : Int) + 1 - 2))).run Tryd.prog w = .ok (.int .u8 p[n - 1].toNat) w := fun w => by rw [show (n : Int) + 1 - 2 = ((n - 1 : Nat) : Int) by omega]; exact ix_any p (n - 1) (by omega) w
                  have hne : ¬ (n : Int) + 1 = (p.size : Int) := by omega
                  have W1 : IntKind.i64.wrap ((n : Int) + 1 - 2) = (n : Int) + 1 - 2 := IntWalk.i64_in _ (by omega)
                  by_cases he : (p[n + 1].toNat : Int) = p[n - 1].toNat
                  · have HT := Lib.hid (HM.out.waited H32.out (by rw [getP p (n + 1) hl, ← HQ.out]; exact congrArg some (UInt8.toNat_inj.mp (by omega))))
                    go_wp2
                    go_quiet (fail)
                    go_wp2_with (go_at_call 51; refine (prL_any _ _).mono ?_; rintro e w' ⟨rfl, rfl⟩)
                    go_quiet (fail)
                    go_wp2
                    go_roundw
                    case rel => exact ⟨n + 1, o2, true, by omega, by go_num, congrArg Value.string HS.out, by have := HOL.out; omega, HT.out, ext_drewN (ext_drewN hxz _) _⟩
                    case measure => simp [intOf]; omega
                  · have HF := Lib.hid (fun x hx => HM.out.failed H32.out (by rw [getP p (n + 1) hl, ← HQ.out]; intro h3; apply he; rw [Option.some.inj h3]) x hx)
                    go_wp2
                    go_quiet (fail)
                    go_wp2_with (go_at_call 51; refine (prL_any _ _).mono ?_; rintro e w' ⟨rfl, rfl⟩)
                    go_quiet (fail)
                    go_wp2
                    · go_ret2
                      exact ⟨_, _, rfl, ext_drewN (ext_drewN hxz _) _, fun h => (by cases h), fun _ x h1 _ => HF.out x h1⟩
                    · rename_i hc
                      exact absurd (by simpa using hc.2) he
                · have HF := Lib.hid (fun x hx => HM.out.failed H32.out (by rw [noP p (n + 1) (by omega)]; simp) x hx)
                  have hne : (n : Int) + 1 = (p.size : Int) := by omega
                  go_wp2
                  go_quiet (fail)
                  go_wp2_with (go_at_call 51; refine (prL_any _ _).mono ?_; rintro e w' ⟨rfl, rfl⟩)
                  go_quiet (fail)
                  go_wp2
                  go_ret2
                  exact ⟨_, _, rfl, ext_drewN (ext_drewN hxz _) _, fun h => (by cases h), fun _ x h1 _ => HF.out x h1⟩
              · have HT := Lib.hid (HM.out.plain (by rw [getP p n h]; intro h3; apply h32; rw [Option.some.inj h3]; rfl))
                go_wp2
                go_quiet (fail)
                go_wp2_with (go_at_call 51; refine (prL_any _ _).mono ?_; rintro e w' ⟨rfl, rfl⟩)
                go_roundw
                case rel => exact ⟨n, o2, false, hn, rfl, congrArg Value.string HS.out, HOL.out, HT.out, ext_drewN hxz _⟩
                case measure => simp [intOf]; omega
          · have HF := Lib.hid (fun x hx => HA.out.short HP.out HN.out (by omega) x hx)
            have hm2 : ((lt8 (p[k].toNat : Int)).size : Int) < (n : Int) - (k : Int) := by omega
            clear hm
            rcases hstop with h | ⟨h, h2⟩
            · have hnn : ¬ n < p.size := by omega
              clear h
              go_wp2
              go_quiet (fail)
              go_wp2_with (go_at_call 51; refine (prL_any _ _).mono ?_; rintro e w' ⟨rfl, rfl⟩)
              go_ret2
              exact ⟨_, _, rfl, ext_drewN hxz _, fun h => (by cases h), fun _ x h1 _ => HF.out x h1⟩
            · have i1 : ∀ w, (Instr.index 9 (.string p) (.int .i64 (n : Int))).run Tryd.prog w = .ok (.int .u8 p[n].toNat) w := fun w => ix_any p n h w
              go_wp2
              go_quiet (fail)
              go_wp2_with (go_at_call 51; refine (prL_any _ _).mono ?_; rintro e w' ⟨rfl, rfl⟩)
              go_ret2
              exact ⟨_, _, rfl, ext_drewN hxz _, fun h => (by cases h), fun _ x h1 _ => HF.out x h1⟩
    · have HD := Lib.hid (read_done HA.out (by omega))
      have hz : (Bs o).size ≤ maxLen := by rw [Bs_size]; unfold maxLen; omega
      go_wp2_with (go_at_call 52; refine (prW_any _ _ hz).mono ?_; rintro e w' ⟨rfl, rfl⟩)
      go_ret2
      exact ⟨_, _, rfl, hx, HD.out.1, HD.out.2⟩

/-- What both answers are. -/
def Told (p t : ByteArray) : Prop := p.size ≤ 200 ∧ isW t = true ∧ tx 0 t.data.toList = p.data.toList
def Good (p t : ByteArray) (ok : Bool) : Prop := (ok = true → Told p t) ∧ (ok = false → t = ⟨#[]⟩ ∧ ∀ x, ¬ Told p x)
def Fits2 (p t : ByteArray) (ok : Bool) : Prop := (ok = true → Told p t) ∧ (ok = false → t = ⟨#[]⟩) ∧ ∀ x, Told p x → ok = true ∧ t = x
theorem same_of {p t u : ByteArray} {a b : Bool} (h : Good p t a) (k : Fits2 p u b) : u = t ∧ b = a := by
  cases a with
  | true =>
    obtain ⟨h1, h2⟩ := k.2.2 t (h.1 rfl)
    exact ⟨h2, h1⟩
  | false =>
    obtain ⟨h1, h2⟩ := h.2 rfl
    cases b with
    | true => exact absurd (k.1 rfl) (h2 u)
    | false => exact ⟨by rw [h1, k.2.1 rfl], rfl⟩
theorem isW_all {s : ByteArray} (h : isW s = true) : ∀ b ∈ s.data.toList, isL b.toNat = true := by
  unfold isW at h
  simp only [Bool.and_eq_true, List.all_eq_true] at h
  exact h.2
theorem Bs_self (s : ByteArray) : Bs s.data.toList = s := by
  apply ByteArray.ext
  simp [Bs]
def AnsR (G : ByteArray → ByteArray → Bool → Prop) (p : ByteArray) (w : World) (e : Ending) (w' : World) : Prop := ∃ (t : ByteArray) (ok : Bool), e = .returned (.tuple #[.string t, .bool ok]) ∧ Ext w w' ∧ G p t ok
theorem good_no {p : ByteArray} (h : ∀ x, ¬ Told p x) : Good p ⟨#[]⟩ false := ⟨fun h => (by cases h), fun _ => ⟨rfl, h⟩⟩
theorem fits_no {p : ByteArray} (h : ∀ x, ¬ Told p x) : Fits2 p ⟨#[]⟩ false := ⟨fun h => (by cases h), fun _ => rfl, fun x hx => absurd hx (h x)⟩
theorem told_big {p : ByteArray} (h : 200 < p.size) (x : ByteArray) : ¬ Told p x := fun hx => by have := hx.1; omega

set_option maxHeartbeats 1000000 in
theorem spec_any (p : ByteArray) (hs : p.size ≤ maxLen) (w : World) : Calls Tryd.prog 14 #[.string p] w (AnsR Good p w) := by
  have h63 : p.size ≤ 9223372036854775807 := hs
  by_cases hbig : 200 < p.size
  · have H := Lib.hid (good_no (told_big hbig))
    go_enter Tryd.func14, Tryd.ntmps14
    go_wp2
    go_ret2
    exact ⟨_, _, rfl, Ext.refl _, H.out⟩
  · go_enter Tryd.func14, Tryd.ntmps14
    go_wp2_with fail
    refine (prRead_any p (by omega) _).mono ?_
    rintro e w1 ⟨t, ok, rfl, x1, h1, h2⟩
    cases ok with
    | true =>
      have H := Lib.hid (show Good p t true from ⟨fun _ => ⟨by omega, h1 rfl⟩, fun h => (by cases h)⟩)
      clear h1 h2
      go_wp2
      go_ret2
      exact ⟨_, _, rfl, x1, H.out⟩
    | false =>
      have H := Lib.hid (good_no (p := p) (fun x hx => h2 rfl x.data.toList (isW_all hx.2.1) (by rw [Bs_self]; exact hx.2.1) hx.2.2))
      clear h1 h2
      go_wp2
      go_ret2
      exact ⟨_, _, rfl, x1, H.out⟩

theorem loop_eq (b : ByteArray) : ∀ (n i : Nat) (r : List UInt8), b.size - i = n → ByteArray.toList.loop b i r = r.reverse ++ b.data.toList.drop i := by
  intro n
  induction n with
  | zero =>
    intro i r h
    rw [ByteArray.toList.loop, if_neg (by omega), List.drop_of_length_le (by simp; have : b.data.size = b.size := rfl; omega), List.append_nil]
  | succ n ih =>
    intro i r h
    have hi : i < b.data.toList.length := by simp; have : b.data.size = b.size := rfl; omega
    rw [ByteArray.toList.loop, if_pos (by omega), ih _ _ (by omega), List.drop_eq_getElem_cons hi, List.reverse_cons, List.append_assoc]
    have : b.get! i = b.data.toList[i] := by
      show b.data[i]! = _
      rw [getElem!_pos b.data i (by simpa using hi)]
      simp
    rw [this]
    rfl
theorem toList_data (b : ByteArray) : b.toList = b.data.toList := by
  unfold ByteArray.toList
  rw [loop_eq b _ 0 [] rfl]
  simp

theorem pt_tx {t : ByteArray} (h : isW t = true) : ptV t = Bs (tx 0 t.data.toList) := by
  rw [ptV_yes h, ← tx_txTo t t.size (Nat.le_refl _), take_all t t.size (Nat.le_refl _)]

set_option maxHeartbeats 1000000 in
theorem impl_any (p : ByteArray) (hs : p.size ≤ maxLen) (w : World) (hp : PadIs w) : Calls Tryd.prog 15 #[.string p] w (AnsR Fits2 p w) := by
  have h63 : p.size ≤ 9223372036854775807 := hs
  by_cases hbig : 200 < p.size
  · have H := Lib.hid (fits_no (told_big hbig))
    go_enter Tryd.func15, Tryd.ntmps15
    go_wp2
    go_ret2
    exact ⟨_, _, rfl, Ext.refl _, H.out⟩
  · go_enter Tryd.func15, Tryd.ntmps15
    go_wp2_with fail
    refine (runs_any p (by omega) _ hp).mono ?_
    rintro e w1 ⟨t, rfl, x1, hts, huni⟩
    have hu : ∀ x, Told p x → t = x := fun x hx => by rw [huni _ (isW_all hx.2.1) hx.2.2, Bs_self]
    have hsz : t.size ≤ maxLen := by unfold maxLen; omega
    obtain ⟨T, hT⟩ : ∃ T, T = ptV t := ⟨_, rfl⟩
    have PT := pressText_any t w1 hsz (hp.ext x1)
    rw [← hT] at PT
    cases hW : isW t with
    | false =>
      have H := Lib.hid (fits_no (p := p) (fun x hx => by have := hu x hx; subst this; have := hx.2.1; rw [hW] at this; cases this))
      rw [hW] at PT
      clear hu huni hT hW
      go_wp2_with fail
      refine PT.mono ?_
      rintro e w2 ⟨rfl, x2⟩
      clear PT
      go_wp2
      go_ret2
      exact ⟨_, _, rfl, x1.trans x2, H.out⟩
    | true =>
      have hTx : T = Bs (tx 0 t.data.toList) := by rw [hT, pt_tx hW]
      rw [hW] at PT
      by_cases he : T = p
      · subst he
        have H := Lib.hid (show Fits2 T t true from ⟨fun _ => ⟨by omega, hW, by rw [hTx]; simp [Bs]⟩, fun h => (by cases h), fun x hx => ⟨rfl, hu x hx⟩⟩)
        clear hu huni hT hW hTx
        go_wp2_with fail
        refine PT.mono ?_
        rintro e w2 ⟨rfl, x2⟩
        clear PT
        go_wp2
        go_ret2
        exact ⟨_, _, rfl, x1.trans x2, H.out⟩
      · have H := Lib.hid (fits_no (p := p) (fun x hx => by
          have := hu x hx
          subst this
          apply he
          rw [hTx, hx.2.2, Bs_self]))
        clear hu huni hT hW hTx
        go_wp2_with fail
        refine PT.mono ?_
        rintro e w2 ⟨rfl, x2⟩
        clear PT
        go_wp2
        · go_ret2
          exact ⟨_, _, rfl, x1.trans x2, H.out⟩
        · rename_i hc
          have e : T.toList = p.toList := by simpa using hc
          rw [toList_data, toList_data] at e
          exact absurd (by rw [← Bs_self T, e, Bs_self]) he

set_option maxHeartbeats 1000000 in
theorem walk (s : ByteArray) (hs : s.size ≤ maxLen) (w : World) (hp : PadIs w) : Calls Tryd.prog 4 #[.string s] w fun e w' => e = .returned (.bool true) ∧ Ext w w' := by
  have h63 : s.size ≤ 9223372036854775807 := hs
  by_cases hbig : 1048576 < s.size
  · go_enter Tryd.func4, Tryd.ntmps4
    go_wp2
    go_ret
    exact ⟨rfl, Ext.refl _⟩
  go_enter Tryd.func4, Tryd.ntmps4
  go_wp2_with fail
  refine (spec_any _ hs _).mono ?_
  rintro e w1 ⟨t, ok, rfl, x1, g1⟩
  have G1 := Lib.hid g1
  clear g1
  go_wp2_with fail
  refine (impl_any _ hs _ (hp.ext x1)).mono ?_
  rintro e w2 ⟨u, ok2, rfl, x2, g2⟩
  obtain ⟨h1, h2⟩ := same_of G1.out g2
  subst h1
  subst h2
  clear g2 G1
  go_wp2
  go_ret
  exact ⟨rfl, x1.trans x2⟩

set_option maxRecDepth 100000 in
theorem contract (H : Type) (enc : TypeId × Value → H) (W : World) (base : Nat) (args : Array Value) (ds gs : List (DataW H)) (before : List MemPlace)
    (hval : ∀ (j : Nat) t v, Tryd.f4.params[j]? = some t → args[j]? = some v → Value.okWide Tryd.prog W .any base t v)
    (hW : DataW.Whole enc Tryd.prog Tryd.f4.params.toList Rows.fnExactReadPressesSpec.vars false W args.toList ds gs before) (hL : laidMetH Tryd.prog Rows.fnExactReadPressesRow.laid W) :
    Calls Tryd.prog 4 args W fun e W' => ∃ v, e = .returned v ∧ Rows.fnExactReadPressesSpec.post enc Tryd.prog Tryd.f4 false true false false W args v W' := by
  have hW' := hW
  obtain ⟨p, q, hA0, hV, rfl, hfz, hnd⟩ := hW
  have hA : DataW.TrodAll enc Tryd.prog W 0 (fun _ => true) true Tryd.f4.params.toList args.toList ds p := hA0
  rw [Tryd.params4] at hA hval
  obtain ⟨v0, vs0, d0, ds0, p0, q0, hargs0, rfl, rfl, h0, r0⟩ := trodAll_cons hA
  obtain ⟨rfl, rfl, rfl⟩ := trodAll_nil r0
  obtain rfl : args = #[v0] := Array.toList_inj.1 hargs0
  obtain ⟨s0, rfl, rfl, rfl, z0⟩ := open_string Tryd.underlying9 (hval 0 9 v0 rfl rfl) h0
  clear hA0
  refine (walk s0 z0 W (padIs_of_laid hL)).mono fun e W' ⟨he, hx⟩ => ?_
  subst he
  exact ⟨_, rfl, post_true (tb := 4) laidOut (by rw [Tryd.params4]; intro t ht; simp at ht; subst ht; exact ⟨by kernel_rfl, of_decide_eq_true (by kernel_rfl)⟩) (by kernel_rfl) hW' hx (by obtain ⟨g, t, cs, fuel, d, p', rfl, _⟩ := trodVars_one hV; rfl) rfl Tryd.underlying4⟩

theorem reads (os : Os) {H : Type} (enc : TypeId × Value → H) : ∃ gs places, DataW.whole enc Tryd.prog ((laidWorld os).forCall (fun _ _ => 0) ⟨#[], #[.string ByteArray.empty], []⟩).memory Tryd.f4.params.toList Rows.fnExactReadPressesSpec.vars false (#[.string ByteArray.empty] : Array Value).toList 8 = some ([.lit (.string [])], gs, places) :=
  ⟨[Rows.laid_loop_example_g01350_impl_padKeys], MemPlace.row ⟨0, 0, none⟩ 16, by kernel_rfl⟩

set_option maxRecDepth 100000 in
theorem lifted (os : Os) (started : os.Started) (H : Type) (enc : TypeId × Value → H) (F : Stop.Interp) :
    ReturnsInHanded {} Tryd.checked os 4 .any ((OpenSpec.ofChange Rows.fnExactReadPressesSpec).preRow enc Tryd.prog Tryd.f4 Rows.fnExactReadPressesRow.domain false Rows.fnExactReadPressesRow.laid) (((OpenSpec.ofChange Rows.fnExactReadPressesSpec).at F).post enc Tryd.prog Tryd.f4 false true false false) := by
  obtain ⟨gs, places, hx⟩ := reads os enc
  refine returnsInHanded_of_row (C := Tryd.checked) (s := OpenSpec.ofChange Rows.fnExactReadPressesSpec) own started (by kernel_rfl) Tryd.func4
    (witness_row_at (enc := enc) (C := Tryd.checked) false (laidWorld os) #[.string ByteArray.empty] rfl (by kernel_rfl) (by kernel_rfl) (by kernel_rfl)
      (OpenSpec.preRow_of_cond 8 hx (by kernel_rfl) (fun k hk => by cases hk) (by kernel_rfl) (laid_met os _))) ?_
  intro W base args ds gs before hval hW _ _ _ hL _ _
  exact contract H enc W base args ds gs before hval hW hL

theorem said : Rows.FnExactReadPressesSaid :=
  OpenClaim.holds_of_cond 4 Tryd.f4 rfl rfl rfl rfl rfl rfl rfl ⟨rfl, rfl, rfl, rfl, rfl⟩ rfl rfl rfl rfl rfl (by kernel_rfl) Tryd.func4 (by kernel_rfl)
    (of_decide_eq_true (by kernel_rfl)) (by unfold Func.isWrapper; first | (rw [if_pos (by decide +kernel)]; kernel_rfl) | (rw [if_neg (by decide +kernel)]; exact ⟨rfl, rfl⟩))
    (fun os started H enc _ F => by rw [OpenClaim.pre_eq_preRow]; exact lifted os started H enc F)

theorem plain (f : FuncId) (fn : Func) (hf : Tryd.pinned.checked.prog.funcNamed "loop.example/g01350/laws.FnExactReadPresses" = some f) (hfn : Tryd.pinned.checked.prog.funcs[f]? = some fn) :
    false = Tryd.pinned.checked.prog.looks [] ∧ ∀ (j : Nat) t, fn.params[j]? = some t → Tryd.pinned.checked.prog.wantsStandIn t = false := by
  obtain rfl : f = 4 := Option.some.inj ((show Tryd.prog.funcNamed "loop.example/g01350/laws.FnExactReadPresses" = some 4 by kernel_rfl).symm.trans hf) |>.symm
  obtain rfl : fn = Tryd.f4 := (Option.some.inj (Tryd.func4.symm.trans hfn)).symm
  refine ⟨by kernel_rfl, fun j t ht => ?_⟩
  rw [Tryd.params4] at ht
  have hm := Array.mem_of_getElem? ht
  have hall : (#[9].toList.all fun u => !Tryd.prog.wantsStandIn u) = true := by kernel_rfl
  exact (show Tryd.prog.wantsStandIn t = false by simpa using List.all_eq_true.1 hall t (by simpa using hm))

/-- THE CARD -/
theorem card : Rows.FnExactReadPressesCardSaid :=
  Claim7.holds_tied_plain_at .later [] _ _ _ _ said (fun _ h => by cases h) (by kernel_rfl) (fun _ h => by cases h) fnExactReadPresses_row_tie rfl ⟨rfl, rfl⟩ (by kernel_rfl) rfl plain (by kernel_rfl)
end Go.Proofs.YtamjhhdggdfjiaaDoor.readPresses
