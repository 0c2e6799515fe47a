/- Lists of lengths: their tests, and how many numbers codes of such lengths begin. No conditions. -/
import Derived.Test.YtinojlbnmnlmhabTen
import Derived.Test.YtinojlbnmnlmhabToI
namespace Go.Proofs.Ytinojlbnmnlmhab
open Go.RowKit

theorem IntsA.get2 {w : World} {a : Option Addr} {cap : Nat} {zs : List Int} (h : IntsA w (.slice a zs.length cap) zs) (j : Nat) (hj : j < zs.length) : ∃ b off, a = some ⟨b, off, none⟩ ∧ b < w.heap.size ∧ w.cell? ⟨b, off + j, none⟩ = some (.int .i64 zs[j]) := by
  rcases h.2 with ⟨rfl, _⟩ | ⟨b, off, cap', e, h2, h3⟩
  · exact absurd hj (Nat.not_lt_zero _)
  · injection e with e1 e2 e3
    exact ⟨b, off, e1, h2, h3 j hj⟩

def okIn (lo hi z : Int) : Bool := inW z lo hi
theorem take_all {p : Int → Bool} (zs : List Int) (k : Nat) (h : k < zs.length) : (zs.take (k + 1)).all p = ((zs.take k).all p && p zs[k]) := by
  rw [List.take_succ_eq_append_getElem h, List.all_append]; simp
theorem all_no {p : Int → Bool} {zs : List Int} (k : Nat) (h : k < zs.length) (h2 : p zs[k] = false) : zs.all p = false := by
  rw [List.all_eq_false]; exact ⟨zs[k], List.getElem_mem h, by simp [h2]⟩

set_option maxHeartbeats 1000000 in
theorem l1All_any (v : Value) (zs : List Int) (lo hi : Int) (w : World) (h : IntsA w v zs) : Calls Try.prog 99 #[v, .int .i64 lo, .int .i64 hi] w fun e w' => e = .returned (.bool (zs.all (okIn lo hi))) ∧ w = w' := by
  have H := Lib.hid h
  have hl := h.1
  unfold maxLen at hl
  obtain ⟨a, cap, hv⟩ := h.at
  rw [hv] at H ⊢
  clear hv h
  go_enter Try.func99, Try.ntmps99
  go_wp2
  go_loop [11] (fun i => ∃ k : Nat, k ≤ zs.length ∧ i = .int .i64 k ∧ (zs.take k).all (okIn lo hi) = true) (fun i => zs.length - (intOf i).toNat)
  case atStart => exact ⟨0, Nat.zero_le _, rfl, rfl⟩
  case round =>
    obtain ⟨k, hk, rfl, hall⟩ := hrel
    have HA := Lib.hid hall
    clear hall
    by_cases hlt : k < zs.length
    · obtain ⟨b, off, ha, _, e1⟩ := H.out.get2 k hlt
      have HT := Lib.hid (take_all (p := okIn lo hi) zs k hlt)
      have HF := Lib.hid (fun (h : okIn lo hi zs[k] = false) => all_no (p := okIn lo hi) k hlt h)
      obtain ⟨z, hz⟩ : ∃ z, z = zs[k] := ⟨_, rfl⟩
      rw [← hz] at e1 HT HF
      clear hz
      subst ha
      cases hb : okIn lo hi z
      · have HV := Lib.hid (HF.out hb)
        have hb2 : inW z lo hi = false := hb
        clear hb
        go_wp2_with (go_at_call 69; refine (inW_any _ _ _ _).mono ?_; rintro e w' ⟨rfl, rfl⟩; rw [hb2])
        go_ret
        exact ⟨ret_bool HV.out.symm, rfl⟩
      · have HN := Lib.hid (show (zs.take (k + 1)).all (okIn lo hi) = true by rw [HT.out, HA.out, hb]; rfl)
        have hb2 : inW z lo hi = true := hb
        clear hb
        go_wp2_with (go_at_call 69; refine (inW_any _ _ _ _).mono ?_; rintro e w' ⟨rfl, rfl⟩; rw [hb2])
        go_round
        case rel => exact ⟨k + 1, by omega, by go_num, HN.out⟩
        case measure => simp [intOf]; omega
    · have HV := Lib.hid (show zs.all (okIn lo hi) = true by have := HA.out; rw [List.take_of_length_le (by omega)] at this; exact this)
      go_wp2
      go_ret
      exact ⟨ret_bool HV.out.symm, rfl⟩

/-! ### A list of lengths -/
def lnB (zs : List Int) : Bool := inW zs.length 1 20 && zs.all (okIn 1 6)
theorem lnB_l {zs : List Int} (h : inW zs.length 1 20 = false) : lnB zs = false := by unfold lnB; rw [h]; rfl
theorem lnB_a {zs : List Int} (h : inW zs.length 1 20 = true) : lnB zs = zs.all (okIn 1 6) := by unfold lnB; rw [h]; rfl
structure LnB (zs : List Int) : Prop where
  l1 : 1 ≤ zs.length
  l2 : zs.length ≤ 20
  at_ : ∀ z ∈ zs, 1 ≤ z ∧ z ≤ 6
theorem lnB_of {zs : List Int} (h : lnB zs = true) : LnB zs := by
  unfold lnB at h
  rw [Bool.and_eq_true, List.all_eq_true] at h
  have a := inW_bnd h.1
  exact ⟨by omega, by omega, fun z hz => inW_bnd (h.2 z hz)⟩
theorem lnB_yes {zs : List Int} (h : LnB zs) : lnB zs = true := by
  have h1 := h.l1
  have h2 := h.l2
  rw [lnB_a (inW_yes (by omega) (by omega)), List.all_eq_true]
  exact fun z hz => inW_yes (h.at_ z hz).1 (h.at_ z hz).2

theorem lclo_any (z : Int) (C : Nat) (w : World) (h : w.heap[C]? = some (.cells #[.func (.func 51) #[] #[]] 53)) : Calls Try.prog 135 #[.int .i64 z, .pointer (some ⟨C, 0, none⟩)] w fun e w' => e = .returned (.bool (!okIn 1 6 z)) ∧ w = w' := by
  obtain ⟨hc, hf⟩ := cell1 h
  go_enter Try.func135, Try.ntmps135
  go_wp2_with (go_at_call 51; refine (codeLong_any _ _).mono ?_; rintro e w' ⟨rfl, rfl⟩)
  go_ret
  exact ⟨rfl, rfl⟩

set_option maxHeartbeats 1000000 in
theorem lidx_any (v : Value) (zs : List Int) (C : Nat) (w : World) (h : w.heap[C]? = some (.cells #[.func (.func 51) #[] #[]] 53)) (hs : IntsA w v zs) : Calls Try.prog 174 #[v, .func (.func 135) #[] #[.pointer (some ⟨C, 0, none⟩)]] w fun e w' => (∃ r : Int, e = .returned (.int .i64 r) ∧ decide (0 ≤ r) = !zs.all (okIn 1 6)) ∧ w = w' := by
  have H := Lib.hid hs
  have HB := Lib.hid (fun z => lclo_any z C w h)
  have hl := hs.1
  unfold maxLen at hl
  obtain ⟨a, cap, hv⟩ := hs.at
  rw [hv] at H ⊢
  clear hv hs h
  go_enter Try.func174, Try.ntmps174
  go_wp2
  go_loop [8] (fun i => ∃ k : Nat, k ≤ zs.length ∧ i = .int .i64 k ∧ (zs.take k).all (okIn 1 6) = true) (fun i => zs.length - (intOf i).toNat)
  case atStart => exact ⟨0, Nat.zero_le _, rfl, rfl⟩
  case round =>
    obtain ⟨k, hk, rfl, hall⟩ := hrel
    have HA := Lib.hid hall
    clear hall
    by_cases hlt : k < zs.length
    · obtain ⟨b, off, ha, _, e1⟩ := H.out.get2 k hlt
      have HT := Lib.hid (take_all (p := okIn 1 6) zs k hlt)
      have HF := Lib.hid (fun (h : okIn 1 6 zs[k] = false) => all_no (p := okIn 1 6) k hlt h)
      obtain ⟨z, hz⟩ : ∃ z, z = zs[k] := ⟨_, rfl⟩
      rw [← hz] at e1 HT HF
      clear hz
      subst ha
      cases hb : okIn 1 6 z
      · have HV := Lib.hid (HF.out hb)
        have HZ := Lib.hid (show Calls Try.prog 135 #[.int .i64 z, .pointer (some ⟨C, 0, none⟩)] w fun e w' => e = .returned (.bool true) ∧ w = w' from by have := HB.out z; rw [hb] at this; exact this)
        clear hb
        go_wp2_with (go_at_call 135; refine HZ.out.mono ?_; rintro e w' ⟨rfl, rfl⟩)
        go_ret
        exact ⟨⟨_, rfl, by rw [HV.out, decide_eq_true (by omega)]; rfl⟩, rfl⟩
      · have HN := Lib.hid (show (zs.take (k + 1)).all (okIn 1 6) = true by rw [HT.out, HA.out, hb]; rfl)
        have HZ := Lib.hid (show Calls Try.prog 135 #[.int .i64 z, .pointer (some ⟨C, 0, none⟩)] w fun e w' => e = .returned (.bool false) ∧ w = w' from by have := HB.out z; rw [hb] at this; exact this)
        clear hb
        go_wp2_with (go_at_call 135; refine HZ.out.mono ?_; rintro e w' ⟨rfl, rfl⟩)
        go_round
        case rel => exact ⟨k + 1, by omega, by go_num, HN.out⟩
        case measure => simp [intOf]; omega
    · have HV := Lib.hid (show zs.all (okIn 1 6) = true by have := HA.out; rw [List.take_of_length_le (by omega)] at this; exact this)
      go_wp2
      go_ret
      exact ⟨⟨_, rfl, by rw [HV.out]; rfl⟩, rfl⟩

theorem lcontf_any (v : Value) (zs : List Int) (C : Nat) (w : World) (h : w.heap[C]? = some (.cells #[.func (.func 51) #[] #[]] 53)) (hs : IntsA w v zs) : Calls Try.prog 134 #[v, .func (.func 135) #[] #[.pointer (some ⟨C, 0, none⟩)]] w fun e w' => e = .returned (.bool (!zs.all (okIn 1 6))) ∧ w = w' := by
  have H := Lib.hid (lidx_any v zs C w h hs)
  clear h hs
  obtain ⟨b, hb⟩ : ∃ b, b = !zs.all (okIn 1 6) := ⟨_, rfl⟩
  rw [← hb] at H ⊢
  clear hb
  go_enter Try.func134, Try.ntmps134
  go_wp2_with fail
  refine H.out.mono ?_
  rintro e w' ⟨⟨r, rfl, hr⟩, rfl⟩
  have HR := Lib.hid hr
  clear hr
  go_wp2_with fail
  go_ret
  exact ⟨ret_bool HR.out, rfl⟩

set_option maxHeartbeats 1000000 in
theorem areLen_any (v : Value) (zs : List Int) (w : World) (h : IntsA w v zs) : Calls Try.prog 61 #[v] w fun e w' => e = .returned (.bool (lnB zs)) ∧ Ext w w' := by
  have hl := h.1
  unfold maxLen at hl
  have X0 := Lib.hid (show Ext w (w.alloc (.cells #[.func (.func 51) #[] #[]] 53)) from (Ext.refl w).alloc _)
  have HC := Lib.hid (lcontf_any v zs w.heap.size _ (heap_alloc_new w (.cells #[.func (.func 51) #[] #[]] 53)) (h.ext X0.out))
  obtain ⟨q, hq⟩ : ∃ q, q = zs.all (okIn 1 6) := ⟨_, rfl⟩
  simp only [← hq] at HC
  obtain ⟨a, cap, hv⟩ := h.at
  rw [hv] at HC ⊢
  clear hv h
  have HI : Calls Try.prog 100 #[.slice a zs.length cap, .func (.func 51) #[] #[]] w fun e w' => e = .returned (.bool (lnB zs)) ∧ Ext w w' := by
    cases h2 : inW zs.length 1 20
    · have HV := Lib.hid (lnB_l h2)
      clear hq
      go_enter Try.func100, Try.ntmps100
      go_wp2_with (go_at_call 72; refine (isLong_any _ _ _).mono ?_; rintro e w' ⟨rfl, rfl⟩; rw [h2])
      go_ret
      exact ⟨ret_bool HV.out.symm, X0.out⟩
    · have HV := Lib.hid (lnB_a h2)
      rw [← hq] at HV
      clear hq
      go_enter Try.func100, Try.ntmps100
      go_wp2_with (first | (go_at_call 72; refine (isLong_any _ _ _).mono ?_; rintro e w' ⟨rfl, rfl⟩; rw [h2]) | (go_at_call 134; refine HC.out.mono ?_; rintro e w' ⟨rfl, rfl⟩))
      go_ret
      exact ⟨ret_bool (by rw [HV.out]), X0.out⟩
  have H := Lib.hid HI
  clear HI hq HC X0
  go_enter Try.func61, Try.ntmps61
  go_wp2_with fail
  refine H.out.mono ?_
  rintro e w' ⟨rfl, x1⟩
  go_wp2_with fail
  go_ret
  exact ⟨rfl, x1⟩

set_option maxHeartbeats 1000000 in
theorem plLen_any (v : Value) (zs : List Int) (w : World) (h : IntsA w v zs) : Calls Try.prog 58 #[v] w fun e w' => e = .returned (.bool (lnB zs)) ∧ w = w' := by
  have H := Lib.hid h
  have hl := h.1
  unfold maxLen at hl
  obtain ⟨a, cap, hv⟩ := h.at
  rw [hv] at H ⊢
  clear hv h
  cases h2 : inW zs.length 1 20
  · have HV := Lib.hid (lnB_l h2)
    go_enter Try.func58, Try.ntmps58
    go_wp2_with (go_at_call 69; refine (inW_any _ _ _ _).mono ?_; rintro e w' ⟨rfl, rfl⟩; rw [h2])
    go_ret
    exact ⟨ret_bool HV.out.symm, rfl⟩
  · have HV := Lib.hid (lnB_a h2)
    go_enter Try.func58, Try.ntmps58
    go_wp2_with (first | (go_at_call 69; refine (inW_any _ _ _ _).mono ?_; rintro e w' ⟨rfl, rfl⟩; rw [h2]) | (go_at_call 99; refine (l1All_any _ zs _ _ _ H.out).mono ?_; rintro e w' ⟨rfl, rfl⟩))
    go_ret
    exact ⟨ret_bool HV.out.symm, rfl⟩

/-! ### How many numbers they begin -/
def tenW (z : Int) : Nat := 10 ^ (6 - z.toNat)
def prt (zs : List Int) : Nat := (zs.map tenW).sum
theorem prt_take (zs : List Int) (k : Nat) (h : k < zs.length) : prt (zs.take (k + 1)) = prt (zs.take k) + tenW zs[k] := by
  unfold prt
  rw [List.take_succ_eq_append_getElem h, List.map_append, List.sum_append_nat]
  simp
theorem tenW_le (z : Int) : tenW z ≤ 1000000 := ten_bd _ (by omega)
theorem tenW_at (m : Nat) : tenW (m : Int) = 10 ^ (6 - m) := by unfold tenW; rw [Int.toNat_natCast]
theorem prt_le (zs : List Int) : ∀ k, k ≤ zs.length → prt (zs.take k) ≤ k * 1000000
  | 0, _ => by simp [prt]
  | k + 1, h => by
    have h1 := prt_le zs k (by omega)
    have h2 := tenW_le (zs[k]'(by omega))
    rw [prt_take zs k (by omega)]
    omega

def canB (zs : List Int) : Bool := decide (prt zs ≤ 1000000)

set_option maxHeartbeats 1000000 in
theorem plCan_any (v : Value) (zs : List Int) (w : World) (h : IntsA w v zs) (hz : LnB zs) : Calls Try.prog 59 #[v] w fun e w' => e = .returned (.bool (canB zs)) ∧ w = w' := by
  have H := Lib.hid h
  have HZ := Lib.hid hz
  have hl2 := hz.l2
  obtain ⟨a, cap, hv⟩ := h.at
  rw [hv] at H ⊢
  clear hv h hz
  have HM := Lib.hid (fun w => tens_any 6 w (Nat.le_refl _))
  go_enter Try.func59, Try.ntmps59
  go_wp2
  go_loop [3, 8] (fun s i => ∃ k : Nat, k ≤ zs.length ∧ i = .int .i64 k ∧ s = .int .i64 ((prt (zs.take k) : Nat) : Int)) (fun _ i => zs.length - (intOf i).toNat)
  case atStart => exact ⟨0, Nat.zero_le _, rfl, rfl⟩
  case round =>
    obtain ⟨k, hk, rfl, rfl⟩ := hrel
    have hp := prt_le zs k hk
    by_cases hlt : k < zs.length
    · obtain ⟨b, off, ha, _, e1⟩ := H.out.get2 k hlt
      have HT := Lib.hid (prt_take zs k hlt)
      have hb := HZ.out.at_ zs[k] (List.getElem_mem hlt)
      have hw := tenW_le zs[k]
      obtain ⟨m, hm⟩ : ∃ m : Nat, zs[k] = m := ⟨zs[k].toNat, by omega⟩
      rw [hm] at e1 HT hw hb
      obtain ⟨d, hd⟩ : ∃ d, d = 6 - m := ⟨_, rfl⟩
      have W : IntKind.i64.wrap ((6 : Int) - (m : Int)) = (d : Int) := by simp only [IntKind.wrap_i64]; omega
      have hd6 : d ≤ 6 := by omega
      rw [tenW_at, ← hd] at HT hw
      obtain ⟨x, hx⟩ : ∃ x : Nat, x = 10 ^ d := ⟨_, rfl⟩
      have HC := Lib.hid (fun w => tens_any d w hd6)
      simp only [← hx] at HC
      rw [← hx] at HT hw
      obtain ⟨y, hy⟩ : ∃ y : Nat, y = prt (zs.take k) := ⟨_, rfl⟩
      rw [← hy] at HT hp ⊢
      clear hx hy hb hm hd
      subst ha
      have W1 : IntKind.i64.wrap ((y : Int) + (x : Int)) = ((y + x : Nat) : Int) := by simp only [IntKind.wrap_i64]; omega
      go_wp2_with (go_at_call 49; refine (HC.out _).mono ?_; rintro e w' ⟨rfl, rfl⟩)
      go_round
      case rel => exact ⟨k + 1, by omega, by go_num, by rw [HT.out, Int.natCast_add]⟩
      case measure => simp [intOf]; omega
    · have HV := Lib.hid (show prt (zs.take k) = prt zs by rw [List.take_of_length_le (by omega)])
      have HD := Lib.hid (show canB zs = decide (((prt (zs.take k) : Nat) : Int) ≤ 1000000) by rw [HV.out]; unfold canB; exact decide_eq_decide.2 (by omega))
      obtain ⟨y, hy⟩ : ∃ y : Nat, y = prt (zs.take k) := ⟨_, rfl⟩
      rw [← hy] at HD ⊢
      clear hy HV
      go_wp2_with (go_at_call 49; refine (HM.out _).mono ?_; rintro e w' ⟨rfl, rfl⟩)
      go_ret
      exact ⟨ret_bool HD.out.symm, rfl⟩

/-! ### ArePossible -/
def apV (zs : List Int) : Bool := lnB zs && canB zs
theorem apV_no {zs : List Int} (h : lnB zs = false) : apV zs = false := by unfold apV; rw [h]; rfl
theorem apV_yes {zs : List Int} (h : lnB zs = true) : apV zs = canB zs := by unfold apV; rw [h]; rfl
theorem ret_bb {a a' b b' : Bool} (h : a = a') (h2 : b = b') : Ending.returned (.tuple #[.bool a, .bool b]) = .returned (.tuple #[.bool a', .bool b']) := by rw [h, h2]

end Go.Proofs.Ytinojlbnmnlmhab
