/- LengthsOf, and what part of all numbers the codes of a plan begin. No conditions. -/
import Derived.Test.YtinojlbnmnlmhaaLen
namespace Go.Proofs.Ytinojlbnmnlmhaa
open Go.RowKit Go.Sort

def ResI (zs : List Int) (ok : Bool) (w : World) (e : Ending) (w' : World) : Prop := ∃ v, e = .returned (.tuple #[v, .bool ok]) ∧ RowI w.heap.size w' v zs ∧ Ext w w'
theorem ret_vi {v : Value} {b b' : Bool} (h : b = b') : Ending.returned (.tuple #[v, .bool b]) = .returned (.tuple #[v, .bool b']) := by rw [h]
theorem rowI_down {B B' : Nat} {w : World} {v : Value} {ts : List Int} (h : RowI B w v ts) (hb : B' ≤ B) : RowI B' w v ts :=
  ⟨h.1, h.2.imp id fun ⟨g, cap, cur, h1, h2, h3, h4⟩ => ⟨g, cap, cur, h1, Nat.le_trans hb h2, h3, h4⟩⟩
def lgV (ss : List ByteArray) : List Int := if plB ss then srtI (lenL ss) else []
theorem lgV_no {ss : List ByteArray} (h : plB ss = false) : lgV ss = [] := by unfold lgV; rw [h]; rfl
theorem lgV_yes {ss : List ByteArray} (h : plB ss = true) : lgV ss = srtI (lenL ss) := by unfold lgV; rw [h]; rfl
theorem lgV_len (ss : List ByteArray) : (lgV ss).length ≤ 1048576 := by
  cases h : plB ss
  · rw [lgV_no h]; exact Nat.zero_le _
  · rw [lgV_yes h, srtI_len, lenL_len]
    have := (plB_iff.1 h).l2
    omega

set_option maxHeartbeats 1000000 in
theorem lgI_any (v : Value) (ss : List ByteArray) (w : World) (h : Strs w v ss) (hcap : CapOk v) : Calls Try.prog 36 #[v] w (ResI (lgV ss) (plB ss) w) := by
  have HS := Lib.hid h
  have HC := Lib.hid hcap
  clear h hcap
  cases h1 : plB ss
  · have HV := Lib.hid (lgV_no h1)
    go_enter Try.func36, Try.ntmps36
    go_wp2_with (go_at_call 18; refine (isPl_any _ _ _ HS.out HC.out).mono ?_; rintro e w' ⟨rfl, x1⟩; rw [h1])
    go_ret2
    exact ⟨_, rfl, by rw [HV.out]; exact RowI.empty _ _, x1⟩
  have HV := Lib.hid (lgV_yes h1)
  have HP := Lib.hid (plB_iff.1 h1)
  have HL := Lib.hid (lenL_len ss)
  have hl2 := HP.out.l2
  have HG := Lib.hid h1
  go_enter Try.func36, Try.ntmps36
  go_wp2_with (first | (go_at_call 18; refine (isPl_any _ _ _ HS.out HC.out).mono ?_; rintro e w1 ⟨rfl, x1⟩; rw [HG.out]) | (go_at_call 72; refine (lensI_any _ _ _ (HS.out.ext x1) HP.out).mono ?_; rintro e w2 ⟨v2, rfl, r2, x2, g2, rfl, hg2⟩; have R2 := Lib.hid (rowI_down r2 x1.size); have X2 := Lib.hid (x1.trans x2); have HG2 := Lib.hid (Nat.le_trans x1.size hg2); clear r2 x2 hg2) | (go_at_call 73; refine (sortI_any w.heap.size g2 _ _ _ _ rfl (by rw [HL.out]; omega) R2.out).mono ?_; rintro e w3 ⟨rfl, r3, g3⟩; have R3 := Lib.hid r3; have X3 := Lib.hid (ext_grown X2.out g3 (fun j hj => by cases hj; exact HG2.out)); clear r3 g3))
  go_ret2
  exact ⟨_, rfl, by rw [HV.out]; exact R3.out, X3.out⟩

/-- The lengths one behind the other, as far as so many codes. -/
theorem lenL_take (ss : List ByteArray) (k : Nat) (h : k < ss.length) : lenL (ss.take (k + 1)) = lenL (ss.take k) ++ [(ss[k].size : Int)] := by
  unfold lenL
  rw [takeS ss k h, List.map_append]
  rfl

set_option maxRecDepth 100000 in
set_option maxHeartbeats 1000000 in
theorem lgS_any (v : Value) (ss : List ByteArray) (w : World) (h : Strs w v ss) : Calls Try.prog 35 #[v] w (ResI (lgV ss) (plB ss) w) := by
  have HS := Lib.hid h
  obtain ⟨a, cap, hv, _⟩ := h.at
  rw [hv] at HS ⊢
  clear hv h v
  cases h1 : plB ss
  · have HV := Lib.hid (lgV_no h1)
    go_enter Try.func35, Try.ntmps35
    go_wp2_with (go_at_call 51; refine (plGood_any _ _ _ HS.out).mono ?_; rintro e w' ⟨rfl, x1⟩; rw [h1])
    go_ret2
    exact ⟨_, rfl, by rw [HV.out]; exact RowI.empty _ _, x1⟩
  have HV := Lib.hid (lgV_yes h1)
  have HP := Lib.hid (plB_iff.1 h1)
  have hl2 := HP.out.l2
  have HG := Lib.hid h1
  go_enter Try.func35, Try.ntmps35
  go_wp2_with (go_at_call 51; refine (plGood_any _ _ _ HS.out).mono ?_; rintro e w1 ⟨rfl, x1⟩; rw [HG.out])
  clear h1
  go_loopw [4, 12] (fun o i wr => ∃ k : Nat, k ≤ ss.length ∧ i = .int .i64 k ∧ RowI w.heap.size wr o (lenL (ss.take k)) ∧ Ext w wr) (fun _ i _ => ss.length - (intOf i).toNat)
  case atStart => exact ⟨0, Nat.zero_le _, rfl, RowI.empty _ _, x1⟩
  case round =>
    obtain ⟨k, hk, rfl, hr, hx⟩ := hrel
    have HR := Lib.hid hr
    clear hr
    by_cases hlt : k < ss.length
    · obtain ⟨b, off, ha, e1⟩ := (HS.out.ext hx).get2 k hlt
      have HN := Lib.hid (lenL_take ss k hlt)
      obtain ⟨s, hs⟩ : ∃ s, s = ss[k] := ⟨_, rfl⟩
      rw [← hs] at e1 HN
      clear hs
      subst ha
      have HLN := Lib.hid (show (lenL (ss.take k)).length ≤ 1000000 by rw [lenL_len, List.length_take]; omega)
      go_wp2_with (at_builtin; refine app_int rfl _ _ rfl w w.heap.size _ _ _ _ rfl (by exact HR.out) hx (Nat.le_refl _) hx.size (by exact HLN.out) rfl ?_; intro v9 w9 r9 x9)
      go_roundw
      case rel => exact ⟨k + 1, by omega, by go_num, by rw [HN.out]; exact r9, x9⟩
      case measure => simp [intOf]; omega
    · have HT := Lib.hid (show ss.take k = ss from List.take_of_length_le (by omega))
      rw [HT.out] at HR
      have HZ := Lib.hid (lenL_ok HP.out)
      have HL := Lib.hid (lenL_len ss)
      go_wp2_with (go_at_call 71; refine (plSort_any _ _ _ (rowI_ints HR.out (by rw [HL.out]; unfold maxLen; omega)) HZ.out).mono ?_; rintro e w3 ⟨v3, rfl, r3, x3⟩; have R3 := Lib.hid r3; clear r3)
      go_ret2
      exact ⟨_, rfl, by rw [HV.out]; exact rowI_down R3.out hx.size, hx.trans x3⟩

/-! ### PartOf -/
def gcN (a b : Nat) : Nat := Nat.gcd a b
theorem gcN_step {a b : Nat} : gcN a b = gcN b (a % b) := by
  unfold gcN
  rw [Nat.gcd_comm a b, Nat.gcd_rec b a, Nat.gcd_comm]
theorem gcN_zero (a : Nat) : gcN a 0 = a := Nat.gcd_zero_right a
def pnV (ss : List ByteArray) : Int := if plB ss then ((prt (lenL ss) : Nat) : Int) / ((gcN (prt (lenL ss)) 1000000 : Nat) : Int) else 0
def pdV (ss : List ByteArray) : Int := if plB ss then (1000000 : Int) / ((gcN (prt (lenL ss)) 1000000 : Nat) : Int) else 0
theorem ret_iib {a a' c c' : Int} {b b' : Bool} (h : a = a') (h2 : c = c') (h3 : b = b') : Ending.returned (.tuple #[.int .i64 a, .int .i64 c, .bool b]) = .returned (.tuple #[.int .i64 a', .int .i64 c', .bool b']) := by rw [h, h2, h3]
theorem prt_one {ss : List ByteArray} (h : PlB ss) : 1 ≤ prt (lenL ss) := by
  have h1 := h.l1
  have e := prt_take (lenL ss) 0 (by rw [lenL_len]; omega)
  have h2 : 1 ≤ tenW ((lenL ss)[0]'(by rw [lenL_len]; omega)) := Nat.pow_pos (by decide)
  have h3 : prt ((lenL ss).take 1) ≤ prt (lenL ss) := by
    unfold prt
    conv => rhs; rw [← List.take_append_drop 1 (lenL ss)]
    rw [List.map_append, List.sum_append_nat]
    exact Nat.le_add_right _ _
  rw [Nat.zero_add] at e
  omega
theorem prt_top {ss : List ByteArray} (h : PlB ss) : prt (lenL ss) ≤ 20000000 := by
  have h1 := prt_le (lenL ss) (lenL ss).length (Nat.le_refl _)
  rw [List.take_length, lenL_len] at h1
  have := h.l2
  omega
theorem gcN_pos {a : Nat} : 1 ≤ gcN a 1000000 := Nat.gcd_pos_of_pos_right _ (by decide)

set_option maxHeartbeats 1000000 in
theorem gcd_any (a b : Nat) (w : World) (ha : a ≤ 20000000) (hb : b ≤ 1000000) : Calls Try.prog 80 #[.int .i64 a, .int .i64 b] w fun e w' => e = .returned (.int .i64 ((gcN a b : Nat) : Int)) ∧ Ext w w' := by
  obtain ⟨G, hG⟩ : ∃ G, G = gcN a b := ⟨_, rfl⟩
  have HG := Lib.hid hG
  rw [← hG]
  clear hG
  go_enter Try.func80, Try.ntmps80
  go_wp2
  go_loopw [0, 1] (fun x y wr => ∃ p q : Nat, x = .int .i64 p ∧ y = .int .i64 q ∧ gcN p q = G ∧ p ≤ 20000000 ∧ q ≤ 1000000 ∧ Ext w wr) (fun _ y _ => (intOf y).toNat)
  case atStart => exact ⟨a, b, rfl, rfl, HG.out.symm, ha, hb, Ext.refl _⟩
  case round =>
    obtain ⟨p, q, rfl, rfl, hg, hp, hq, hx⟩ := hrel
    have HE := Lib.hid hg
    clear hg
    by_cases h0 : 0 < q
    · have g1 : (0 : Int) < (q : Int) := by omega
      have g2 : (q : Int) > 0 := g1
      have hq0 : ¬ (q : Int) = 0 := by omega
      obtain ⟨r, hr⟩ : ∃ r, r = p % q := ⟨_, rfl⟩
      have hrq : r < q := by rw [hr]; exact Nat.mod_lt _ h0
      have q0 : Int.tmod (p : Int) (q : Int) = (r : Int) := by rw [hr, Int.tmod_eq_emod_of_nonneg (by omega)]; exact (Int.natCast_emod p q).symm
      have HN := Lib.hid (show gcN q r = G by rw [hr, ← gcN_step, HE.out])
      clear hr
      go_wp2
      go_quiet (fail)
      go_wp2
      go_roundw
      case rel => exact ⟨q, r, rfl, rfl, HN.out, by omega, by omega, ext_drewN hx _⟩
      case measure => simp [intOf]; omega
    · obtain rfl : q = 0 := by omega
      rw [gcN_zero] at HE
      go_wp2
      go_ret
      exact ⟨ret_intF (by rw [HE.out]), hx⟩

theorem quo_at {p d : Nat} (h : 1 ≤ d) (hp : p ≤ 20000000) : Int.tdiv (p : Int) (d : Int) = (p : Int) / (d : Int) ∧ 0 ≤ (p : Int) / (d : Int) ∧ (p : Int) / (d : Int) ≤ 20000000 := by
  refine ⟨Int.tdiv_eq_ediv_of_nonneg (by omega), Int.ediv_nonneg (by omega) (by omega), ?_⟩
  have := Int.ediv_le_self (a := (p : Int)) (d : Int) (by omega)
  omega
theorem pnV_no {ss : List ByteArray} (h : plB ss = false) : pnV ss = 0 := by unfold pnV; rw [h]; rfl
theorem pdV_no {ss : List ByteArray} (h : plB ss = false) : pdV ss = 0 := by unfold pdV; rw [h]; rfl
theorem pnV_yes {ss : List ByteArray} (h : plB ss = true) : pnV ss = ((prt (lenL ss) : Nat) : Int) / ((gcN (prt (lenL ss)) 1000000 : Nat) : Int) := by unfold pnV; rw [h]; rfl
theorem pdV_yes {ss : List ByteArray} (h : plB ss = true) : pdV ss = (1000000 : Int) / ((gcN (prt (lenL ss)) 1000000 : Nat) : Int) := by unfold pdV; rw [h]; rfl

set_option maxHeartbeats 1000000 in
theorem poI_any (v : Value) (ss : List ByteArray) (w : World) (h : Strs w v ss) (hcap : CapOk v) : Calls Try.prog 44 #[v] w fun e w' => e = .returned (.tuple #[.int .i64 (pnV ss), .int .i64 (pdV ss), .bool (plB ss)]) ∧ Ext w w' := by
  have HS := Lib.hid h
  have HC := Lib.hid hcap
  clear h hcap
  cases h1 : plB ss
  · have HV := Lib.hid (pnV_no h1)
    have HW := Lib.hid (pdV_no h1)
    go_enter Try.func44, Try.ntmps44
    go_wp2_with (go_at_call 18; refine (isPl_any _ _ _ HS.out HC.out).mono ?_; rintro e w' ⟨rfl, x1⟩; rw [h1])
    go_ret3
    exact ⟨ret_iib HV.out.symm HW.out.symm rfl, x1⟩
  have HV := Lib.hid (pnV_yes h1)
  have HW := Lib.hid (pdV_yes h1)
  have HP := Lib.hid (plB_iff.1 h1)
  have HZ := Lib.hid (lenL_ok (plB_iff.1 h1))
  have HL := Lib.hid (lenL_len ss)
  have hl2 := HP.out.l2
  have hp := prt_top (plB_iff.1 h1)
  have HN := Lib.hid (fun v w h => nbl_any v (lenL ss) w h (lenL_ok (plB_iff.1 h1)))
  obtain ⟨p, hpp⟩ : ∃ p : Nat, p = prt (lenL ss) := ⟨_, rfl⟩
  rw [← hpp] at HV HW hp
  simp only [← hpp] at HN
  have HGC := Lib.hid (fun w => gcd_any p 1000000 w hp (Nat.le_refl _))
  obtain ⟨d, hd⟩ : ∃ d : Nat, d = gcN p 1000000 := ⟨_, rfl⟩
  have hd1 : 1 ≤ d := by rw [hd]; exact gcN_pos
  rw [← hd] at HV HW
  simp only [← hd] at HGC
  have q1 := quo_at hd1 hp
  have q2 := quo_at (p := 1000000) hd1 (by decide)
  rw [show (((1000000 : Nat) : Int)) = 1000000 from rfl] at q2
  obtain ⟨X, hX⟩ : ∃ X, X = (p : Int) / (d : Int) := ⟨_, rfl⟩
  obtain ⟨Y, hY⟩ : ∃ Y, Y = (1000000 : Int) / (d : Int) := ⟨_, rfl⟩
  rw [← hX] at HV q1
  rw [← hY] at HW q2
  obtain ⟨q1, q1a, q1b⟩ := q1
  obtain ⟨q2, q2a, q2b⟩ := q2
  have hd0 : ¬ (d : Int) = 0 := by omega
  have W1 : IntKind.i64.wrap X = X := by simp only [IntKind.wrap_i64]; omega
  have W2 : IntKind.i64.wrap Y = Y := by simp only [IntKind.wrap_i64]; omega
  have HM := Lib.hid (fun w => allNum_any 6 w (Nat.le_refl _))
  have HG := Lib.hid h1
  clear hX hY hd hpp h1
  go_enter Try.func44, Try.ntmps44
  go_wp2_with (first | (go_at_call 18; refine (isPl_any _ _ _ HS.out HC.out).mono ?_; rintro e w1 ⟨rfl, x1⟩; rw [HG.out]) | (go_at_call 72; refine (lensI_any _ _ _ (HS.out.ext x1) HP.out).mono ?_; rintro e w2 ⟨v2, rfl, r2, x2, g2, rfl, hg2⟩; have R2 := Lib.hid r2; have X2 := Lib.hid (x1.trans x2); clear r2 x2 hg2) | (go_at_call 77; refine (HN.out _ _ (rowI_ints R2.out (by rw [HL.out]; unfold maxLen; omega))).mono ?_; rintro e w' ⟨rfl, rfl⟩) | (go_at_call 78; refine (HM.out _).mono ?_; rintro e w' ⟨rfl, rfl⟩) | (go_at_call 80; refine (HGC.out _).mono ?_; rintro e w5 ⟨rfl, x5⟩))
  go_quiet (fail)
  go_wp2
  go_ret3
  exact ⟨ret_iib HV.out.symm HW.out.symm rfl, ext_drewN (X2.out.trans x5) _⟩

/-! ### The model's -/
set_option maxHeartbeats 1000000 in
theorem plPart_any (v : Value) (ss : List ByteArray) (w : World) (h : Strs w v ss) (hp : PlB ss) : Calls Try.prog 79 #[v] w fun e w' => e = .returned (.int .i64 ((prt (lenL ss) : Nat) : Int)) ∧ w = w' := by
  have H := Lib.hid h
  have HL := Lib.hid (lenL_len ss)
  have hl2 := hp.l2
  have HC := Lib.hid hp.cd
  obtain ⟨a, cap, hv, _⟩ := h.at
  rw [hv] at H ⊢
  clear hv h hp
  go_enter Try.func79, Try.ntmps79
  go_wp2
  go_loop [3, 8] (fun s i => ∃ k : Nat, k ≤ ss.length ∧ i = .int .i64 k ∧ s = .int .i64 ((prt ((lenL ss).take k) : Nat) : Int)) (fun _ i => ss.length - (intOf i).toNat)
  case atStart => exact ⟨0, Nat.zero_le _, rfl, rfl⟩
  case round =>
    obtain ⟨k, hk, rfl, rfl⟩ := hrel
    have hp := prt_le (lenL ss) k (by rw [HL.out]; exact hk)
    by_cases hlt : k < ss.length
    · obtain ⟨b, off, ha, e1⟩ := H.out.get2 k hlt
      have HT := Lib.hid (prt_take (lenL ss) k (by rw [HL.out]; exact hlt))
      have hat := lenL_at ss k hlt
      rw [hat] at HT
      have hb := isDg_size (HC.out ss[k] (List.getElem_mem hlt))
      obtain ⟨s, hs⟩ : ∃ s, s = ss[k] := ⟨_, rfl⟩
      rw [← hs] at e1 HT hb
      clear hs hat
      obtain ⟨d, hd⟩ : ∃ d, d = 6 - s.size := ⟨_, rfl⟩
      have W : IntKind.i64.wrap ((6 : Int) - (s.size : Int)) = (d : Int) := by simp only [IntKind.wrap_i64]; omega
      have hd6 : d ≤ 6 := by omega
      have hw := tenW_le (s.size : Int)
      rw [tenW_at, ← hd] at HT hw
      obtain ⟨x, hx⟩ : ∃ x : Nat, x = 10 ^ d := ⟨_, rfl⟩
      have HCC := Lib.hid (fun w => tens_any d w hd6)
      simp only [← hx] at HCC
      rw [← hx] at HT hw
      obtain ⟨y, hy⟩ : ∃ y : Nat, y = prt ((lenL ss).take k) := ⟨_, rfl⟩
      rw [← hy] at HT hp ⊢
      clear hx hy hb hd
      subst ha
      have W1 : IntKind.i64.wrap ((y : Int) + (x : Int)) = ((y + x : Nat) : Int) := by simp only [IntKind.wrap_i64]; omega
      go_wp2_with (go_at_call 67; refine (HCC.out _).mono ?_; rintro e w' ⟨rfl, rfl⟩)
      go_round
      case rel => exact ⟨k + 1, by omega, by go_num, by rw [HT.out, Int.natCast_add]⟩
      case measure => simp [intOf]; omega
    · have HV := Lib.hid (show prt ((lenL ss).take k) = prt (lenL ss) by rw [List.take_of_length_le (by rw [HL.out]; omega)])
      go_wp2
      go_ret
      exact ⟨ret_intF (by rw [HV.out]), rfl⟩

set_option maxHeartbeats 1000000 in
theorem poS_any (v : Value) (ss : List ByteArray) (w : World) (h : Strs w v ss) : Calls Try.prog 43 #[v] w fun e w' => e = .returned (.tuple #[.int .i64 (pnV ss), .int .i64 (pdV ss), .bool (plB ss)]) ∧ Ext w w' := by
  have HS := Lib.hid h
  clear h
  cases h1 : plB ss
  · have HV := Lib.hid (pnV_no h1)
    have HW := Lib.hid (pdV_no h1)
    go_enter Try.func43, Try.ntmps43
    go_wp2_with (go_at_call 51; refine (plGood_any _ _ _ HS.out).mono ?_; rintro e w' ⟨rfl, x1⟩; rw [h1])
    go_ret3
    exact ⟨ret_iib HV.out.symm HW.out.symm rfl, x1⟩
  have HV := Lib.hid (pnV_yes h1)
  have HW := Lib.hid (pdV_yes h1)
  have hp := prt_top (plB_iff.1 h1)
  have HN := Lib.hid (fun v w h => plPart_any v ss w h (plB_iff.1 h1))
  obtain ⟨p, hpp⟩ : ∃ p : Nat, p = prt (lenL ss) := ⟨_, rfl⟩
  rw [← hpp] at HV HW hp
  simp only [← hpp] at HN
  obtain ⟨d, hd⟩ : ∃ d : Nat, d = gcN p 1000000 := ⟨_, rfl⟩
  have HDD := Lib.hid hd
  have hd1 : 1 ≤ d := by rw [hd]; exact gcN_pos
  rw [← hd] at HV HW
  have q1 := quo_at hd1 hp
  have q2 := quo_at (p := 1000000) hd1 (by decide)
  rw [show (((1000000 : Nat) : Int)) = 1000000 from rfl] at q2
  obtain ⟨X, hX⟩ : ∃ X, X = (p : Int) / (d : Int) := ⟨_, rfl⟩
  obtain ⟨Y, hY⟩ : ∃ Y, Y = (1000000 : Int) / (d : Int) := ⟨_, rfl⟩
  rw [← hX] at HV q1
  rw [← hY] at HW q2
  obtain ⟨q1, q1a, q1b⟩ := q1
  obtain ⟨q2, q2a, q2b⟩ := q2
  have hd0 : ¬ (d : Int) = 0 := by omega
  have W1 : IntKind.i64.wrap X = X := by simp only [IntKind.wrap_i64]; omega
  have W2 : IntKind.i64.wrap Y = Y := by simp only [IntKind.wrap_i64]; omega
  have HQ := Lib.hid (show (Int.tdiv (p : Int) (d : Int) = X ∧ Int.tdiv 1000000 (d : Int) = Y) ∧ ¬ (d : Int) = 0 ∧ IntKind.i64.wrap X = X ∧ IntKind.i64.wrap Y = Y from ⟨⟨q1, q2⟩, hd0, W1, W2⟩)
  have HM := Lib.hid (fun w => tens_any 6 w (Nat.le_refl _))
  have HG := Lib.hid h1
  clear hX hY hd hpp h1 q1 q2 q1a q1b q2a q2b W1 W2 hd0 hd1
  go_enter Try.func43, Try.ntmps43
  go_wp2_with (first | (go_at_call 51; refine (plGood_any _ _ _ HS.out).mono ?_; rintro e w1 ⟨rfl, x1⟩; rw [HG.out]) | (go_at_call 79; refine (HN.out _ _ (HS.out.ext x1)).mono ?_; rintro e w' ⟨rfl, rfl⟩) | (go_at_call 67; refine (HM.out _).mono ?_; rintro e w' ⟨rfl, rfl⟩))
  go_loopw [7, 8] (fun x y wr => ∃ p2 q2 : Nat, x = .int .i64 p2 ∧ y = .int .i64 q2 ∧ gcN p2 q2 = d ∧ p2 ≤ 20000000 ∧ q2 ≤ 1000000 ∧ Ext w wr) (fun _ y _ => (intOf y).toNat)
  case atStart => exact ⟨p, 1000000, rfl, rfl, HDD.out.symm, hp, Nat.le_refl _, x1⟩
  case round =>
    obtain ⟨p2, q2, rfl, rfl, hg, hp2, hq2, hx⟩ := hrel
    have HE := Lib.hid hg
    clear hg
    by_cases h0 : 0 < q2
    · have g1 : (0 : Int) < (q2 : Int) := by omega
      have g2 : (q2 : Int) > 0 := g1
      have hq0 : ¬ (q2 : Int) = 0 := by omega
      obtain ⟨r, hr⟩ : ∃ r, r = p2 % q2 := ⟨_, rfl⟩
      have hrq : r < q2 := by rw [hr]; exact Nat.mod_lt _ h0
      have q0 : Int.tmod (p2 : Int) (q2 : Int) = (r : Int) := by rw [hr, Int.tmod_eq_emod_of_nonneg (by omega)]; exact (Int.natCast_emod p2 q2).symm
      have HNN := Lib.hid (show gcN q2 r = d by rw [hr, ← gcN_step, HE.out])
      clear hr
      go_wp2
      go_quiet (fail)
      go_wp2
      go_roundw
      case rel => exact ⟨q2, r, rfl, rfl, HNN.out, by omega, by omega, ext_drewN hx _⟩
      case measure => simp [intOf]; omega
    · obtain rfl : q2 = 0 := by omega
      rw [gcN_zero] at HE
      rw [HE.out]
      obtain ⟨⟨e1, e2⟩, e3, e4, e5⟩ := HQ.out
      go_wp2
      go_quiet (fail)
      go_wp2
      go_ret3
      exact ⟨ret_iib HV.out.symm HW.out.symm rfl, ext_drewN hx _⟩

end Go.Proofs.Ytinojlbnmnlmhaa
