/- The digits of which solutions are sure: the values; the model. No conditions. -/
import Derived.Test.YtpdnpphjlnlneaaGreatDoorCts
import Derived.Test.YtpdnpphjlnlneaaGreatDoorByR
import Derived.Deep.RegionWith
namespace Go.Proofs.YtpdnpphjlnlneaaGreatDoor
open Go.RowKit

def at0 (s : ByteArray) (i : Nat) : UInt8 := s.data.toList.getD i 0
/-- The first k have the first one's digit at a place. -/
def sgA (ss : List ByteArray) (i k : Nat) : Bool := (ss.take k).all fun s => at0 s i == at0 (ss.headD ⟨#[]⟩) i
def sgK (ss : List ByteArray) (k i : Nat) : UInt8 := if sgA ss i k then at0 (ss.headD ⟨#[]⟩) i else 63
def surT (ss : List ByteArray) (i : Nat) : ByteArray := ⟨((List.range i).map (sgK ss ss.length)).toArray⟩
theorem surT_0 (ss : List ByteArray) : surT ss 0 = ⟨#[]⟩ := rfl
theorem surT_succ (ss : List ByteArray) (i : Nat) : surT ss (i + 1) = surT ss i ++ ⟨#[sgK ss ss.length i]⟩ := by
  unfold surT
  apply ByteArray.ext
  rw [ByteArray.data_append, List.range_succ, List.map_append]
  simp
theorem surT_size (ss : List ByteArray) (i : Nat) : (surT ss i).size = i := by
  unfold surT
  show (List.map _ _).toArray.size = i
  rw [List.size_toArray, List.length_map, List.length_range]
def surV (d : Int) (gs : List Cl) : ByteArray := if (solV d gs).isEmpty then ⟨#[]⟩ else surT (solV d gs) d.toNat
def surOk (d : Int) (gs : List Cl) : Bool := !(solV d gs).isEmpty
theorem sur_nil {d : Int} {gs : List Cl} (h : solV d gs = []) : surV d gs = ⟨#[]⟩ ∧ surOk d gs = false := by unfold surV surOk; rw [h]; exact ⟨rfl, rfl⟩
theorem sur_cons {d : Int} {gs : List Cl} {s : ByteArray} {l : List ByteArray} (h : solV d gs = s :: l) : surV d gs = surT (s :: l) d.toNat ∧ surOk d gs = true := by unfold surV surOk; rw [h]; exact ⟨rfl, rfl⟩
theorem sgA_succ (ss : List ByteArray) (i k : Nat) (h : k < ss.length) : sgA ss i (k + 1) = (sgA ss i k && at0 ss[k] i == at0 (ss.headD ⟨#[]⟩) i) := by
  unfold sgA
  rw [List.take_succ_eq_append_getElem h, List.all_append]; simp
theorem sgA_bad {ss : List ByteArray} {i k : Nat} (h : k < ss.length) (h2 : (at0 ss[k] i == at0 (ss.headD ⟨#[]⟩) i) = false) : sgA ss i ss.length = false := by
  unfold sgA
  rw [List.take_length, List.all_eq_false]
  exact ⟨ss[k], List.getElem_mem h, by rw [h2]; exact Bool.false_ne_true⟩
theorem at0_ext {s : ByteArray} {i : Nat} (h : i < s.size) : s.extract i (i + 1) = ⟨#[at0 s i]⟩ := by
  rw [ext1 s i h]
  unfold at0
  rw [List.getD_eq_getElem?_getD, List.getElem?_eq_getElem (show i < s.data.toList.length by simpa using h)]
  rfl
theorem one_ne {a b : UInt8} : ((⟨#[a]⟩ : ByteArray) = ⟨#[b]⟩) ↔ a = b := by
  constructor
  · intro h
    have := congrArg (fun s : ByteArray => s.data.toList) h
    simpa using this
  · rintro rfl; rfl

set_option maxRecDepth 100000 in
set_option maxHeartbeats 4000000 in
theorem suS_any (d : Int) (v : Value) (gs : List Cl) (w : World) (h : Cls w v gs) : Calls Tryz.prog 41 #[.agg #[.int .i64 d, v]] w fun e w' => e = .returned (.tuple #[.string (surV d gs), .bool (surOk d gs)]) ∧ Ext w w' := by
  have X0 := Lib.hid (show Ext w (w.alloc (.cells #[.int .i64 d, v] 37)) from (Ext.refl w).alloc _)
  have H := Lib.hid h
  have HG := Lib.hid (fun w h => pzGood_any d v gs w h)
  cases hp : isPz d gs
  · obtain ⟨e1, e2⟩ := sur_nil (solV_no hp)
    have E1 := Lib.hid e1
    have E2 := Lib.hid e2
    rw [hp] at HG
    clear hp h e1 e2
    go_enter Tryz.func41, Tryz.ntmps41
    go_wp2_with (go_at_call 55; refine (HG.out _ (H.out.ext X0.out)).mono ?_; rintro e w1 ⟨rfl, x1⟩)
    go_ret2
    exact ⟨by rw [E1.out, E2.out]; rfl, X0.out.trans x1⟩
  have HQ := Lib.hid (fun w h => pzQ_any d v gs w h hp)
  have HMM := Lib.hid (fun (s : ByteArray) (hs : s ∈ solV d gs) => (show s.size = d.toNat from by
    rw [solV_yes hp] at hs
    exact solK_mem _ _ _ s hs))
  have HLN := Lib.hid (solV_len d gs)
  have hd1 := (isPz_bd hp).d1
  have hd2 := (isPz_bd hp).d2
  rw [hp] at HG
  rcases hs : solV d gs with _ | ⟨s0, l⟩
  · obtain ⟨e1, e2⟩ := sur_nil hs
    have E1 := Lib.hid e1
    have E2 := Lib.hid e2
    rw [hs] at HQ
    clear hs hp h e1 e2
    go_enter Tryz.func41, Tryz.ntmps41
    go_wp2_with fail
    refine (HG.out _ (H.out.ext X0.out)).mono ?_
    rintro e w1 ⟨rfl, x1⟩
    have X1 := Lib.hid x1
    clear x1
    obtain ⟨a1, a2⟩ := pz_cells X1.out
    go_wp2_with fail
    refine (HQ.out _ (H.out.ext (X0.out.trans X1.out))).mono ?_
    rintro e w2 ⟨u, rfl, hr, x2⟩
    obtain ⟨ua, uc, rfl⟩ := hr.shape
    go_wp2
    go_ret2
    exact ⟨by rw [E1.out, E2.out]; rfl, X0.out.trans (X1.out.trans x2)⟩
  obtain ⟨e1, e2⟩ := sur_cons hs
  have E1 := Lib.hid e1
  have E2 := Lib.hid e2
  rw [hs] at HQ HMM HLN
  clear hs hp h e1 e2
  obtain ⟨D, rfl⟩ := Int.eq_ofNat_of_zero_le (show 0 ≤ d by omega)
  have HS0 := Lib.hid (show (s0 :: l).headD ⟨#[]⟩ = s0 from rfl)
  have HN0 := Lib.hid (show 0 < (s0 :: l).length by simp)
  have HG0 := Lib.hid (show (s0 :: l)[0]'(by simp) = s0 from rfl)
  obtain ⟨ss, hss⟩ : ∃ ss, ss = s0 :: l := ⟨_, rfl⟩
  have HSS := Lib.hid hss
  rw [← hss] at HQ HMM HLN E1
  go_enter Tryz.func41, Tryz.ntmps41
  go_wp2_with fail
  refine (HG.out _ (H.out.ext X0.out)).mono ?_
  rintro e w1 ⟨rfl, x1⟩
  have X1 := Lib.hid x1
  clear x1
  obtain ⟨a1, a2⟩ := pz_cells X1.out
  go_wp2_with fail
  refine (HQ.out _ (H.out.ext (X0.out.trans X1.out))).mono ?_
  rintro e w2 ⟨u, rfl, hr, x2⟩
  obtain ⟨ua, uc, rfl⟩ := hr.shape
  have HR := Lib.hid hr
  have X2 := Lib.hid (X1.out.trans x2)
  have hlz : ((ss.length : Int) == 0) = false := beq_eq_false_iff_ne.2 (by rw [hss]; simp; omega)
  clear hr x2 a1 a2 hss
  go_wp2
  go_loopw [5, 6] (fun o i wr => ∃ k : Nat, k ≤ D ∧ i = .int .i64 k ∧ o = .string (surT ss k) ∧ Ext (w.alloc (.cells #[.int .i64 (D : Int), v] 37)) wr ∧ Ext w2 wr) (fun _ i _ => D - (intOf i).toNat)
  case atStart => exact ⟨0, Nat.zero_le _, rfl, rfl, X2.out, Ext.refl _⟩
  case round =>
    obtain ⟨k, hk, rfl, rfl, hxa, hx⟩ := hrel
    have HXA := Lib.hid hxa
    have HX := Lib.hid hx
    obtain ⟨b1, b2⟩ := pz_cells hxa
    clear hx hxa
    have hD3 : D ≤ 3 := by omega
    by_cases hlt : k < D
    · have hz0 : s0.size = D := by
        have := HMM.out s0 (by rw [HSS.out]; simp)
        simpa using this
      obtain ⟨g, rfl, hB0, hg0, hc0, _⟩ := RowS.at HR.out 0 (by rw [HSS.out]; simp)
      have hc1 : wr.cell? ⟨g, 0, none⟩ = some (.string s0) := by
        rw [HX.out.cell (p := ⟨g, 0, none⟩) hg0, hc0]
        congr 2
        have := HSS.out
        subst this
        rfl
      have hsl : ∀ w, (Instr.slice 9 (.string s0) (some (.int .i64 (k : Int))) (some (.int .i64 ((k : Int) + 1))) none).run Tryz.prog w = .ok (.string ⟨#[at0 s0 k]⟩) w := fun w => by
        rw [← at0_ext (by omega)]
        exact slB s0 k (k + 1) (by omega) (by omega) w
      have W1 : IntKind.i64.wrap ((k : Int) + 1) = (k : Int) + 1 := by simp only [IntKind.wrap_i64]; omega
      have HST := Lib.hid (surT_succ ss k)
      have hsz := surT_size ss k
      have HLL := Lib.hid (show 1 ≤ ss.length by rw [HSS.out]; simp)
      have hnz : (0 : Int) < (ss.length : Int) := by have := HLL.out; omega
      clear hc0 hB0
      go_wp2
      go_loopw [7, 36] (fun sg j wr2 => ∃ m : Nat, m ≤ ss.length ∧ j = .int .i64 m ∧ sg = .string ⟨#[at0 s0 k]⟩ ∧ sgA ss k m = true ∧ Ext wr wr2) (fun _ j _ => ss.length - (intOf j).toNat)
      case atStart => exact ⟨0, Nat.zero_le _, rfl, rfl, rfl, (by first | exact Ext.refl _ | exact ext_drewN (Ext.refl _) _ | exact (Ext.refl _).drew)⟩
      case round =>
        obtain ⟨m, hm, rfl, rfl, hall, hx2⟩ := hrel
        have HAL := Lib.hid hall
        have HX2 := Lib.hid hx2
        clear hall hx2
        by_cases hml : m < ss.length
        · obtain ⟨g', e9, hB1, hg1, hc2, _⟩ := RowS.at HR.out m hml
          injection e9 with e9
          injection e9 with e9
          subst e9
          have hc3 : wr.cell? ⟨g, m, none⟩ = some (.string ss[m]) := by
            rw [HX2.out.cell (p := ⟨g, m, none⟩) (Nat.lt_of_lt_of_le hg1 HX.out.size), HX.out.cell (p := ⟨g, m, none⟩) hg1]
            exact hc2
          have hzm : ss[m].size = D := by
            have := HMM.out ss[m] (List.getElem_mem hml)
            simpa using this
          have hsl2 : ∀ w, (Instr.slice 9 (.string ss[m]) (some (.int .i64 (k : Int))) (some (.int .i64 ((k : Int) + 1))) none).run Tryz.prog w = .ok (.string ⟨#[at0 ss[m] k]⟩) w := fun w => by
            rw [← at0_ext (by omega)]
            exact slB ss[m] k (k + 1) (by omega) (by omega) w
          have hmb : m < 1000 := by have := HLN.out; omega
          have HAS := Lib.hid (sgA_succ ss k m hml)
          have HAB := Lib.hid (fun hh => sgA_bad (i := k) hml hh)
          have HHD := Lib.hid (show ss.headD ⟨#[]⟩ = s0 by rw [HSS.out]; rfl)
          rw [HHD.out] at HAS HAB
          obtain ⟨t, ht⟩ : ∃ t, t = ss[m] := ⟨_, rfl⟩
          rw [← ht] at hc3 hzm hsl2 HAS HAB
          clear ht hc2 hB1 hg1
          obtain ⟨x, hx⟩ : ∃ x, x = at0 t k := ⟨_, rfl⟩
          obtain ⟨y, hy⟩ : ∃ y, y = at0 s0 k := ⟨_, rfl⟩
          rw [← hx] at hsl2 HAS HAB
          have HY := Lib.hid hy
          rw [← hy] at hsl HAS HAB ⊢
          clear hx hy
          by_cases he : x = y
          · subst he
            rw [beq_self_eq_true, Bool.and_true, HAL.out] at HAS
            go_wp2
            exact ⟨⟨m + 1, by omega, by go_num, rfl, HAS.out, HX2.out⟩, by simp [intOf]; omega⟩
          · have hne : (x == y) = false := beq_eq_false_iff_ne.2 he
            have HSG := Lib.hid (HAB.out hne)
            have HYK := Lib.hid (show sgK ss ss.length k = 63 by unfold sgK; rw [HSG.out]; rfl)
            rw [HYK.out] at HST
            clear HAB HAS he
            go_wp2
            exact ⟨⟨k + 1, by omega, by go_num, by rw [HST.out], HXA.out.trans HX2.out, HX.out.trans HX2.out⟩, by simp [intOf]; omega⟩
        · have hme : m = ss.length := by omega
          have HSG := Lib.hid (show sgA ss k ss.length = true by rw [← hme]; exact HAL.out)
          have HYK := Lib.hid (show sgK ss ss.length k = at0 s0 k by unfold sgK; rw [HSG.out, HSS.out]; rfl)
          rw [HYK.out] at HST
          go_wp2
          exact ⟨⟨k + 1, by omega, by go_num, by rw [HST.out], HXA.out.trans HX2.out, HX.out.trans HX2.out⟩, by simp [intOf]; omega⟩
    · have hke : k = D := by omega
      subst hke
      go_wp2
      go_ret2
      exact ⟨by rw [E1.out, E2.out]; rfl, X0.out.trans HXA.out⟩
end Go.Proofs.YtpdnpphjlnlneaaGreatDoor
