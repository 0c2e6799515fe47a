/- Behind how many digits a lock opens: both sides. No conditions. -/
import Derived.Test.YtmpajijnpoekgabPin
import Derived.Test.YtmpajijnpoekgabShelf
import Derived.Lib.IndexLaws
import Derived.Lib.IndexMore
namespace Go.Proofs.Ytmpajijnpoekgab
open Go.RowKit

/-- The library's variable holds a number. -/
def MaxL (m : Int) (w : World) : Prop := w.cell? ⟨0, 0, none⟩ = some (.int .i64 m)
theorem MaxL.lt {m : Int} {w : World} (h : MaxL m w) : 0 < w.heap.size := by
  unfold MaxL World.cell? at h
  rcases Nat.lt_or_ge 0 w.heap.size with k | k
  · exact k
  · simp [Array.getElem?_eq_none k] at h
theorem MaxL.ext {m : Int} {w w' : World} (h : MaxL m w) (hx : Ext w w') : MaxL m w' := (hx.cell (p := ⟨0, 0, none⟩) h.lt).trans h

def idx (t p : ByteArray) : Int := Lib.index t.data.toList p.data.toList
def occ (t p : ByteArray) (j : Nat) : Bool := Lib.occAt t.data.toList p.data.toList j
def noc (t p : ByteArray) (j : Nat) : Prop := Lib.NoOcc t.data.toList p.data.toList j
theorem ext_take (t : ByteArray) (j n : Nat) (_h : j + n ≤ t.size) : (t.extract j (j + n)).data.toList = (t.data.toList.drop j).take n := by
  rw [ByteArray.data_extract]
  simp
theorem occ_ext {t p : ByteArray} {j : Nat} (h : j + p.size ≤ t.size) : occ t p j = decide (t.extract j (j + p.size) = p) := by
  unfold occ Lib.occAt
  have hl : p.data.toList.length = p.size := by simp
  cases e : p.data.toList.isPrefixOf (t.data.toList.drop j)
  · rw [eq_comm, decide_eq_false_iff_not]
    intro h2
    have h3 : p.data.toList <+: t.data.toList.drop j := by
      rw [List.prefix_iff_eq_take, hl, ← ext_take t j p.size h, h2]
    rw [← List.isPrefixOf_iff_prefix, e] at h3
    cases h3
  · rw [eq_comm, decide_eq_true_iff]
    rw [List.isPrefixOf_iff_prefix, List.prefix_iff_eq_take, hl, ← ext_take t j p.size h] at e
    apply ByteArray.ext
    exact Array.toList_inj.1 e.symm
theorem idx_hit {t p : ByteArray} {j : Nat} (hn : noc t p j) (hj : j ≤ t.size) (ho : occ t p j = true) : idx t p = j := Lib.index_hit hn (by simpa using hj) ho
theorem idx_past {t p : ByteArray} {j : Nat} (hp : 0 < p.size) (hn : noc t p j) (hj : t.size < j + p.size) : idx t p = -1 := by
  refine Lib.index_past (fun e => ?_) hn (by simpa using hj)
  have : p.data.toList.length = p.size := by simp
  rw [e] at this
  simp at this
  omega
theorem idx_room {t p : ByteArray} (h : 0 ≤ idx t p) : idx t p + (p.size : Int) ≤ (t.size : Int) := by
  have := Lib.index_room t.data.toList p.data.toList h
  unfold idx
  simpa using this
theorem idx_ge (t p : ByteArray) : -1 ≤ idx t p := Lib.index_ge _ _

def oaG (t p : ByteArray) : Bool := isDg 0 1300 t && (pinB p && decide (0 ≤ idx t p))
theorem oaG_t {t p : ByteArray} (h : isDg 0 1300 t = false) : oaG t p = false := by unfold oaG; rw [h]; rfl
theorem oaG_p {t p : ByteArray} (h : pinB p = false) : oaG t p = false := by unfold oaG; rw [h]; simp
theorem oaG_i {t p : ByteArray} (h : idx t p < 0) : oaG t p = false := by unfold oaG; rw [decide_eq_false (show ¬ 0 ≤ idx t p by omega)]; simp
theorem oaG_y {t p : ByteArray} (h : isDg 0 1300 t = true) (h2 : pinB p = true) (h3 : 0 ≤ idx t p) : oaG t p = true := by unfold oaG; rw [h, h2, decide_eq_true h3]; rfl
def oaV (t p : ByteArray) : Int := if oaG t p then idx t p + (p.size : Int) else 0
theorem oaV_no {t p : ByteArray} (h : oaG t p = false) : oaV t p = 0 := by unfold oaV; rw [h]; rfl
theorem oaV_yes {t p : ByteArray} (h : oaG t p = true) : oaV t p = idx t p + (p.size : Int) := by unfold oaV; rw [h]; rfl
theorem ret_iBo {a a' : Int} {b b' : Bool} (h : a = a') (h2 : b = b') : Ending.returned (.tuple #[.int .i64 a, .bool b]) = .returned (.tuple #[.int .i64 a', .bool b']) := by rw [h, h2]
/-- Where it opens, or -1. -/
def opV (t p : ByteArray) : Int := if 0 ≤ idx t p then idx t p + (p.size : Int) else -1
theorem opV_yes {t p : ByteArray} (h : 0 ≤ idx t p) : opV t p = idx t p + (p.size : Int) := if_pos h
theorem opV_no {t p : ByteArray} (h : idx t p < 0) : opV t p = -1 := if_neg (by omega)

theorem lockText_any (t : ByteArray) (w : World) (ht : t.size ≤ maxLen) : Calls Try.prog 46 #[.string t] w fun e w' => e = .returned (.bool (isDg 0 1300 t)) ∧ w = w' := by
  go_enter Try.func46, Try.ntmps46
  go_wp2_with (go_at_call 84; refine (areDig_any _ _ _ _ ht).mono ?_; rintro e w' ⟨rfl, rfl⟩)
  go_ret
  exact ⟨rfl, rfl⟩

set_option maxHeartbeats 1000000 in
theorem oaI_any (t p : ByteArray) (m : Int) (w : World) (ht : t.size ≤ maxLen) (hp : p.size ≤ maxLen) (hM : MaxL m w) : Calls Try.prog 15 #[.string t, .string p] w fun e w' => e = .returned (.tuple #[.int .i64 (oaV t p), .bool (oaG t p)]) ∧ Ext w w' := by
  cases h1 : isDg 0 1300 t
  · have HG := Lib.hid (oaG_t (p := p) h1)
    have HV := Lib.hid (oaV_no HG.out)
    go_enter Try.func15, Try.ntmps15
    go_wp2_with (go_at_call 46; refine (lockText_any _ _ ht).mono ?_; rintro e w' ⟨rfl, rfl⟩; rw [h1])
    go_ret2
    exact ⟨ret_iBo HV.out.symm HG.out.symm, Ext.refl _⟩
  cases h2 : pinB p
  · have HG := Lib.hid (oaG_p (t := t) h2)
    have HV := Lib.hid (oaV_no HG.out)
    go_enter Try.func15, Try.ntmps15
    go_wp2_with (first | (go_at_call 46; refine (lockText_any _ _ ht).mono ?_; rintro e w' ⟨rfl, rfl⟩; rw [h1]) | (go_at_call 47; refine (isPin_any _ _ hp).mono ?_; rintro e w' ⟨rfl, rfl⟩; rw [h2]))
    go_ret2
    exact ⟨ret_iBo HV.out.symm HG.out.symm, Ext.refl _⟩
  have hz := isDg_size h1
  have hpz := pinB_size h2
  have HX := Lib.hid (fun w (h : MaxL m w) => (show Calls Try.prog 48 #[.string t, .string p] w fun e w' => e = .returned (.int .i64 (idx t p)) ∧ w = w' from (Try.strings_Index t p m w (by omega) h).mono fun e w' h => ⟨h.1, h.2.symm⟩))
  have HMM := Lib.hid hM
  have hge := idx_ge t p
  have hY := fun h => oaG_y h1 h2 (t := t) (p := p) h
  have hN := fun h => oaG_i (t := t) (p := p) h
  have hroom := fun h => idx_room (t := t) (p := p) h
  have hVY := fun h => oaV_yes (t := t) (p := p) h
  have hVN := fun h => oaV_no (t := t) (p := p) h
  obtain ⟨x, hx⟩ : ∃ x, x = idx t p := ⟨_, rfl⟩
  rw [← hx] at HX hge hY hN hroom hVY
  clear hx hM
  by_cases h0 : x < 0
  · have HG := Lib.hid (hN h0)
    have HV := Lib.hid (hVN HG.out)
    clear hY hN hroom hVY hVN
    go_enter Try.func15, Try.ntmps15
    go_wp2_with (first | (go_at_call 46; refine (lockText_any _ _ ht).mono ?_; rintro e w' ⟨rfl, rfl⟩; rw [h1]) | (go_at_call 47; refine (isPin_any _ _ hp).mono ?_; rintro e w' ⟨rfl, rfl⟩; rw [h2]) | (go_at_call 48; refine (HX.out _ HMM.out).mono ?_; rintro e w' ⟨rfl, rfl⟩))
    go_ret2
    exact ⟨ret_iBo HV.out.symm HG.out.symm, Ext.refl _⟩
  · have HG := Lib.hid (hY (by omega))
    have HV := Lib.hid (hVY HG.out)
    have hr := hroom (by omega)
    clear hY hN hroom hVY hVN
    go_enter Try.func15, Try.ntmps15
    go_wp2_with (first | (go_at_call 46; refine (lockText_any _ _ ht).mono ?_; rintro e w' ⟨rfl, rfl⟩; rw [h1]) | (go_at_call 47; refine (isPin_any _ _ hp).mono ?_; rintro e w' ⟨rfl, rfl⟩; rw [h2]) | (go_at_call 48; refine (HX.out _ HMM.out).mono ?_; rintro e w' ⟨rfl, rfl⟩))
    go_ret2
    exact ⟨ret_iBo HV.out.symm HG.out.symm, Ext.refl _⟩

set_option maxHeartbeats 1000000 in
theorem piOpens_any (t p : ByteArray) (w : World) (ht : t.size ≤ 1300) (hp1 : 2 ≤ p.size) (hp2 : p.size ≤ 4) : Calls Try.prog 45 #[.string t, .string p] w fun e w' => e = .returned (.int .i64 (opV t p)) ∧ Ext w w' := by
  go_enter Try.func45, Try.ntmps45
  go_wp2
  go_loopw [5] (fun q wr => ∃ j i : Nat, i = j + p.size ∧ q = .int .i64 (i : Int) ∧ i ≤ 2000 ∧ noc t p j ∧ Ext w wr) (fun q _ => 2001 - (intOf q).toNat)
  case atStart => exact ⟨0, p.size, by omega, rfl, by omega, Lib.NoOcc.zero _ _, Ext.refl _⟩
  case round =>
    obtain ⟨j, i, hij, rfl, hi2, hn, hx⟩ := hrel
    have HN := Lib.hid hn
    clear hn
    by_cases hle : i ≤ t.size
    · have hlei : (i : Int) ≤ (t.size : Int) := by omega
      have hji : (i : Int) - (p.size : Int) = (j : Int) := by omega
      have Wj : IntKind.i64.wrap ((i : Int) - (p.size : Int)) = (j : Int) := by simp only [IntKind.wrap_i64]; omega
      have hjl : j ≤ i := by omega
      have hjs : ¬ (i : Int) < (j : Int) := by omega
      have his : ¬ (t.size : Int) < (i : Int) := by omega
      have hsl : ∀ w, (Instr.slice 9 (.string t) (some (.int .i64 (j : Int))) (some (.int .i64 (i : Int))) none).run Try.prog w = .ok (.string (t.extract j i)) w := fun w => by
        have a1 : (0 : Int) ≤ (j : Int) := by omega
        have a2 : (j : Int) ≤ (i : Int) := by omega
        have a3 : (0 : Int) ≤ (i : Int) := by omega
        simp [go_sem, hle, hjl]
      have HO := Lib.hid (show occ t p j = decide (t.extract j i = p) by rw [hij]; exact occ_ext (by omega))
      have HI := Lib.hid hij
      have Wi : IntKind.i64.wrap ((i : Int) + 1) = (i : Int) + 1 := by simp only [IntKind.wrap_i64]; omega
      obtain ⟨E, hE⟩ : ∃ E, E = t.extract j i := ⟨_, rfl⟩
      rw [← hE] at hsl HO
      clear hE hij
      by_cases he : E = p
      · have HV := Lib.hid (idx_hit HN.out (by omega) (by rw [HO.out, decide_eq_true he]))
        have heb : (E.toList == p.toList) = true := by rw [he]; exact beq_self_eq_true _
        have hel : E.toList = p.toList := by rw [he]
        have HR := Lib.hid (show opV t p = (i : Int) by rw [opV_yes (by rw [HV.out]; omega), HV.out, HI.out]; simp)
        clear he
        go_wp2
        first | (go_quiet (fail); go_wp2) | skip
        go_ret
        exact ⟨ret_iD HR.out.symm, by first | exact hx | exact ext_drewN hx _⟩
      · have HN2 := Lib.hid (show noc t p (j + 1) from Lib.NoOcc.succ HN.out (by have := HO.out; unfold occ at this; rw [this, decide_eq_false he]))
        have hel : ¬ E.toList = p.toList := fun h => he (by
          rw [Lib.toList_data, Lib.toList_data] at h
          apply ByteArray.ext
          exact Array.toList_inj.1 h)
        have heb : (E.toList == p.toList) = false := beq_eq_false_iff_ne.2 hel
        clear he
        go_wp2
        first | (go_quiet (fail); go_wp2) | skip
        go_roundw
        case rel => exact ⟨j + 1, i + 1, by have := HI.out; omega, by go_num, by omega, HN2.out, by first | exact hx | exact ext_drewN hx _⟩
        case measure => simp [intOf]; omega
    · have hlei : ¬ (i : Int) ≤ (t.size : Int) := by omega
      have HV := Lib.hid (opV_no (t := t) (p := p) (by rw [idx_past (by omega) HN.out (by omega)]; decide))
      go_wp2
      go_ret
      exact ⟨ret_iD HV.out.symm, hx⟩

set_option maxHeartbeats 1000000 in
theorem oaS_any (t p : ByteArray) (w : World) (ht : t.size ≤ maxLen) (hp : p.size ≤ maxLen) : Calls Try.prog 14 #[.string t, .string p] w fun e w' => e = .returned (.tuple #[.int .i64 (oaV t p), .bool (oaG t p)]) ∧ Ext w w' := by
  cases h1 : isDg 0 1300 t
  · have HG := Lib.hid (oaG_t (p := p) h1)
    have HV := Lib.hid (oaV_no HG.out)
    go_enter Try.func14, Try.ntmps14
    go_wp2_with (go_at_call 43; refine (piDig_any _ _ _ _ ht).mono ?_; rintro e w' ⟨rfl, rfl⟩; rw [h1])
    go_ret2
    exact ⟨ret_iBo HV.out.symm HG.out.symm, Ext.refl _⟩
  cases h2 : pinB p
  · have HG := Lib.hid (oaG_p (t := t) h2)
    have HV := Lib.hid (oaV_no HG.out)
    go_enter Try.func14, Try.ntmps14
    go_wp2_with (first | (go_at_call 43; refine (piDig_any _ _ _ _ ht).mono ?_; rintro e w' ⟨rfl, rfl⟩; rw [h1]) | (go_at_call 44; refine (piPin_any _ _ hp).mono ?_; rintro e w' ⟨rfl, rfl⟩; rw [h2]))
    go_ret2
    exact ⟨ret_iBo HV.out.symm HG.out.symm, Ext.refl _⟩
  have hz := isDg_size h1
  have hpz := pinB_size h2
  have HX := Lib.hid (fun w => piOpens_any t p w (by omega) hpz.1 hpz.2)
  by_cases h0 : idx t p < 0
  · have HG := Lib.hid (oaG_i h0)
    have HV := Lib.hid (oaV_no HG.out)
    rw [opV_no h0] at HX
    clear h0
    go_enter Try.func14, Try.ntmps14
    go_wp2_with (first | (go_at_call 43; refine (piDig_any _ _ _ _ ht).mono ?_; rintro e w' ⟨rfl, rfl⟩; rw [h1]) | (go_at_call 44; refine (piPin_any _ _ hp).mono ?_; rintro e w' ⟨rfl, rfl⟩; rw [h2]) | (go_at_call 45; refine (HX.out _).mono ?_; rintro e w3 ⟨rfl, x3⟩))
    go_ret2
    exact ⟨ret_iBo HV.out.symm HG.out.symm, x3⟩
  · have hG := oaG_y h1 h2 (show 0 ≤ idx t p by omega)
    have HG := Lib.hid hG
    have HV := Lib.hid (show oaV t p = opV t p by rw [oaV_yes hG, opV_yes (by omega)])
    have ho0 : ¬ opV t p < 0 := by rw [opV_yes (by omega)]; omega
    obtain ⟨x, hx⟩ : ∃ x, x = opV t p := ⟨_, rfl⟩
    rw [← hx] at HX HV ho0
    clear hx h0 hG
    go_enter Try.func14, Try.ntmps14
    go_wp2_with (first | (go_at_call 43; refine (piDig_any _ _ _ _ ht).mono ?_; rintro e w' ⟨rfl, rfl⟩; rw [h1]) | (go_at_call 44; refine (piPin_any _ _ hp).mono ?_; rintro e w' ⟨rfl, rfl⟩; rw [h2]) | (go_at_call 45; refine (HX.out _).mono ?_; rintro e w3 ⟨rfl, x3⟩))
    go_ret2
    exact ⟨ret_iBo HV.out.symm HG.out.symm, x3⟩
end Go.Proofs.Ytmpajijnpoekgab
