/- Are they guesses: both sides. No conditions. -/
import Derived.Test.YtmpajijnpoekgaaGueE
import Derived.Test.YtmpajijnpoekgaaPin
import Derived.Test.YtmpajijnpoekgaaNm
namespace Go.Proofs.Ytmpajijnpoekgaa
open Go.RowKit

def isGu (z : Nat) (g : Gu) : Bool := pinB g.p && (decide (g.p.size = z) && (inW g.h 0 (z : Int) && inW g.n 0 ((z : Int) - g.h)))
def z0 : List Gu → Nat
  | [] => 0
  | g :: _ => g.p.size
def guB (gs : List Gu) : Bool := inW (gs.length : Int) 1 10 && gs.all (isGu (z0 gs))
theorem guB_len {gs : List Gu} (h : inW (gs.length : Int) 1 10 = false) : guB gs = false := by unfold guB; rw [h]; rfl
theorem guB_at {gs : List Gu} {k : Nat} (hk : k < gs.length) (h : isGu (z0 gs) gs[k] = false) : guB gs = false := by
  unfold guB
  rw [Bool.and_eq_false_iff]
  right
  rw [List.all_eq_false]
  exact ⟨gs[k], List.getElem_mem hk, by rw [h]; simp⟩
theorem guB_yes {gs : List Gu} (hl : inW (gs.length : Int) 1 10 = true) (h : ∀ j (hj : j < gs.length), isGu (z0 gs) gs[j] = true) : guB gs = true := by
  unfold guB
  rw [hl, Bool.true_and, List.all_eq_true]
  intro g hg
  obtain ⟨j, hj, rfl⟩ := List.mem_iff_getElem.1 hg
  exact h j hj
theorem z0_at {gs : List Gu} (h : 0 < gs.length) : z0 gs = gs[0].p.size := by
  cases gs with
  | nil => cases h
  | cons g r => rfl

set_option maxHeartbeats 1000000 in
theorem isG_any (g : Gu) (w : World) (h : g.ok) : Calls Try.prog 69 #[.agg #[.string g.p, .int .i64 g.h, .int .i64 g.n]] w fun e w' => e = .returned (.bool (isGu g.p.size g)) ∧ Ext w w' := by
  obtain ⟨p, x, y⟩ := g
  obtain ⟨hp, hx, hy⟩ := h
  simp only at hp hx hy ⊢
  have hp2 := hp
  unfold maxLen at hp2
  cases h1 : pinB p
  · have HV := Lib.hid (show isGu p.size ⟨p, x, y⟩ = false by unfold isGu; rw [show pinB (Gu.mk p x y).p = false from h1]; rfl)
    go_enter Try.func69, Try.ntmps69
    go_wp2_with (go_at_call 28; refine (isPin_any _ _ hp).mono ?_; rintro e w' ⟨rfl, rfl⟩; rw [h1])
    go_ret
    exact ⟨ret_bool HV.out.symm, (Ext.refl _).alloc _⟩
  by_cases c1 : x < 0
  · have HV := Lib.hid (show isGu p.size ⟨p, x, y⟩ = false by unfold isGu; rw [show inW (Gu.mk p x y).h 0 (p.size : Int) = false from inW_lo c1]; simp)
    go_enter Try.func69, Try.ntmps69
    go_wp2_with (go_at_call 28; refine (isPin_any _ _ hp).mono ?_; rintro e w' ⟨rfl, rfl⟩; rw [h1])
    go_ret
    exact ⟨ret_bool HV.out.symm, (Ext.refl _).alloc _⟩
  by_cases c2 : (p.size : Int) < x
  · have HV := Lib.hid (show isGu p.size ⟨p, x, y⟩ = false by unfold isGu; rw [show inW (Gu.mk p x y).h 0 (p.size : Int) = false from inW_hi c2]; simp)
    go_enter Try.func69, Try.ntmps69
    go_wp2_with (go_at_call 28; refine (isPin_any _ _ hp).mono ?_; rintro e w' ⟨rfl, rfl⟩; rw [h1])
    go_ret
    exact ⟨ret_bool HV.out.symm, (Ext.refl _).alloc _⟩
  by_cases c3 : y < 0
  · have HV := Lib.hid (show isGu p.size ⟨p, x, y⟩ = false by unfold isGu; rw [show inW (Gu.mk p x y).n 0 ((p.size : Int) - x) = false from inW_lo c3]; simp)
    go_enter Try.func69, Try.ntmps69
    go_wp2_with (go_at_call 28; refine (isPin_any _ _ hp).mono ?_; rintro e w' ⟨rfl, rfl⟩; rw [h1])
    go_ret
    exact ⟨ret_bool HV.out.symm, (Ext.refl _).alloc _⟩
  by_cases c4 : (p.size : Int) - x < y
  · have HV := Lib.hid (show isGu p.size ⟨p, x, y⟩ = false by unfold isGu; rw [show inW (Gu.mk p x y).n 0 ((p.size : Int) - x) = false from inW_hi c4]; simp)
    go_enter Try.func69, Try.ntmps69
    go_wp2_with (go_at_call 28; refine (isPin_any _ _ hp).mono ?_; rintro e w' ⟨rfl, rfl⟩; rw [h1])
    go_ret
    exact ⟨ret_bool ((decide_eq_false (by omega)).trans HV.out.symm), (Ext.refl _).alloc _⟩
  have HV := Lib.hid (show isGu p.size ⟨p, x, y⟩ = true by unfold isGu; rw [show pinB (Gu.mk p x y).p = true from h1, show inW (Gu.mk p x y).h 0 (p.size : Int) = true from inW_yes (by show 0 ≤ x; omega) (by show x ≤ _; omega), show inW (Gu.mk p x y).n 0 ((p.size : Int) - x) = true from inW_yes (by show 0 ≤ y; omega) (by show y ≤ _; omega)]; simp)
  go_enter Try.func69, Try.ntmps69
  go_wp2_with (go_at_call 28; refine (isPin_any _ _ hp).mono ?_; rintro e w' ⟨rfl, rfl⟩; rw [h1])
  go_ret
  exact ⟨ret_bool HV.out.symm, (Ext.refl _).alloc _⟩

set_option maxHeartbeats 1000000 in
theorem piGues_any (v : Value) (gs : List Gu) (w : World) (h : Gus w v gs) : Calls Try.prog 67 #[v] w fun e w' => e = .returned (.bool (guB gs)) ∧ Ext w w' := by
  have HM := Lib.hid h.2.1
  have HS := Lib.hid h
  have hm := h.1
  unfold maxLen at hm
  obtain ⟨a, cap, hv, hnil⟩ := h.at
  rw [hv] at HS ⊢
  clear hv hnil h v
  cases hi : inW (gs.length : Int) 1 10
  · have HV := Lib.hid (guB_len hi)
    go_enter Try.func67, Try.ntmps67
    go_wp2_with (go_at_call 55; refine (inW_any _ _ _ _).mono ?_; rintro e w' ⟨rfl, rfl⟩; rw [hi])
    go_ret
    exact ⟨ret_bool HV.out.symm, Ext.refl _⟩
  have HI := Lib.hid hi
  have hlen : 1 ≤ gs.length := by
    unfold inW at hi
    rw [Bool.and_eq_true] at hi
    have := of_decide_eq_true hi.1
    omega
  rcases HS.out.2.2 with ⟨h2, _⟩ | ⟨b, off, cap', h1, hb, hc⟩
  · rw [h2] at hlen; exact absurd hlen (by simp)
  have ha : a = some ⟨b, off, none⟩ := by injection h1
  rw [ha]
  have HC := Lib.hid hc
  have HB := Lib.hid hb
  clear h1 ha HS hc hb
  go_enter Try.func67, Try.ntmps67
  go_wp2_with (go_at_call 55; refine (inW_any _ _ _ _).mono ?_; rintro e w' ⟨rfl, rfl⟩; rw [hi])
  go_loopw [12] (fun i wr => ∃ k : Nat, k ≤ gs.length ∧ i = .int .i64 k ∧ (∀ j (hj : j < gs.length), j < k → isGu (z0 gs) gs[j] = true) ∧ Ext w wr) (fun i _ => gs.length - (intOf i).toNat)
  case atStart => exact ⟨0, Nat.zero_le _, rfl, fun j _ h => absurd h (by omega), Ext.refl _⟩
  case round =>
    obtain ⟨k, hk, rfl, hall, hx⟩ := hrel
    have HA := Lib.hid hall
    clear hall
    by_cases hlt : k < gs.length
    · have HCK := Lib.hid (rangeAt_ext (HC.out k hlt) hx HB.out)
      have c0 := rangeAt_ext (HC.out 0 (by omega)) hx HB.out 0 _ rfl
      have hbb : b < wr.heap.size := Nat.lt_of_lt_of_le HB.out hx.size
      have HZ := Lib.hid (z0_at (gs := gs) (by omega))
      have HGA := Lib.hid (fun (hh : isGu (z0 gs) gs[k] = false) => guB_at hlt hh)
      have HOK := Lib.hid (HM.out gs[k] (List.getElem_mem hlt))
      have HOK0 := Lib.hid (HM.out gs[0] (List.getElem_mem (by omega)))
      have HNX := Lib.hid (fun (hh : isGu (z0 gs) gs[k] = true) => (show ∀ j (hj : j < gs.length), j < k + 1 → isGu (z0 gs) gs[j] = true from fun j hj hjk => by
        by_cases e : j = k
        · subst e; exact hh
        · exact HA.out j hj (by omega)))
      obtain ⟨g, hg⟩ : ∃ g, g = gs[k] := ⟨_, rfl⟩
      obtain ⟨g0, hg0⟩ : ∃ g0, g0 = gs[0] := ⟨_, rfl⟩
      rw [← hg] at HCK HOK HGA HNX
      rw [← hg0] at HZ c0 HOK0
      have hp := HOK.out.1
      have hp0 := HOK0.out.1
      have hp2 := hp
      have hp02 := hp0
      unfold maxLen at hp2 hp02
      have c0' : wr.cell? ⟨b, off, none⟩ = some (.string g0.p) := by simpa using c0
      clear c0 hg hg0
      obtain ⟨p, x, y⟩ := g
      have HCK2 := Lib.hid (show wr.rangeAt b (off + k * 3) [.string p, .int .i64 x, .int .i64 y] from HCK.out)
      simp only at hp hp2
      have hox := HOK.out.2.1
      have hoy := HOK.out.2.2
      simp only at hox hoy
      cases h1 : pinB p
      · have HV := Lib.hid (HGA.out (by unfold isGu; rw [show pinB (Gu.mk p x y).p = false from h1]; rfl))
        go_wp2_with (refine wpList_load_mid rfl 66 _ rfl b (off + k * 3) rfl [.string p, .int .i64 x, .int .i64 y] _ HCK2.out Try.underlying66 rfl (gi_size ⟨p, x, y⟩) ?_; refine id ?_; clear HCK2 HCK)
        refine (piPin_any _ _ hp).mono ?_
        rintro e w' ⟨rfl, rfl⟩
        rw [h1]
        go_wp2_with (go_at_call 55; refine (inW_any _ _ _ _).mono ?_; rintro e w' ⟨rfl, rfl⟩; first | rw [K2.out] | rw [K3.out])
        go_ret
        exact ⟨ret_bool HV.out.symm, hx.alloc _⟩
      by_cases hsz : ¬ p.size = g0.p.size
      · have HV := Lib.hid (HGA.out (by unfold isGu; rw [HZ.out, show decide ((Gu.mk p x y).p.size = g0.p.size) = false from decide_eq_false hsz]; simp))
        have hb1 : ((p.size : Int) == (g0.p.size : Int)) = false := beq_eq_false_iff_ne.2 (by omega)
        have hb2 : ¬ (p.size : Int) = (g0.p.size : Int) := by omega
        go_wp2_with (refine wpList_load_mid rfl 66 _ rfl b (off + k * 3) rfl [.string p, .int .i64 x, .int .i64 y] _ HCK2.out Try.underlying66 rfl (gi_size ⟨p, x, y⟩) ?_; refine id ?_; clear HCK2 HCK)
        refine (piPin_any _ _ hp).mono ?_
        rintro e w' ⟨rfl, rfl⟩
        rw [h1]
        go_wp2_with (go_at_call 55; refine (inW_any _ _ _ _).mono ?_; rintro e w' ⟨rfl, rfl⟩; first | rw [K2.out] | rw [K3.out])
        go_ret
        exact ⟨ret_bool HV.out.symm, hx.alloc _⟩
      have hsz : p.size = g0.p.size := Decidable.not_not.1 hsz
      have HSZ := Lib.hid hsz
      have hb1 : ((p.size : Int) == (g0.p.size : Int)) = true := beq_iff_eq.2 (by omega)
      have hb2 : (p.size : Int) = (g0.p.size : Int) := by omega
      have hp4 := (pinB_size h1).2
      clear hsz
      cases hK2 : inW x 0 (g0.p.size : Int)
      · have K2 := Lib.hid hK2
        have HV := Lib.hid (HGA.out (by unfold isGu; rw [HZ.out, show inW (Gu.mk p x y).h 0 (g0.p.size : Int) = false from hK2]; simp))
        clear hK2
        go_wp2_with (refine wpList_load_mid rfl 66 _ rfl b (off + k * 3) rfl [.string p, .int .i64 x, .int .i64 y] _ HCK2.out Try.underlying66 rfl (gi_size ⟨p, x, y⟩) ?_; refine id ?_; clear HCK2 HCK)
        refine (piPin_any _ _ hp).mono ?_
        rintro e w' ⟨rfl, rfl⟩
        rw [h1]
        go_wp2_with (go_at_call 55; refine (inW_any _ _ _ _).mono ?_; rintro e w' ⟨rfl, rfl⟩; first | rw [K2.out] | rw [K3.out])
        go_ret
        exact ⟨ret_bool HV.out.symm, hx.alloc _⟩
      have hx0 : 0 ≤ x ∧ x ≤ (g0.p.size : Int) := by
        unfold inW at hK2
        rw [Bool.and_eq_true] at hK2
        exact ⟨of_decide_eq_true hK2.1, of_decide_eq_true hK2.2⟩
      have K2 := Lib.hid hK2
      cases hK3 : inW y 0 ((g0.p.size : Int) - x)
      · have K3 := Lib.hid hK3
        have HV := Lib.hid (HGA.out (by unfold isGu; rw [HZ.out, show inW (Gu.mk p x y).n 0 ((g0.p.size : Int) - x) = false from hK3]; simp))
        clear hK2 hK3
        go_wp2_with (refine wpList_load_mid rfl 66 _ rfl b (off + k * 3) rfl [.string p, .int .i64 x, .int .i64 y] _ HCK2.out Try.underlying66 rfl (gi_size ⟨p, x, y⟩) ?_; refine id ?_; clear HCK2 HCK)
        refine (piPin_any _ _ hp).mono ?_
        rintro e w' ⟨rfl, rfl⟩
        rw [h1]
        go_wp2_with (go_at_call 55; refine (inW_any _ _ _ _).mono ?_; rintro e w' ⟨rfl, rfl⟩; first | rw [K2.out] | rw [K3.out])
        go_ret
        exact ⟨ret_bool HV.out.symm, hx.alloc _⟩
      have K3 := Lib.hid hK3
      have HV := Lib.hid (HNX.out (by unfold isGu; rw [HZ.out, show pinB (Gu.mk p x y).p = true from h1, show decide ((Gu.mk p x y).p.size = g0.p.size) = true from decide_eq_true HSZ.out, show inW (Gu.mk p x y).h 0 (g0.p.size : Int) = true from hK2, show inW (Gu.mk p x y).n 0 ((g0.p.size : Int) - x) = true from hK3]; rfl))
      clear hK2 hK3
      go_wp2_with (refine wpList_load_mid rfl 66 _ rfl b (off + k * 3) rfl [.string p, .int .i64 x, .int .i64 y] _ HCK2.out Try.underlying66 rfl (gi_size ⟨p, x, y⟩) ?_; refine id ?_; clear HCK2 HCK)
      refine (piPin_any _ _ hp).mono ?_
      rintro e w' ⟨rfl, rfl⟩
      rw [h1]
      go_wp2_with (go_at_call 55; refine (inW_any _ _ _ _).mono ?_; rintro e w' ⟨rfl, rfl⟩; first | rw [K2.out] | rw [K3.out])
      go_roundw
      case rel => exact ⟨k + 1, by omega, by go_num, HV.out, hx.alloc _⟩
      case measure => simp [intOf]; omega
    · go_wp2
      go_ret
      have HV := guB_yes HI.out (fun j hj => HA.out j hj (by omega))
      exact ⟨ret_bool HV.symm, hx⟩

end Go.Proofs.Ytmpajijnpoekgaa
