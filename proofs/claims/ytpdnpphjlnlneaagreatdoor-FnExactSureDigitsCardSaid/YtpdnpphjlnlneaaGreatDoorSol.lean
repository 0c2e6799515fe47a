/- The numbers that fit clues, in order: plainly, and by the model. No conditions. -/
import Derived.Test.YtpdnpphjlnlneaaGreatDoorFit
import Derived.Test.YtpdnpphjlnlneaaGreatDoorPio
import Derived.Test.YtpdnpphjlnlneaaGreatDoorAps
namespace Go.Proofs.YtpdnpphjlnlneaaGreatDoor
open Go.RowKit

def fitA (gs : List Cl) (n : ByteArray) : Bool := gs.all fun g => fitC g n
/-- Those of the first k numbers that fit. -/
def solK (d : Nat) (gs : List Cl) : Nat → List ByteArray
  | 0 => []
  | k + 1 => if fitA gs (numT10 k d) then solK d gs k ++ [numT10 k d] else solK d gs k
def sols (d : Nat) (gs : List Cl) : List ByteArray := solK d gs (10 ^ d)
theorem solK_len (d : Nat) (gs : List Cl) : ∀ k, (solK d gs k).length ≤ k
  | 0 => Nat.le_refl _
  | k + 1 => by
    have := solK_len d gs k
    rw [solK]
    split
    · rw [List.length_append, List.length_singleton]; omega
    · omega
theorem solK_mem (d : Nat) (gs : List Cl) : ∀ k, ∀ s ∈ solK d gs k, s.size = d
  | 0 => fun s hs => by cases hs
  | k + 1 => fun s hs => by
    rw [solK] at hs
    split at hs
    · rcases List.mem_append.1 hs with h | h
      · exact solK_mem d gs k s h
      · rw [List.mem_singleton.1 h]; exact numT10_size k d
    · exact solK_mem d gs k s hs
theorem dig_isg : ∀ q : Nat, q < 10 → isg (((48 + q).toUInt8).toNat : Int) = true := of_decide_eq_true (by kernel_rfl)
theorem numT10_dg (r d : Nat) (h : 2 ≤ d) (h2 : d ≤ 3) : isDg 2 3 (numT10 r d) = true := by
  have hz := numT10_size r d
  refine isDg_yes (by omega) (by omega) ?_
  rw [List.all_eq_true]
  intro c hc
  have hc : c ∈ dA (prD 10 r d) := by
    have : (numT10 r d).data.toList = dA (prD 10 r d) := by unfold numT10 dT; simp
    rw [this] at hc; exact hc
  unfold dA at hc
  obtain ⟨q, hq, rfl⟩ := List.mem_map.1 hc
  exact dig_isg q (prD_lt (by omega) (by omega) q hq)
theorem all_isCl {d : Nat} {gs : List Cl} (h : ∀ g ∈ gs, isCl (d : Int) g = true) (r : Nat) : ∀ g ∈ gs, isCl ((numT10 r d).size : Int) g = true := by
  rw [numT10_size]; exact h

/-- The clues ahead of one fit. -/
def fitN (gs : List Cl) (n : ByteArray) (k : Nat) : Bool := (gs.take k).all fun g => fitC g n
theorem fitN_succ (gs : List Cl) (n : ByteArray) (k : Nat) (h : k < gs.length) : fitN gs n (k + 1) = (fitN gs n k && fitC gs[k] n) := by
  unfold fitN
  rw [List.take_succ_eq_append_getElem h, List.all_append]; simp
theorem fitN_all (gs : List Cl) (n : ByteArray) (k : Nat) (h : gs.length ≤ k) : fitN gs n k = fitA gs n := by
  unfold fitN fitA
  rw [List.take_of_length_le h]
theorem pow_bd3 {d : Nat} (h2 : d ≤ 3) : 10 ^ d ≤ 1000 := by
  have := Nat.pow_le_pow_right (show 0 < 10 by omega) h2
  omega

set_option maxHeartbeats 4000000 in
theorem pzAll_any (d : Nat) (v : Value) (gs : List Cl) (w : World) (h : Cls w v gs) (hd1 : 2 ≤ d) (hd2 : d ≤ 3) (hl : gs.length ≤ 6) (hc : ∀ g ∈ gs, isCl (d : Int) g = true) :
    Calls Tryz.prog 56 #[.int .i64 (d : Int), v] w fun e w' => ∃ u, e = .returned u ∧ RowS w.heap.size w' u (sols d gs) ∧ Ext w w' := by
  have H := Lib.hid h
  have HC := Lib.hid hc
  have hp := pow_bd3 hd2
  obtain ⟨P, hP⟩ : ∃ P, P = 10 ^ d := ⟨_, rfl⟩
  have HT := Lib.hid (fun w => (hP ▸ tens_any d w (by omega) : Calls Tryz.prog 84 #[.int .i64 (d : Int)] w fun e w' => e = .returned (.int .i64 ((P : Nat) : Int)) ∧ w = w'))
  have HS := Lib.hid (show solK d gs P = sols d gs by rw [hP]; rfl)
  rw [← hP] at hp
  obtain ⟨a, cap, hv, hnil⟩ := h.at
  rw [hv] at H ⊢
  clear hv h hnil hc hP
  go_enter Tryz.func56, Tryz.ntmps56
  go_wp2
  go_loopw [5, 6] (fun o i wr => ∃ k : Nat, k ≤ P ∧ i = .int .i64 k ∧ RowS w.heap.size wr o (solK d gs k) ∧ Ext w wr) (fun _ i _ => P - (intOf i).toNat)
  case atStart => exact ⟨0, Nat.zero_le _, rfl, RowS.nil _ _, Ext.refl _⟩
  case round =>
    obtain ⟨k, hk, rfl, hr, hx⟩ := hrel
    have HR := Lib.hid hr
    have HX := Lib.hid hx
    clear hr hx
    have hkl := solK_len d gs k
    by_cases hlt : k < P
    · have hsz := numT10_size k d
      have hdg := numT10_dg k d hd1 hd2
      have HA := Lib.hid (all_isCl HC.out k)
      have HSU := Lib.hid (show solK d gs (k + 1) = if fitA gs (numT10 k d) then solK d gs k ++ [numT10 k d] else solK d gs k from rfl)
      have HPI := Lib.hid (fun w => piOf_any k d w (by omega) (by omega))
      obtain ⟨n, hn⟩ : ∃ n, n = numT10 k d := ⟨_, rfl⟩
      rw [← hn] at hsz hdg HA HSU HPI
      clear hn
      go_wp2_with (first | (go_at_call 84; refine (HT.out _).mono ?_; rintro e w' ⟨rfl, rfl⟩) | (go_at_call 85; refine (HPI.out _).mono ?_; rintro e w1 ⟨rfl, x1⟩; have X1 := Lib.hid (HX.out.trans x1); have R1 := Lib.hid (HR.out.ext x1); clear x1))
      go_loopw [8, 22] (fun f i wr => ∃ j : Nat, j ≤ gs.length ∧ i = .int .i64 j ∧ f = .bool (fitN gs n j) ∧ Ext w1 wr) (fun _ i _ => gs.length - (intOf i).toNat)
      case atStart => exact ⟨0, Nat.zero_le _, rfl, rfl, Ext.refl _⟩
      case round =>
        obtain ⟨j, hj, rfl, rfl, hx⟩ := hrel
        have HY := Lib.hid hx
        clear hx
        by_cases hjl : j < gs.length
        · rcases (H.out.ext (X1.out.trans HY.out)).2.2 with ⟨h3, _⟩ | ⟨b, off, cap', h1, hb1, hcc⟩
          · rw [h3] at hjl; exact absurd hjl (by simp)
          have ha : a = some ⟨b, off, none⟩ := by injection h1
          have HCK := Lib.hid (hcc j hjl)
          have HFS := Lib.hid (fitN_succ gs n j hjl)
          have HGA := Lib.hid (HA.out gs[j] (List.getElem_mem hjl))
          obtain ⟨g, hg⟩ : ∃ g, g = gs[j] := ⟨_, rfl⟩
          rw [← hg] at HCK HFS HGA
          clear hcc h1 hg
          have HPF := Lib.hid (fun w => pzFit_any g n w hdg HGA.out)
          obtain ⟨gk, ga, gb⟩ := g
          obtain ⟨z, hz⟩ : ∃ z, z = fitC ⟨gk, ga, gb⟩ n := ⟨_, rfl⟩
          rw [← hz] at HFS HPF
          rw [ha]
          clear hz
          cases hf : fitN gs n j
          · rw [hf, Bool.false_and] at HFS
            clear hf
            go_wp2_with (first | (refine wpList_load_mid rfl _ _ rfl b (off + j * 3) rfl [.int .i64 gk, .int .i64 ga, .int .i64 gb] _ HCK.out Tryz.underlying26 rfl (ci_size (Cl.mk gk ga gb)) ?_))
            go_roundw
            case rel => exact ⟨j + 1, by omega, by go_num, by rw [HFS.out], HY.out.trans ((Ext.refl _).alloc _)⟩
            case measure => simp [intOf]; omega
          · rw [hf, Bool.true_and] at HFS
            clear hf
            go_wp2_with (first | (refine wpList_load_mid rfl _ _ rfl b (off + j * 3) rfl [.int .i64 gk, .int .i64 ga, .int .i64 gb] _ HCK.out Tryz.underlying26 rfl (ci_size (Cl.mk gk ga gb)) ?_) | (go_at_call 50; refine (HPF.out _).mono ?_; rintro e w2 ⟨rfl, x2⟩; have X2 := Lib.hid (HY.out.trans (((Ext.refl _).alloc _).trans x2)); clear x2))
            go_roundw
            case rel => exact ⟨j + 1, by omega, by go_num, by rw [HFS.out], X2.out⟩
            case measure => simp [intOf]; omega
        · have HFN := Lib.hid (fitN_all gs n j (by omega))
          have XY := Lib.hid (X1.out.trans HY.out)
          have RY := Lib.hid (R1.out.ext HY.out)
          rw [← HFN.out] at HSU
          have hkl2 : (solK d gs k).length ≤ 1000000 := by omega
          cases hf : fitN gs n j
          · rw [hf, if_neg (by simp)] at HSU
            clear hf
            go_wp2
            go_roundw
            case rel => exact ⟨k + 1, by omega, by go_num, by rw [HSU.out]; exact RY.out, XY.out⟩
            case measure => simp [intOf]; omega
          · rw [hf, if_pos rfl] at HSU
            clear hf
            go_wp2_with (at_builtin; refine app_str rfl _ _ rfl w w.heap.size _ _ _ _ rfl (by exact RY.out) XY.out (Nat.le_refl _) XY.out.size (by exact hkl2) rfl ?_; intro v9 w9 r9 x9 _; have R9 := Lib.hid r9; have X9 := Lib.hid x9; clear r9 x9)
            go_roundw
            case rel => exact ⟨k + 1, by omega, by go_num, by rw [HSU.out]; exact R9.out, X9.out⟩
            case measure => simp [intOf]; omega
    · have HE := Lib.hid (show solK d gs k = sols d gs by rw [← HS.out]; congr 1; omega)
      go_wp2_with (go_at_call 84; refine (HT.out _).mono ?_; rintro e w' ⟨rfl, rfl⟩)
      go_ret
      exact ⟨_, rfl, by rw [← HE.out]; exact HR.out, HX.out⟩
end Go.Proofs.YtpdnpphjlnlneaaGreatDoor
