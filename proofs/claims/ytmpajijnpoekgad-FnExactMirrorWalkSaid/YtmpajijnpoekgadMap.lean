/- The places of keys with left and right exchanged, or turned. No conditions. -/
import Derived.Test.YtmpajijnpoekgadKeysAt
namespace Go.Proofs.Ytmpajijnpoekgad
open Go.RowKit

/-- The place to which a place goes. -/
def mp (c : Bool) (p : Nat) : Nat := if c then 11 - p else p / 3 * 3 + 3 - 1 - p % 3
theorem mp_lt (c : Bool) (p : Nat) (h : p < 12) : mp c p < 12 := by
  cases c
  · show p / 3 * 3 + 3 - 1 - p % 3 < 12
    omega
  · show 11 - p < 12
    omega
theorem mp_all (c : Bool) (ps : List Nat) (h : ∀ q ∈ ps, q < 12) : ∀ q ∈ ps.map (mp c), q < 12 := by
  intro q hq
  obtain ⟨x, hx, rfl⟩ := List.mem_map.1 hq
  exact mp_lt c x (h x hx)
def exK (c : Bool) (s : ByteArray) : ByteArray := if isD s then kT ((plcs s).map (mp c)) else ⟨#[]⟩
theorem exK_no {c : Bool} {s : ByteArray} (h : isD s = false) : exK c s = ⟨#[]⟩ := by unfold exK; rw [h]; rfl
theorem exK_yes {c : Bool} {s : ByteArray} (h : isD s = true) : exK c s = kT ((plcs s).map (mp c)) := by unfold exK; rw [h]; rfl
/-- The places, as many of them moved. -/
def mx (c : Bool) (ps : List Nat) (k : Nat) : List Nat := (ps.take k).map (mp c) ++ ps.drop k
theorem mx_zero (c : Bool) (ps : List Nat) : mx c ps 0 = ps := rfl
theorem mx_len (c : Bool) (ps : List Nat) (k : Nat) (h : k ≤ ps.length) : (mx c ps k).length = ps.length := by
  unfold mx
  rw [List.length_append, List.length_map, List.length_take, List.length_drop]; omega
theorem mx_all (c : Bool) (ps : List Nat) (k : Nat) (h : ps.length ≤ k) : mx c ps k = ps.map (mp c) := by
  unfold mx
  rw [List.take_of_length_le h, List.drop_of_length_le h, List.append_nil]
theorem mx_at (c : Bool) (ps : List Nat) (k : Nat) (h : k < ps.length) : (mx c ps k)[k]'(by rw [mx_len _ _ _ (Nat.le_of_lt h)]; exact h) = ps[k] := by
  have h1 : ((ps.take k).map (mp c)).length = k := by rw [List.length_map, List.length_take]; omega
  unfold mx
  rw [List.getElem_append_right (by omega)]
  simp only [h1, Nat.sub_self, List.getElem_drop, Nat.add_zero]
theorem mx_set (c : Bool) (ps : List Nat) (k : Nat) (h : k < ps.length) : (pcs (mx c ps k)).set k (.int .i64 (mp c ps[k] : Nat)) = pcs (mx c ps (k + 1)) := by
  have h1 : ((ps.take k).map (mp c)).length = k := by rw [List.length_map, List.length_take]; omega
  have e : (mx c ps k).set k (mp c ps[k]) = mx c ps (k + 1) := by
    unfold mx
    rw [List.set_append_right _ _ (by omega), h1, Nat.sub_self, List.drop_eq_getElem_cons h, List.set_cons_zero, List.take_succ_eq_append_getElem h, List.map_append, List.append_assoc]
    rfl
  rw [← e]
  unfold pcs
  rw [List.map_set]

theorem mirroredPlace_any (p : Nat) (w : World) (hp : p < 12) : Calls Try.prog 45 #[.int .i64 p] w fun e w' => e = .returned (.int .i64 (mp false p : Nat)) ∧ w = w' := by
  have hm : mp false p = p / 3 * 3 + 3 - 1 - p % 3 := rfl
  go_enter Try.func45, Try.ntmps45
  go_wp2_with (first | (go_at_call 76; refine (padCol_any _ _ (by assumption)).mono ?_; rintro e w' ⟨rfl, rfl⟩) | (go_at_call 75; refine (padRow_any _ _ (by assumption)).mono ?_; rintro e w' ⟨rfl, rfl⟩))
  go_ret
  exact ⟨ret_iD (by rw [hm]; omega), rfl⟩

set_option maxHeartbeats 1000000 in
theorem mvmirroredPlace_any (s : ByteArray) (w : World) (hK : allK s) (h100 : s.size ≤ 100) : Calls Try.prog 44 #[.string s, .func (.func 45) #[] #[]] w fun e w' => e = .returned (.string (kT ((plcs s).map (mp false)))) ∧ Ext w w' := by
  have h30 : (plcs s).length ≤ 100 := by rw [plcs_len]; exact h100
  have HPL := Lib.hid (plcs_lt s)
  go_enter Try.func44, Try.ntmps44
  go_wp2_with fail
  refine (placesOf_all s w hK h100).mono ?_
  rintro e w1 ⟨v, rfl, hv, x1⟩
  obtain ⟨ps, hps⟩ : ∃ ps, ps = plcs s := ⟨_, rfl⟩
  have HPS := Lib.hid hps
  rw [← hps] at h30 HPL hv
  clear hps
  have HR := Lib.hid (show RowP w.heap.size w1 v (mx false ps 0) by rw [mx_zero]; exact hv)
  obtain ⟨a, cap, rfl⟩ := hv.shape
  clear hv
  go_wp2_with fail
  go_loopw [12] (fun i wr => ∃ k : Nat, k ≤ ps.length ∧ i = .int .i64 k ∧ RowP w.heap.size wr (.slice a ps.length cap) (mx false ps k) ∧ Ext w wr) (fun i _ => ps.length - (intOf i).toNat)
  case atStart => exact ⟨0, Nat.zero_le _, rfl, HR.out, x1⟩
  case round =>
    obtain ⟨k, hk, rfl, hr, hx⟩ := hrel
    have HO := Lib.hid hr
    clear hr
    by_cases hlt : k < ps.length
    · have hlm : k < (mx false ps k).length := by rw [mx_len _ _ _ hk]; exact hlt
      have e0 : (mx false ps k).length = ps.length := mx_len _ _ _ hk
      have hr2 : RowP w.heap.size wr (.slice a (mx false ps k).length cap) (mx false ps k) := by rw [e0]; exact HO.out
      obtain ⟨g, ha, hb, hg, hc, hf⟩ := hr2.at k hlm
      rw [mx_at _ _ _ hlt] at hc
      have hq : ps[k] < 12 := HPL.out _ (List.getElem_mem hlt)
      subst ha
      have HS := Lib.hid (show RowP w.heap.size (wr.setCell ⟨g, k, none⟩ (.int .i64 (mp false ps[k] : Nat))) (.slice (some ⟨g, 0, none⟩) ps.length cap) (mx false ps (k + 1)) by
        have h0 := HO.out
        unfold RowP at h0 ⊢
        rw [e0] at h0
        rw [mx_len _ _ _ (by omega : k + 1 ≤ ps.length), ← mx_set _ _ _ hlt]
        exact (World.ownsRow.stored h0 k (.int .i64 (mp false ps[k] : Nat))).1)
      clear hr2 e0 hlm
      go_wp2_with (go_at_call 45; refine (mirroredPlace_any _ _ (by assumption)).mono ?_; rintro e w' ⟨rfl, rfl⟩)
      go_roundw
      case rel => exact ⟨k + 1, by omega, by go_num, HS.out, hx.setCell hb _⟩
      case measure => simp [intOf]; omega
    · have HE := Lib.hid (show mx false ps k = ps.map (mp false) from mx_all _ _ _ (by omega))
      have HP := Lib.hid (show Ps wr (.slice a ps.length cap) (ps.map (mp false)) by
        have h1 := HO.out
        rw [HE.out] at h1
        exact h1.ps (by rw [List.length_map]; unfold maxLen; omega))
      go_wp2_with (go_at_call 66; refine (keysAt_any _ _ _ HP.out (mp_all _ _ HPL.out) (by rw [List.length_map]; omega)).mono ?_; rintro e w2 ⟨rfl, x2⟩)
      go_ret
      exact ⟨by rw [HPS.out]; rfl, hx.trans x2⟩

end Go.Proofs.Ytmpajijnpoekgad
