/- Lists asked by a closure: the library's ContainsFunc at each closure of chapter 8. No conditions. -/
import Derived.Test.YthooedmlnonadaaDoorPlS
import Derived.Test.YthooedmlnonadaaDoorStrs
import Derived.Test.YthooedmlnonadaaDoorOwnS
namespace Go.Proofs.YthooedmlnonadaaDoor
open Go.RowKit

theorem cell1 {w : World} {b : Nat} {T : TypeId} {v : Value} (h : w.heap[b]? = some (.cells #[v] T (0, 0))) : w.cell? ⟨b, 0, none⟩ = some v ∧ w.frozen? ⟨b, 0, none⟩ = false := by
  simp [World.cell?, World.frozen?, h]
theorem Strs.get2 {w : World} {a : Option Addr} {cap : Nat} {ss : List ByteArray} (h : Strs w (.slice a ss.length cap) ss) (k : Nat) (hk : k < ss.length) : ∃ b off, a = some ⟨b, off, none⟩ ∧ w.cell? ⟨b, off + k, none⟩ = some (.string ss[k]) := by
  rcases h.2.2 with ⟨h3, _⟩ | ⟨b, off, cap', h4, _, hc⟩
  · rw [h3] at hk; exact absurd hk (by simp)
  · injection h4 with h5
    exact ⟨b, off, h5, hc k hk⟩
theorem anyTake {p : ByteArray → Bool} (ss : List ByteArray) (k : Nat) (h : k < ss.length) : (ss.take (k + 1)).any p = ((ss.take k).any p || p ss[k]) := by
  rw [List.take_succ_eq_append_getElem h, List.any_append]; simp
theorem anyYes {p : ByteArray → Bool} {ss : List ByteArray} (k : Nat) (h : k < ss.length) (h2 : p ss[k] = true) : ss.any p = true := by
  rw [List.any_eq_true]; exact ⟨ss[k], List.getElem_mem h, h2⟩
def notCode (s : ByteArray) : Bool := !isDg 1 6 s
theorem notCode_any (ss : List ByteArray) : (!ss.any notCode) = ss.all (isDg 1 6) := by
  rw [List.not_any_eq_all_not]
  congr 1
  funext s
  unfold notCode
  simp

theorem clo_cd (s : ByteArray) (_hs : s.size ≤ maxLen) (C : Nat) (w : World) (h : w.heap[C]? = some (.cells #[.func (.func 61) #[] #[]] 27)) : Calls Tryd.prog 75 #[.string s, .pointer (some ⟨C, 0, none⟩)] w fun e w' => e = .returned (.bool (notCode s)) ∧ w = w' := by
  obtain ⟨hc, hf⟩ := cell1 h
  go_enter Tryd.func75, Tryd.ntmps75
  go_wp2_with (go_at_call 61; refine (isCode_any _ _ _hs).mono ?_; rintro e w' ⟨rfl, rfl⟩)
  go_ret
  exact ⟨rfl, rfl⟩
theorem idx_cd (v : Value) (ss : List ByteArray) (C : Nat) (w : World) (h : w.heap[C]? = some (.cells #[.func (.func 61) #[] #[]] 27)) (hs : Strs w v ss) : Calls Tryd.prog 94 #[v, .func (.func 75) #[] #[.pointer (some ⟨C, 0, none⟩)]] w fun e w' => (∃ r : Int, e = .returned (.int .i64 r) ∧ decide (0 ≤ r) = ss.any notCode) ∧ w = w' := by
  have H := Lib.hid hs
  have HM := Lib.hid hs.2.1
  have hl := hs.1
  unfold maxLen at hl
  have HB := Lib.hid (fun s (hz : s.size ≤ maxLen) => clo_cd s hz C w h)
  obtain ⟨q, hq⟩ : ∃ q, q = notCode := ⟨_, rfl⟩
  rw [← hq] at HB ⊢
  clear hq
  obtain ⟨a, cap, hv, _⟩ := hs.at
  rw [hv] at H ⊢
  clear hv hs h
  go_enter Tryd.func94, Tryd.ntmps94
  go_wp2
  go_loop [8] (fun i => ∃ k : Nat, k ≤ ss.length ∧ i = .int .i64 k ∧ (ss.take k).any q = false) (fun i => ss.length - (intOf i).toNat)
  case atStart => exact ⟨0, Nat.zero_le _, rfl, rfl⟩
  case round =>
    obtain ⟨k, hk, rfl, hall⟩ := hrel
    have HA := Lib.hid hall
    clear hall
    by_cases hlt : k < ss.length
    · obtain ⟨b, off, ha, e1⟩ := H.out.get2 k hlt
      have HZ0 := Lib.hid (HB.out ss[k] (HM.out _ (List.getElem_mem hlt)))
      have HT := Lib.hid (anyTake (p := q) ss k hlt)
      have HY := Lib.hid (fun (h : q ss[k] = true) => anyYes (p := q) k hlt h)
      obtain ⟨z, hz⟩ : ∃ z, z = ss[k] := ⟨_, rfl⟩
      rw [← hz] at e1 HT HY HZ0
      clear hz
      subst ha
      cases hb : q z
      · have HN := Lib.hid (show (ss.take (k + 1)).any q = false by rw [HT.out, HA.out, hb]; rfl)
        have HZ := Lib.hid (show Calls Tryd.prog 75 #[.string z, .pointer (some ⟨C, 0, none⟩)] w fun e w' => e = .returned (.bool false) ∧ w = w' from by have := HZ0.out; rw [hb] at this; exact this)
        clear hb
        go_wp2_with (go_at_call 75; refine HZ.out.mono ?_; rintro e w' ⟨rfl, rfl⟩)
        go_round
        case rel => exact ⟨k + 1, by omega, by go_num, HN.out⟩
        case measure => simp [intOf]; omega
      · have HV := Lib.hid (HY.out hb)
        have HZ := Lib.hid (show Calls Tryd.prog 75 #[.string z, .pointer (some ⟨C, 0, none⟩)] w fun e w' => e = .returned (.bool true) ∧ w = w' from by have := HZ0.out; rw [hb] at this; exact this)
        clear hb
        go_wp2_with (go_at_call 75; refine HZ.out.mono ?_; rintro e w' ⟨rfl, rfl⟩)
        go_ret
        exact ⟨⟨_, rfl, by rw [HV.out, decide_eq_true (by omega)]⟩, rfl⟩
    · have HV := Lib.hid (show ss.any q = false by have := HA.out; rw [List.take_of_length_le (by omega)] at this; exact this)
      go_wp2
      go_ret
      exact ⟨⟨_, rfl, by rw [HV.out]; rfl⟩, rfl⟩
theorem contf_cd (v : Value) (ss : List ByteArray) (C : Nat) (w : World) (h : w.heap[C]? = some (.cells #[.func (.func 61) #[] #[]] 27)) (hs : Strs w v ss) : Calls Tryd.prog 74 #[v, .func (.func 75) #[] #[.pointer (some ⟨C, 0, none⟩)]] w fun e w' => e = .returned (.bool (ss.any notCode)) ∧ w = w' := by
  have H := Lib.hid (idx_cd v ss C w h hs)
  clear h hs
  obtain ⟨b, hb⟩ : ∃ b, b = ss.any notCode := ⟨_, rfl⟩
  rw [← hb] at H ⊢
  clear hb
  go_enter Tryd.func74, Tryd.ntmps74
  go_wp2_with fail
  refine H.out.mono ?_
  rintro e w' ⟨⟨r, rfl, hr⟩, rfl⟩
  have HR := Lib.hid hr
  clear hr
  go_wp2_with fail
  go_ret
  exact ⟨ret_bool HR.out, rfl⟩