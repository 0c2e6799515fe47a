/- The keys at places, as a text. No conditions. -/
import Derived.Test.YtmpajijnpoekgadBld
namespace Go.Proofs.Ytmpajijnpoekgad
open Go.RowKit

/-- The signs of the keys at places. -/
def kA (ps : List Nat) : List UInt8 := ps.map fun p => padL.getD p 0
def kT (ps : List Nat) : ByteArray := ⟨(kA ps).toArray⟩
theorem kT_nil : kT [] = ⟨#[]⟩ := rfl
theorem kA_len (ps : List Nat) : (kA ps).length = ps.length := by unfold kA; rw [List.length_map]
theorem kT_size (ps : List Nat) : (kT ps).size = ps.length := by
  rw [← kA_len]; rfl
theorem kA_snoc (ps : List Nat) (p : Nat) (h : p < 12) : kA (ps ++ [p]) = kA ps ++ (kB p).data.toList := by
  unfold kA kB
  rw [ext1 ⟨#[49, 50, 51, 52, 53, 54, 55, 56, 57, 42, 48, 35]⟩ p (show p < 12 from h), List.map_append]
  congr 1
  show [padL.getD p 0] = [_]
  rw [List.getD_eq_getElem?_getD, List.getElem?_eq_getElem (show p < padL.length from h)]
  rfl
theorem kT_snoc (ps : List Nat) (p : Nat) (h : p < 12) : kT (ps ++ [p]) = kT ps ++ kB p := by
  apply ByteArray.ext
  rw [ByteArray.data_append]
  unfold kT
  rw [kA_snoc ps p h]
  simp

set_option maxHeartbeats 1000000 in
theorem keysAt_any (v : Value) (ps : List Nat) (w : World) (h : Ps w v ps) (hps : ∀ q ∈ ps, q < 12) (hl : ps.length ≤ 1000) : Calls Try.prog 66 #[v] w fun e w' => e = .returned (.string (kT ps)) ∧ Ext w w' := by
  have H := Lib.hid h
  have HP := Lib.hid hps
  have HF := Lib.hid (Lib.fresh_isBuilder 89 5 w)
  have X0 : Ext w (w.alloc (.cells #[.pointer none, .slice none 0 0] 89)) := Below.alloc (Ext.refl _) (Nat.le_refl _) _
  obtain ⟨a, cap, hv⟩ := h.at
  rw [hv] at H ⊢
  clear hv h hps
  go_enter Try.func66, Try.ntmps66
  go_wp2
  go_loopw [8] (fun i wr => ∃ k : Nat, k ≤ ps.length ∧ i = .int .i64 k ∧ Bld w.heap.size w.heap.size (kA (ps.take k)) wr ∧ Ext w wr) (fun i _ => ps.length - (intOf i).toNat)
  case atStart => exact ⟨0, Nat.zero_le _, rfl, HF.out, X0⟩
  case round =>
    obtain ⟨k, hk, rfl, hb, hx⟩ := hrel
    have HB := Lib.hid hb
    clear hb
    have hsz := hx.size
    by_cases hlt : k < ps.length
    · obtain ⟨b, off, ha, hb, hcell⟩ := (H.out.ext hx).get k hlt
      have hq : ps[k] < 12 := HP.out _ (List.getElem_mem hlt)
      have HS := Lib.hid (show kA (ps.take (k + 1)) = kA (ps.take k) ++ (kB ps[k]).data.toList by
        rw [List.take_succ_eq_append_getElem hlt, kA_snoc _ _ hq])
      have hlen : (kA (ps.take k)).length + (kB ps[k]).size ≤ 1000000 := by
        rw [kA_len, kB_size _ hq, List.length_take]; omega
      subst ha
      clear hb
      go_wp2_with (go_at_call 58; refine (keyAt_any _ _ (by assumption)).mono ?_; rintro e w' ⟨rfl, rfl⟩)
      refine (write_any _ _ _ _ _ HB.out hlen hsz).mono ?_
      rintro e w2 ⟨rfl, h2, x2⟩
      have HB2 := Lib.hid h2
      clear h2
      go_wp2
      go_roundw
      case rel => exact ⟨k + 1, by omega, by go_num, by rw [HS.out]; exact HB2.out, Below.trans hx x2⟩
      case measure => simp [intOf]; omega
    · have HE := Lib.hid (show ps.take k = ps from List.take_of_length_le (by omega))
      go_wp2_with fail
      refine (string_any _ _ _ _ HB.out hsz).mono ?_
      rintro e w2 ⟨rfl, x2⟩
      go_wp2
      go_ret
      exact ⟨by rw [HE.out]; rfl, Below.trans hx x2⟩

/-- Signs joined one after another. -/
theorem kT_take (ps : List Nat) (k : Nat) (h : k < ps.length) (hq : ps[k] < 12) : kT (ps.take (k + 1)) = kT (ps.take k) ++ kB ps[k] := by
  rw [List.take_succ_eq_append_getElem h, kT_snoc _ _ hq]
end Go.Proofs.Ytmpajijnpoekgad
