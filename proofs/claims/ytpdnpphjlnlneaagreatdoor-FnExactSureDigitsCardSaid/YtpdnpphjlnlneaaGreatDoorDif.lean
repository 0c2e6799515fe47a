/- How many different digits there are: by order. No conditions. -/
import Derived.Test.YtpdnpphjlnlneaaGreatDoorTld
import Derived.Test.YtpdnpphjlnlneaaGreatDoorSrt
import Derived.Lib.SlicesCompact
import Derived.Lib.Atoi
namespace Go.Proofs.YtpdnpphjlnlneaaGreatDoor
open Go.RowKit

/-- How many of the ten digits are there. -/
def cntT (ds : List Nat) : Nat := ((List.range 10).filter fun v => ds.contains v).length
theorem cntT_perm {l k : List Nat} (h : l.Perm k) : cntT l = cntT k := by
  unfold cntT
  congr 1
  refine List.filter_congr fun v _ => ?_
  rw [Bool.eq_iff_iff, List.contains_iff_mem, List.contains_iff_mem]
  exact h.mem_iff
theorem dif2 : ∀ a : Nat, a < 10 → ∀ b : Nat, b < 10 → difT [a, b] = cntT [a, b] := of_decide_eq_true (by kernel_rfl)
theorem dif3 : ∀ a : Nat, a < 10 → ∀ b : Nat, b < 10 → ∀ c : Nat, c < 10 → difT [a, b, c] = cntT [a, b, c] := of_decide_eq_true (by kernel_rfl)
theorem cmp2 : ∀ a : Nat, a < 10 → ∀ b : Nat, b < 10 → a ≤ b → (Lib.compact [(a : Int), (b : Int)]).length = cntT [a, b] := of_decide_eq_true (by kernel_rfl)
theorem cmp3 : ∀ a : Nat, a < 10 → ∀ b : Nat, b < 10 → ∀ c : Nat, c < 10 → a ≤ b → b ≤ c → (Lib.compact [(a : Int), (b : Int), (c : Int)]).length = cntT [a, b, c] := of_decide_eq_true (by kernel_rfl)
def ints (ds : List Nat) : List Int := ds.map fun (d : Nat) => (d : Int)
theorem ints_back (l : List Int) (h : ∀ z ∈ l, 0 ≤ z) : ints (l.map Int.toNat) = l := by
  unfold ints
  rw [List.map_map]
  refine (List.map_congr_left fun z hz => ?_).trans (List.map_id _)
  show ((z.toNat : Nat) : Int) = z
  have := h z hz
  omega
theorem compact_dif (ds : List Nat) (hd : ∀ d ∈ ds, d < 10) (hl : ds.length = 2 ∨ ds.length = 3) : (Lib.compact (srtI (ints ds))).length = difT ds := by
  have hp := srtI_perm (ints ds)
  have hs := srtI_le (ints ds)
  have hn : ∀ z ∈ srtI (ints ds), 0 ≤ z := fun z hz => by
    have h2 := hp.mem_iff.1 hz
    obtain ⟨d, _, rfl⟩ := List.mem_map.1 h2
    omega
  have hb := ints_back _ hn
  have hpt : ((srtI (ints ds)).map Int.toNat).Perm ds := by
    have h3 := hp.map Int.toNat
    have h4 : (ints ds).map Int.toNat = ds := by
      unfold ints
      rw [List.map_map]
      refine (List.map_congr_left fun d _ => ?_).trans (List.map_id _)
      show ((d : Int)).toNat = d
      omega
    rw [h4] at h3
    exact h3
  obtain ⟨ts, hts⟩ : ∃ ts, ts = (srtI (ints ds)).map Int.toNat := ⟨_, rfl⟩
  rw [← hts] at hb hpt
  rw [← hb] at hs ⊢
  have hc := cntT_perm hpt
  have ht : ∀ d ∈ ts, d < 10 := fun d h => hd d (hpt.mem_iff.1 h)
  have hlt := hpt.length_eq
  clear hts hb hpt hn hp
  rcases hl with hl | hl
  · have hl2 : ts.length = 2 := by omega
    clear hlt
    match ts, ds, hl2, hl with
    | [a, b], [c, d], _, _ =>
      have h1 := ht a (by simp)
      have h2 := ht b (by simp)
      have h3 := hd c (by simp)
      have h4 := hd d (by simp)
      have h5 : a ≤ b := by unfold ints at hs; simp at hs; omega
      rw [dif2 c h3 d h4, ← hc]
      exact cmp2 a h1 b h2 h5
  · have hl2 : ts.length = 3 := by omega
    clear hlt
    match ts, ds, hl2, hl with
    | [a, b, e], [c, d, f], _, _ =>
      have h1 := ht a (by simp)
      have h2 := ht b (by simp)
      have h6 := ht e (by simp)
      have h3 := hd c (by simp)
      have h4 := hd d (by simp)
      have h7 := hd f (by simp)
      have h5 : a ≤ b ∧ b ≤ e := by unfold ints at hs; simp at hs; omega
      rw [dif3 c h3 d h4 f h7, ← hc]
      exact cmp3 a h1 b h2 e h6 h5.1 h5.2
theorem pcs_ints (ds : List Nat) : pcs ds = (ints ds).map (Value.int .i64) := by
  unfold pcs ints
  rw [List.map_map]
  rfl
theorem ints_len (ds : List Nat) : (ints ds).length = ds.length := by unfold ints; rw [List.length_map]
theorem RowP.rowI {B : Nat} {w : World} {v : Value} {ds : List Nat} (h : RowP B w v ds) : RowI B w v (ints ds) := by
  unfold RowP at h
  unfold RowI
  rw [ints_len, ← pcs_ints]
  exact h

/-- A numeral is read by its digits. -/
def dbs (ds : List Nat) : List UInt8 := ds.map fun d => (48 + d).toUInt8
theorem dbs_dgs {n : ByteArray} (h : isWk n = true) : n.data.toList = dbs (dgs n) := by
  unfold dbs dgs
  rw [List.map_map]
  refine ((List.map_congr_left fun c hc => ?_).trans (List.map_id _)).symm
  obtain ⟨j, hj, rfl⟩ := List.mem_iff_getElem.1 hc
  have hj2 : j < n.size := by simpa using hj
  have hb := isWk_bd h j hj2
  have e : n.data.toList[j] = n[j] := rfl
  show (48 + (n.data.toList[j].toNat - 48)).toUInt8 = n.data.toList[j]
  rw [e, show 48 + (n[j].toNat - 48) = n[j].toNat by omega]
  simp
theorem at2 : ∀ a : Nat, a < 10 → ∀ b : Nat, b < 10 → Lib.atoi (dbs [a, b]) = some ((valT [a, b] : Nat) : Int) := of_decide_eq_true (by kernel_rfl)
theorem at3 : ∀ a : Nat, a < 10 → ∀ b : Nat, b < 10 → ∀ c : Nat, c < 10 → Lib.atoi (dbs [a, b, c]) = some ((valT [a, b, c] : Nat) : Int) := of_decide_eq_true (by kernel_rfl)
theorem atoi_dgs {n : ByteArray} (h : isWk n = true) (hz : n.size = 2 ∨ n.size = 3) : Lib.atoi n.data.toList = some ((valT (dgs n) : Nat) : Int) := by
  rw [dbs_dgs h]
  have hd := dgs_lt h
  have hl : (dgs n).length = 2 ∨ (dgs n).length = 3 := by rw [dgs_len]; exact hz
  obtain ⟨ds, hds⟩ : ∃ ds, ds = dgs n := ⟨_, rfl⟩
  rw [← hds] at hd hl ⊢
  clear hds
  rcases hl with hl | hl
  · match ds, hl with
    | [a, b], _ => exact at2 a (hd a (by simp)) b (hd b (by simp))
  · match ds, hl with
    | [a, b, c], _ => exact at3 a (hd a (by simp)) b (hd b (by simp)) c (hd c (by simp))
end Go.Proofs.YtpdnpphjlnlneaaGreatDoor
