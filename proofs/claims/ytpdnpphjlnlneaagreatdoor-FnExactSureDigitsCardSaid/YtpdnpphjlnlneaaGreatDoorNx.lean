/- The digits to which a piece goes from one, in order: the model's. No conditions. -/
import Derived.Test.YtpdnpphjlnlneaaGreatDoorGo
namespace Go.Proofs.YtpdnpphjlnlneaaGreatDoor
open Go.RowKit

/-- The digits to which a piece goes, of the first so many. -/
def nxK (p i k : Nat) : List Nat := (List.range k).filter fun j => goB p i j
theorem nxK_zero (p i : Nat) : nxK p i 0 = [] := rfl
theorem nxK_yes {p i k : Nat} (h : goB p i k = true) : nxK p i (k + 1) = nxK p i k ++ [k] := by
  unfold nxK
  rw [List.range_succ, List.filter_append]
  simp [h]
theorem nxK_no {p i k : Nat} (h : goB p i k = false) : nxK p i (k + 1) = nxK p i k := by
  unfold nxK
  rw [List.range_succ, List.filter_append]
  simp [h]
theorem nxK_len (p i k : Nat) : (nxK p i k).length ≤ k := by
  unfold nxK
  exact Nat.le_trans (List.length_filter_le _ _) (by rw [List.length_range]; exact Nat.le_refl _)
theorem nxK_lt {p i k d : Nat} (h : d ∈ nxK p i k) : d < k := List.mem_range.1 (List.mem_filter.1 h).1
def nx (p i : Nat) : List Nat := nxK p i 10
theorem nx_eq (p i : Nat) : nxK p i 10 = nx p i := rfl
theorem nx_len (p i : Nat) : (nx p i).length ≤ 10 := nxK_len p i 10
theorem nx_lt {p i d : Nat} (h : d ∈ nx p i) : d < 10 := nxK_lt h
/-- A text of digits. -/
def dA (ds : List Nat) : List UInt8 := ds.map fun d => (48 + d).toUInt8
def dT (ds : List Nat) : ByteArray := ⟨(dA ds).toArray⟩
theorem dT_nil : dT [] = ⟨#[]⟩ := rfl
theorem dA_snoc (ds : List Nat) (d : Nat) : dA (ds ++ [d]) = dA ds ++ [(48 + d).toUInt8] := by unfold dA; rw [List.map_append]; rfl
theorem dT_snoc (ds : List Nat) (d : Nat) : dT (ds ++ [d]) = dT ds ++ ⟨#[(48 + d).toUInt8]⟩ := by
  apply ByteArray.ext
  rw [ByteArray.data_append]
  unfold dT
  rw [dA_snoc]
  simp
theorem dT_size (ds : List Nat) : (dT ds).size = ds.length := by
  show (dA ds).toArray.size = ds.length
  simp [dA]
theorem encD : ∀ n : Nat, n < 128 → Utf8.encode (n : Int) = ⟨#[n.toUInt8]⟩ := of_decide_eq_true (by kernel_rfl)