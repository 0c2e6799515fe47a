/- The keys of letters, one for each, alike by the program and by its model. No conditions but the table's content. -/
import Derived.Test.YtfekamknnmhgpabDoorSums
import Derived.Laws.IdiomStrings
import Derived.Laws.OwnMore
namespace Go.Proofs.YtfekamknnmhgpabDoor
open Go.RowKit

/-- The keys' digits of letters. -/
def keysL (l : List UInt8) : List UInt8 := l.map fun c => (dg c.toNat).toNat.toUInt8
def keysB (s : ByteArray) : ByteArray := ⟨(keysL s.data.toList).toArray⟩
theorem keysL_len (l : List UInt8) : (keysL l).length = l.length := by simp [keysL]
theorem keysB_size (s : ByteArray) : (keysB s).size = s.size := by
  show (keysL s.data.toList).toArray.size = s.data.size
  simp [keysL]
theorem dgB (c : UInt8) : (((dg c.toNat).toNat.toUInt8).toNat : Int) = dg c.toNat := by
  obtain ⟨h1, h2⟩ := dg_bd c.toNat
  obtain ⟨n, hn⟩ := Int.eq_ofNat_of_zero_le (show 0 ≤ dg c.toNat by omega)
  rw [hn]
  simp
  omega
theorem keysL_get (s : ByteArray) (j : Nat) (h : j < s.size) (h' : j < (keysL s.data.toList).length) : ((keysL s.data.toList)[j].toNat : Int) = dg s[j].toNat := by
  simp only [keysL, List.getElem_map]
  exact dgB _
theorem keysL_snoc (l : List UInt8) (c : UInt8) : keysL (l ++ [c]) = keysL l ++ [(dg c.toNat).toNat.toUInt8] := by simp [keysL]

theorem own_ext {w w' : World} {base : Nat} {e : TypeId} {size : Nat} {v : Value} {n : Nat} {xs : List Value} (h : w.ownsRow base e size v n xs) (hx : Ext w w') : w'.ownsRow base e size v n xs := by
  refine ⟨h.1, ?_⟩
  rcases h.2 with hn | ⟨g, cap, cur, h1, h2, h3, h4⟩
  · exact .inl hn
  · refine .inr ⟨g, cap, cur, h1, h2, ?_, h4⟩
    have hlt : g < w.heap.size := by
      rcases Nat.lt_or_ge g w.heap.size with k | k
      · exact k
      · rw [Array.getElem?_eq_none k] at h3; cases h3
    exact (hx.block _ hlt).trans h3
theorem Ext.grown {a b c : World} {row : Option Nat} (h : Ext a b) (hg : b.grownBy c row) (hr : ∀ k, row = some k → a.heap.size ≤ k) : Ext a c := Below.grown h hg h.size hr

theorem info_u8 : (Tryd.prog.info? 5).map (fun i => (i.zero, i.size, i.bytes)) = some (some (.int .u8 0), 1, 1) := by kernel_rfl



def keysTo (s : ByteArray) (k : Nat) : ByteArray := ⟨(keysL (s.data.toList.take k)).toArray⟩
theorem keysTo_succ (s : ByteArray) (k : Nat) (h : k < s.size) : keysTo s k ++ ⟨#[(dg s[k].toNat).toNat.toUInt8]⟩ = keysTo s (k + 1) := by
  apply ByteArray.ext
  rw [ByteArray.data_append]
  show (keysL (s.data.toList.take k)).toArray ++ #[_] = (keysL (s.data.toList.take (k + 1))).toArray
  rw [take_snoc s k h, keysL_snoc]
  simp
theorem keysTo_all (s : ByteArray) (k : Nat) (h : s.size ≤ k) : keysTo s k = keysB s := by unfold keysTo keysB; rw [take_all s k h]
theorem keysTo_size (s : ByteArray) (k : Nat) : (keysTo s k).size ≤ k := by
  show (keysL (s.data.toList.take k)).toArray.size ≤ k
  simp [keysL]
  omega

end Go.Proofs.YtfekamknnmhgpabDoor
