/- The places of single keys and their distances: the program's and the model's alike. No conditions. -/
import Derived.Test.YtbldbopmpflpcaaDial
import Derived.Lib.MinMax
import Derived.Deep.QuietTactic
import Derived.BigQuiet
import Derived.Deep.RegionWith
namespace Go.Proofs.Ytbldbopmpflpcaa
open Go.RowKit

theorem ext1 (s : ByteArray) (k : Nat) (h : k < s.size) : s.extract k (k + 1) = ⟨#[s[k]]⟩ := by
  apply ByteArray.ext
  rw [ByteArray.data_extract]
  apply Array.ext
  · rw [Array.size_extract]
    have : s.data.size = s.size := rfl
    simp only [List.size_toArray, List.length_cons, List.length_nil]
    omega
  · intro i h1 h2
    have h3 : i = 0 := by simp only [List.size_toArray, List.length_cons, List.length_nil] at h2; omega
    subst h3
    rw [Array.getElem_extract]
    rfl
theorem one_eq {s : ByteArray} (h : s.size = 1) : s = ⟨#[s[0]'(by omega)]⟩ := by
  rw [← ext1 s 0 (by omega)]
  apply ByteArray.ext
  rw [ByteArray.data_extract]
  apply Array.ext
  · rw [Array.size_extract]
    have : s.data.size = s.size := rfl
    omega
  · intro i h1 h2
    rw [Array.getElem_extract]
    simp

theorem ixS (s : ByteArray) (k : Nat) (hk : k < s.size) (w : World) : (Instr.index 9 (.string s) (.int .i64 (k : Int))).run Try.prog w = .ok (.int .u8 s[k].toNat) w := by
  have h1 : (0 : Int) ≤ (k : Int) := by omega
  have h2 : (k : Int) < (s.size : Int) := by omega
  simp [go_sem, hk]
theorem ixS0 (s : ByteArray) (hk : 0 < s.size) (w : World) : (Instr.index 9 (.string s) (.int .i64 0)).run Try.prog w = .ok (.int .u8 (s[0]'hk).toNat) w := ixS s 0 hk w

theorem p1_get {s : ByteArray} (h : oneD s = true) : pn (s[0]'(by have := oneD_size h; omega)) = p1 s := (p1_at _).symm
end Go.Proofs.Ytbldbopmpflpcaa
