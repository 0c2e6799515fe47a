/- The marks on a list of texts: texts of the laws' own making. No conditions. -/
import Derived.Test.YtpdnpphjlnlneaaGreatDoorInts
namespace Go.Proofs.YtpdnpphjlnlneaaGreatDoor
open Go.RowKit

/-- An answer that is some short text. -/
def SomeText (w : World) (e : Ending) (w' : World) : Prop := ∃ t : ByteArray, t.size ≤ 4194304 ∧ e = .returned (.string t) ∧ Ext w w'
theorem conv1 (w : World) (x : Int) (h0 : 0 ≤ x) (h1 : x < 256) (g : Nat) (hc : w.cell? ⟨g, 0, none⟩ = some (.int .u8 x)) : (convert 77 9 (.slice (some ⟨g, 0, none⟩) 1 1)).run Tryz.prog w = .ok (.string ⟨#[x.toNat.toUInt8]⟩) w := by
  have hb : ((x.toNat.toUInt8).toNat : Int) = x := by
    obtain ⟨n, rfl⟩ := Int.eq_ofNat_of_zero_le h0
    simp
    omega
  exact run_convert_bytes_back (P := Tryz.prog) w 77 9 5 ⟨g, 0, none⟩ 1 [x.toNat.toUInt8] Tryz.underlying77 Tryz.underlying5 Tryz.underlying9 (fun j hj => by
    have hj0 : j = 0 := by simpa using hj
    subst hj0
    simp only [List.getElem_cons_zero, hb]
    simpa [Addr.add] using hc)

set_option maxRecDepth 100000 in
set_option maxHeartbeats 1000000 in
theorem markT_any (m : Nat) (w : World) (h1 : 1 ≤ m) (h2 : m ≤ 2097152) : Calls Tryz.prog 70 #[.int .i64 m] w (SomeText w) := by
  have hle : decide ((m : Int) ≤ 0) = false := decide_eq_false (by omega)
  go_enter Tryz.func70, Tryz.ntmps70
  go_wp2
  go_loopw [0, 3] (fun q o wr => ∃ (x : Nat) (t : ByteArray), q = .int .i64 x ∧ o = .string t ∧ t.size + x ≤ m ∧ Ext w wr) (fun q _ _ => (intOf q).toNat)
  case atStart => exact ⟨m, ⟨#[]⟩, rfl, rfl, Nat.le_of_eq (by show 0 + m = m; omega), Ext.refl _⟩
  case round =>
    obtain ⟨x, t, rfl, rfl, ht, hx⟩ := hrel
    by_cases hp : 0 < x
    · have W1 : IntKind.u8.wrap (48 + (x : Int) % 10) = 48 + (x : Int) % 10 := IntWalk.u8_in _ (by omega)
      have hconv := conv1 (wr.alloc (.cells #[.int .u8 (48 + (x : Int) % 10)] 5)) (48 + (x : Int) % 10) (by omega) (by omega) wr.heap.size (by simp [go_sem])
      have hts : t.size ≤ 2097152 := by omega
      go_wp2
      go_roundw
      case rel => exact ⟨x / 10, _, by go_num, rfl, by rw [ByteArray.size_append]; show 1 + t.size + x / 10 ≤ m; omega, hx.alloc _⟩
      case measure => simp [intOf]; omega
    · have hts : t.size ≤ 2097152 := by omega
      go_wp2
      go_ret
      exact ⟨_, by rw [ByteArray.size_append]; show 1 + t.size ≤ 4194304; omega, rfl, hx⟩

/-- What marking a list of texts leaves: its own block turned, all else as it was. -/
def MarkedS (v : Value) (n : Nat) (w : World) (e : Ending) (w' : World) : Prop := e = .returned (.int .i64 (1 + (n : Int))) ∧ w.grownBy w' v.ownBlock

set_option maxHeartbeats 1000000 in
theorem markS_any (v : Value) (n cap : Nat) (g B : Nat) (xs : List Value) (w : World) (hv : v = .slice (some ⟨g, 0, none⟩) n cap) (h : w.ownsRow B 9 1 v n xs) (hn : n ≤ 1048576) : Calls Tryz.prog 37 #[v, .int .i64 1] w (MarkedS v n w) := by
  subst hv
  have HV := Lib.hid h
  clear h
  have hgl : g < w.heap.size := by
    rcases HV.out.2 with ⟨h3, _⟩ | ⟨g', c, cur, h3, _, hg, _⟩
    · cases h3
    · cases h3
      rcases Nat.lt_or_ge g w.heap.size with k | k
      · exact k
      · rw [Array.getElem?_eq_none k] at hg; cases hg
  have HG0 := Lib.hid (show w.grownBy w (Value.ownBlock (.slice (some ⟨g, 0, none⟩) n cap)) from ⟨rfl, rfl, rfl, Nat.le_refl _, fun _ _ _ => rfl⟩)
  go_enter Tryz.func37, Tryz.ntmps37
  go_wp2
  go_loopw [1, 5] (fun q i wr => ∃ k : Nat, k ≤ n ∧ i = .int .i64 k ∧ q = .int .i64 (1 + (k : Int)) ∧ ∃ ys : List Value, wr.ownsRow B 9 1 (.slice (some ⟨g, 0, none⟩) n cap) n ys ∧ w.grownBy wr (Value.ownBlock (.slice (some ⟨g, 0, none⟩) n cap))) (fun _ i _ => n - (intOf i).toNat)
  case atStart => exact ⟨0, Nat.zero_le _, rfl, rfl, xs, HV.out, HG0.out⟩
  case round =>
    obtain ⟨k, hk, rfl, rfl, ys, hown, hgr⟩ := hrel
    have HO := Lib.hid hown
    have HG := Lib.hid hgr
    clear hown hgr
    by_cases hlt : k < n
    · have hlen : ys.length = n := by have := HO.out.1; omega
      obtain ⟨u, hu⟩ : ∃ u, ys[k]? = some u := ⟨ys[k]'(by omega), List.getElem?_eq_getElem _⟩
      have HU := Lib.hid hu
      clear hu hlen
      have hcast : (1 + (k : Int)) = ((k + 1 : Nat) : Int) := by omega
      go_wp2_with (go_at_call 70; rw [hcast]; refine (markT_any (k + 1) _ (by omega) (by omega)).mono ?_; rintro e w2 ⟨t, ht, rfl, x2⟩; have hc3 := ((row_ext HO.out x2).cellAt k (by omega)).trans HU.out; have hf3 := (row_ext HO.out x2).frozenAt k)
      have O3 := (row_ext HO.out x2).stored k (.string t)
      go_roundw
      case rel =>
        refine ⟨k + 1, by omega, by go_num, by go_num, ys.set k (.string t), O3.1, ?_⟩
        have h1 := HG.out
        refine ⟨x2.os.trans h1.os, x2.tape.trans h1.tape, x2.output.trans h1.output, ?_, fun i hi hne => ?_⟩
        · have := x2.size
          have := h1.size
          simp
          omega
        · rw [Below.heap_setCell _ _ _ _ (by intro h; exact hne (by rw [h]; rfl))]
          exact (x2.block i (Nat.lt_of_lt_of_le hi h1.size)).trans (h1.block i hi hne)
      case measure => simp [intOf]; omega
    · obtain rfl : k = n := by omega
      go_wp2
      go_ret
      exact ⟨rfl, HG.out⟩

end Go.Proofs.YtpdnpphjlnlneaaGreatDoor
