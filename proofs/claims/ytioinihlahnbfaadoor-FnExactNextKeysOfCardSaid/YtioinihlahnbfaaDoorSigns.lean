/- The keys of letters, one for each, alike by the program and by its model. No conditions but the table's content. -/
import Derived.Test.YtioinihlahnbfaaDoorSums
import Derived.Laws.IdiomStrings
import Derived.Laws.OwnMore
namespace Go.Proofs.YtioinihlahnbfaaDoor
open Go.RowKit

/-- The keys' digits of letters. -/
def keysL (l : List UInt8) : List UInt8 := l.map fun c => (dg c.toNat).toNat.toUInt8
def keysB (s : ByteArray) : ByteArray := ⟨(keysL s.data.toList).toArray⟩
theorem keysL_len (l : List UInt8) : (keysL l).length = l.length := by simp [keysL]
theorem keysB_size (s : ByteArray) : (keysB s).size = s.size := by
  show (keysL s.data.toList).toArray.size = s.data.size
  simp [keysL]
theorem dgB (c : UInt8) : (((dg c.toNat).toNat.toUInt8).toNat : Int) = dg c.toNat := by
  obtain ⟨h1, h2⟩ := dg_bd c.toNat
  obtain ⟨n, hn⟩ := Int.eq_ofNat_of_zero_le (show 0 ≤ dg c.toNat by omega)
  rw [hn]
  simp
  omega
theorem keysL_get (s : ByteArray) (j : Nat) (h : j < s.size) (h' : j < (keysL s.data.toList).length) : ((keysL s.data.toList)[j].toNat : Int) = dg s[j].toNat := by
  simp only [keysL, List.getElem_map]
  exact dgB _
theorem keysL_snoc (l : List UInt8) (c : UInt8) : keysL (l ++ [c]) = keysL l ++ [(dg c.toNat).toNat.toUInt8] := by simp [keysL]

theorem own_ext {w w' : World} {base : Nat} {e : TypeId} {size : Nat} {v : Value} {n : Nat} {xs : List Value} (h : w.ownsRow base e size v n xs) (hx : Ext w w') : w'.ownsRow base e size v n xs := by
  refine ⟨h.1, ?_⟩
  rcases h.2 with hn | ⟨g, cap, cur, h1, h2, h3, h4⟩
  · exact .inl hn
  · refine .inr ⟨g, cap, cur, h1, h2, ?_, h4⟩
    have hlt : g < w.heap.size := by
      rcases Nat.lt_or_ge g w.heap.size with k | k
      · exact k
      · rw [Array.getElem?_eq_none k] at h3; cases h3
    exact (hx.block _ hlt).trans h3
theorem Ext.grown {a b c : World} {row : Option Nat} (h : Ext a b) (hg : b.grownBy c row) (hr : ∀ k, row = some k → a.heap.size ≤ k) : Ext a c := Below.grown h hg h.size hr

theorem info_u8 : (Tryd.prog.info? 5).map (fun i => (i.zero, i.size, i.bytes)) = some (some (.int .u8 0), 1, 1) := by kernel_rfl

theorem signM (c : Int) (w : World) : Calls Tryd.prog 58 #[.agg #[.int .u8 (dg c), .string (lt (grp c))]] w fun e w' => e = .returned (.int .u8 (dg c)) ∧ Ext w w' := sign_any _ _ _

set_option maxHeartbeats 400000 in
theorem signsOf_any (s : ByteArray) (w : World) (h : isW s = true) (hp : PadIs w) : Calls Tryd.prog 57 #[.string s, .func (.methodOf 72 "loop.example/g01350/impl.sign") #[] #[]] w fun e w' => e = .returned (.string (keysB s)) ∧ Ext w w' := by
  obtain ⟨hz1, hz2⟩ := isW_size h
  have HG := Lib.hid (isW_get h)
  clear h
  obtain ⟨i0, hi, hz0, hzs, hzb⟩ := info_parts info_u8
  have HI := Lib.hid hi
  clear hi
  go_enter Tryd.func57, Tryd.ntmps57
  go_wp2_with (at_make; refine wpList_make_full _ rfl _ _ 46 rfl w.heap.size 5 i0 (.int .u8 0) 1 Tryd.underlying46 HI.out hz0 hzs .i64 .i64 _ _ s.size rfl rfl rfl rfl (by rw [hzb]; omega) (by unfold maxLen; omega) (Nat.le_refl _) ?_; intro w1 hown hgr)
  clear hz0 hzs hzb
  have X1 : Ext w w1 := (Ext.refl w).grown hgr (by intro k hk; cases hk)
  obtain ⟨xs1, hxs1⟩ : ∃ xs, xs = (madeCells (Value.int IntKind.u8 0).cells (s.size * 1)).toList := ⟨_, rfl⟩
  rw [← hxs1] at hown
  clear hxs1 hgr HI
  go_loopw [12] (fun i wr => ∃ k : Nat, k ≤ s.size ∧ i = .int .i64 k ∧ ∃ xs : List Value, wr.ownsRow w.heap.size 5 1 (.slice (some ⟨w.heap.size, 0, none⟩) s.size s.size) s.size xs ∧ (∀ j (hj : j < s.size), j < k → xs[j]? = some (.int .u8 (dg s[j].toNat))) ∧ Ext w wr) (fun i _ => s.size - (intOf i).toNat)
  case atStart => exact ⟨0, Nat.zero_le _, rfl, xs1, hown, fun j _ h => absurd h (by omega), X1⟩
  case round =>
    obtain ⟨k, hk, rfl, xs, hown, hxs, hx⟩ := hrel
    have HO := Lib.hid hown
    have HX := Lib.hid hxs
    clear hown hxs
    by_cases hlt : k < s.size
    · have HL := Lib.hid (HG.out k hlt)
      have hlen : xs.length = s.size := by have := HO.out.1; omega
      obtain ⟨u, hu⟩ : ∃ u, xs[k]? = some u := ⟨xs[k]'(by omega), List.getElem?_eq_getElem _⟩
      have HU := Lib.hid hu
      clear hu hlen
      go_wp2_with (first | (go_at_call 72; refine (padOf_any _ _ (hp.ext hx) HL.out).mono ?_; rintro e w2 ⟨rfl, x1⟩; have HP := Lib.hid (show padV s[k].toNat = _ from rfl)) | (go_at_call 58; refine (signM _ _).mono ?_; rintro e w3 ⟨rfl, x2⟩; have hc3 := ((own_ext (own_ext HO.out x1) x2).cellAt k (by omega)).trans HU.out; have hf3 := (own_ext (own_ext HO.out x1) x2).frozenAt k))
      have O3 := own_ext (own_ext HO.out x1) x2
      go_roundw
      case rel =>
        refine ⟨k + 1, by omega, by go_num, xs.set k (.int .u8 (dg s[k].toNat)), (O3.stored k _).1, ?_, ((hx.trans x1).trans x2).setCell (Nat.le_refl _) _⟩
        intro j hj hjk
        by_cases e : j = k
        · subst e
          rw [List.getElem?_set_self (by have := O3.1; omega)]
        · rw [List.getElem?_set_ne (by omega)]
          exact HX.out j hj (by omega)
      case measure => simp [intOf]; omega
    · have hk' : k = s.size := by omega
      have hconv : (convert 46 9 (.slice (some ⟨w.heap.size, 0, none⟩) s.size s.size)).run Tryd.prog wr = .ok (.string (keysB s)) wr := by
        have h := run_convert_bytes_back (P := Tryd.prog) wr 46 9 5 ⟨w.heap.size, 0, none⟩ s.size (keysL s.data.toList) Tryd.underlying46 Tryd.underlying5 Tryd.underlying9 (fun j hj => by
          have hj' : j < s.size := by simpa [keysL] using hj
          rw [keysL_get s j hj' hj]
          have := (HO.out.cellAt j (by omega)).trans (HX.out j hj' (by omega))
          rw [show (Addr.add ⟨w.heap.size, 0, none⟩ j) = ⟨w.heap.size, j, none⟩ from by cases j <;> simp [Addr.add]]
          exact this)
        rw [keysL_len, show s.data.toList.length = s.size from by simp] at h
        exact h
      clear hk'
      go_wp2
      go_ret
      exact ⟨rfl, hx⟩

theorem enc1 (c : Int) : Utf8.encode (dg c) = ⟨#[(dg c).toNat.toUInt8]⟩ := by
  have h := dg_bd c
  obtain h | h | h | h | h | h | h | h : dg c = 50 ∨ dg c = 51 ∨ dg c = 52 ∨ dg c = 53 ∨ dg c = 54 ∨ dg c = 55 ∨ dg c = 56 ∨ dg c = 57 := by omega
  all_goals (rw [h]; rfl)

def keysTo (s : ByteArray) (k : Nat) : ByteArray := ⟨(keysL (s.data.toList.take k)).toArray⟩
theorem keysTo_succ (s : ByteArray) (k : Nat) (h : k < s.size) : keysTo s k ++ ⟨#[(dg s[k].toNat).toNat.toUInt8]⟩ = keysTo s (k + 1) := by
  apply ByteArray.ext
  rw [ByteArray.data_append]
  show (keysL (s.data.toList.take k)).toArray ++ #[_] = (keysL (s.data.toList.take (k + 1))).toArray
  rw [take_snoc s k h, keysL_snoc]
  simp
theorem keysTo_all (s : ByteArray) (k : Nat) (h : s.size ≤ k) : keysTo s k = keysB s := by unfold keysTo keysB; rw [take_all s k h]
theorem keysTo_size (s : ByteArray) (k : Nat) : (keysTo s k).size ≤ k := by
  show (keysL (s.data.toList.take k)).toArray.size ≤ k
  simp [keysL]
  omega

set_option maxHeartbeats 400000 in
theorem prKeys_any (s : ByteArray) (w : World) (h : isW s = true) : Calls Tryd.prog 31 #[.string s] w fun e w' => e = .returned (.string (keysB s)) ∧ w = w' := by
  obtain ⟨hz1, hz2⟩ := isW_size h
  have HG := Lib.hid (isW_get h)
  clear h
  go_enter Tryd.func31, Tryd.ntmps31
  go_wp2
  go_loop [3, 4] (fun n i => ∃ k : Nat, k ≤ s.size ∧ i = .int .i64 k ∧ n = .string (keysTo s k)) (fun _ i => s.size - (intOf i).toNat)
  case atStart => exact ⟨0, Nat.zero_le _, rfl, rfl⟩
  case round =>
    obtain ⟨k, hk, rfl, rfl⟩ := hrel
    have hb := keysTo_size s k
    by_cases hlt : k < s.size
    · have HL := Lib.hid (HG.out k hlt)
      have HS := Lib.hid (keysTo_succ s k hlt)
      have he := enc1 s[k].toNat
      obtain ⟨hp1, hp2⟩ := dg_bd s[k].toNat
      go_wp2_with (go_at_call 55; refine (prKey_any _ _ HL.out).mono ?_; rintro e w' ⟨rfl, rfl⟩)
      go_round
      case rel => exact ⟨k + 1, by omega, by go_num, by rw [← HS.out]⟩
      case measure => simp [intOf]; omega
    · have HT := Lib.hid (keysTo_all s k (by omega))
      go_wp2
      go_ret
      exact ⟨by rw [← HT.out]; rfl, rfl⟩

end Go.Proofs.YtioinihlahnbfaaDoor
