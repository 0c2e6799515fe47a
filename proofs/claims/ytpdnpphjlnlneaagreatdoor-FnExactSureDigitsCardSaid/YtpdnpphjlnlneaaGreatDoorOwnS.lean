/- Lists of texts of a call's own: how they read, the laws' marks on them and the look whether they hold. No conditions. -/
import Derived.Test.YtpdnpphjlnlneaaGreatDoorStrs
import Derived.Laws.IdiomStrings
import Derived.IntWalk
import Derived.Deep.RegionHeld3
namespace Go.Proofs.YtpdnpphjlnlneaaGreatDoor
open Go.RowKit

/-- v is a list of the call's own with these texts. -/
def RowS (B : Nat) (w : World) (v : Value) (ts : List ByteArray) : Prop := w.ownsRow B 9 1 v ts.length (ts.map Value.string)
theorem RowS.ext {B : Nat} {w w' : World} {v : Value} {ts : List ByteArray} (h : RowS B w v ts) (hx : Ext w w') : RowS B w' v ts := row_ext h hx
theorem RowS.nil (B : Nat) (w : World) : RowS B w (.slice none 0 0) [] := World.ownsRow_nil _ _ _ _
theorem RowS.down {B B' : Nat} {w : World} {v : Value} {ts : List ByteArray} (h : RowS B w v ts) (hb : B' ≤ B) : RowS B' w v ts :=
  ⟨h.1, h.2.imp id fun ⟨g, c, cur, a1, a2, a3⟩ => ⟨g, c, cur, a1, Nat.le_trans hb a2, a3⟩⟩
theorem heap_lt {w : World} {g : Nat} {o : Obj} (h : w.heap[g]? = some o) : g < w.heap.size := by
  rcases Nat.lt_or_ge g w.heap.size with k | k
  · exact k
  · rw [Array.getElem?_eq_none k] at h; cases h
theorem RowS.shape {B : Nat} {w : World} {v : Value} {ts : List ByteArray} (h : RowS B w v ts) : ∃ a cap, v = .slice a ts.length cap := by
  rcases h.2 with ⟨rfl, hn⟩ | ⟨g, cap, cur, rfl, _⟩
  · exact ⟨none, 0, by rw [hn]⟩
  · exact ⟨_, _, rfl⟩
theorem RowS.at {B : Nat} {w : World} {a : Option Addr} {cap : Nat} {ts : List ByteArray} (h : RowS B w (.slice a ts.length cap) ts) (j : Nat) (hj : j < ts.length) : ∃ g, a = some ⟨g, 0, none⟩ ∧ B ≤ g ∧ g < w.heap.size ∧ w.cell? ⟨g, j, none⟩ = some (.string ts[j]) ∧ w.frozen? ⟨g, j, none⟩ = false := by
  have hh := h
  rcases h.2 with ⟨_, hn⟩ | ⟨g, cap', cur, e, hb, hg, _⟩
  · omega
  · injection e with e1 e2 e3
    subst e1; subst e3
    refine ⟨g, rfl, hb, heap_lt hg, ?_, World.ownsRow.frozenAt hh j⟩
    have := World.ownsRow.cellAt hh j (by omega)
    rw [this]
    simp [hj]
theorem RowS.own {B : Nat} {w : World} {v : Value} {ts : List ByteArray} (h : RowS B w v ts) : v.ownBlock = none ∨ ∃ g, v.ownBlock = some g ∧ B ≤ g ∧ g < w.heap.size := by
  rcases h.2 with ⟨rfl, hn⟩ | ⟨g, cap, cur, rfl, hb, hg, _⟩
  · exact .inl rfl
  · exact .inr ⟨g, rfl, hb, heap_lt hg⟩
theorem RowS.own_le {B : Nat} {w : World} {v : Value} {ts : List ByteArray} (h : RowS B w v ts) (j : Nat) (hj : v.ownBlock = some j) : B ≤ j := by
  rcases h.own with h0 | ⟨g, h0, h1, _⟩
  · rw [h0] at hj; cases hj
  · rw [h0] at hj; cases hj; exact h1
theorem RowS.kept {B : Nat} {w w' : World} {v : Value} {ts : List ByteArray} {row : Option Nat} (h : RowS B w v ts) (hg : w.grownBy w' row) (hne : v.ownBlock = none ∨ v.ownBlock ≠ row) : RowS B w' v ts := World.ownsRow.kept h hg hne
theorem RowS.apart {B : Nat} {w : World} {v : Value} {ts : List ByteArray} (h : RowS B w v ts) (g : Nat) (hd : g < B ∨ w.heap.size ≤ g) : v.ownBlock = none ∨ v.ownBlock ≠ some g := by
  rcases h.own with h0 | ⟨g', h0, h1, h2⟩
  · exact .inl h0
  · refine .inr ?_
    rw [h0]
    intro e
    injection e with e
    omega
theorem RowS.apart2 {B B2 : Nat} {w w2 : World} {v u : Value} {ts ys : List ByteArray} (h : RowS B w v ts) (h2 : RowS B2 w2 u ys) (hd : w.heap.size ≤ B2) : v.ownBlock = none ∨ v.ownBlock ≠ u.ownBlock := by
  rcases h2.own with h0 | ⟨g', h0, h1, _⟩
  · rw [h0]
    cases hv : v.ownBlock
    · exact .inl rfl
    · exact .inr (by intro e; cases e)
  · rw [h0]
    exact h.apart g' (.inr (Nat.le_trans hd h1))
theorem RowS.strs {B : Nat} {w : World} {v : Value} {ts : List ByteArray} (h : RowS B w v ts) (hl : ts.length ≤ maxLen) (hm : ∀ s ∈ ts, s.size ≤ maxLen) : Strs w v ts := by
  refine ⟨hl, hm, ?_⟩
  obtain ⟨a, cap, rfl⟩ := h.shape
  by_cases h0 : ts = []
  · subst h0
    exact .inl ⟨rfl, a, cap, rfl⟩
  · have hp : 0 < ts.length := List.length_pos_iff.2 h0
    obtain ⟨g, rfl, _, hlt, _⟩ := h.at 0 hp
    refine .inr ⟨g, 0, cap, rfl, hlt, fun j hj => ?_⟩
    obtain ⟨g', e, _, _, hc, _⟩ := h.at j hj
    injection e with e
    injection e with e
    subst e
    rw [Nat.zero_add]
    exact hc

/-- A list is no longer than its room. -/
def CapOk (v : Value) : Prop := ∀ a n cap, v = .slice a n cap → n ≤ cap
theorem own_cap {B : Nat} {w : World} {e : TypeId} {size : Nat} {v : Value} {n : Nat} {xs : List Value} (h : w.ownsRow B e size v n xs) : CapOk v := by
  intro a m cap hv
  rcases h.2 with ⟨h1, _⟩ | ⟨g, c, cur, h1, _, _, h2, _⟩
  · rw [h1] at hv; injection hv with _ h3 _; omega
  · rw [h1] at hv; injection hv with _ h3 h4; omega

/-! ### The marks -/
/-- The last digit of a number. -/
def dgM (x : Nat) : UInt8 := (48 + (x : Int) % 10).toNat.toUInt8
/-- The digits of a number ahead of a text. -/
def mk10 : Nat → ByteArray → ByteArray
  | 0, t => t
  | x + 1, t => mk10 ((x + 1) / 10) ((⟨#[dgM (x + 1)]⟩ : ByteArray) ++ t)
termination_by x => x
decreasing_by omega
theorem mk10_zero (t : ByteArray) : mk10 0 t = t := by rw [mk10]
theorem mk10_step (x : Nat) (t : ByteArray) (h : 0 < x) : mk10 x t = mk10 (x / 10) ((⟨#[dgM x]⟩ : ByteArray) ++ t) := by
  obtain ⟨y, rfl⟩ : ∃ y, x = y + 1 := ⟨x - 1, by omega⟩
  rw [mk10]
def markB (m : Nat) : ByteArray := (⟨#[109]⟩ : ByteArray) ++ mk10 m ⟨#[]⟩
theorem mk10_size : ∀ (n x : Nat), x ≤ n → ∀ t : ByteArray, (mk10 x t).size ≤ t.size + x
  | 0, x, h, t => by obtain rfl : x = 0 := by omega
                     rw [mk10_zero]; omega
  | n + 1, x, h, t => by
    by_cases h0 : x = 0
    · subst h0; rw [mk10_zero]; omega
    · rw [mk10_step x t (by omega)]
      have := mk10_size n (x / 10) (by omega) ((⟨#[dgM x]⟩ : ByteArray) ++ t)
      rw [ByteArray.size_append] at this
      have h1 : (⟨#[dgM x]⟩ : ByteArray).size = 1 := rfl
      omega
theorem markB_size (m : Nat) (h : m ≤ 2097152) : (markB m).size ≤ 4194304 := by
  unfold markB
  rw [ByteArray.size_append]
  have := mk10_size m m (Nat.le_refl _) ⟨#[]⟩
  have h1 : (⟨#[109]⟩ : ByteArray).size = 1 := rfl
  have h2 : (⟨#[]⟩ : ByteArray).size = 0 := rfl
  omega

theorem convM (w : World) (x : Int) (h0 : 0 ≤ x) (h1 : x < 256) (g : Nat) (hc : w.cell? ⟨g, 0, none⟩ = some (.int .u8 x)) : (convert 77 9 (.slice (some ⟨g, 0, none⟩) 1 1)).run Tryz.prog w = .ok (.string ⟨#[x.toNat.toUInt8]⟩) w := by
  have hb : ((x.toNat.toUInt8).toNat : Int) = x := by
    obtain ⟨n, rfl⟩ := Int.eq_ofNat_of_zero_le h0
    simp
    omega
  exact run_convert_bytes_back (P := Tryz.prog) w 77 9 5 ⟨g, 0, none⟩ 1 [x.toNat.toUInt8] Tryz.underlying77 Tryz.underlying5 Tryz.underlying9 (fun j hj => by
    have hj0 : j = 0 := by simpa using hj
    subst hj0
    simp only [List.getElem_cons_zero, hb]
    simpa [Addr.add] using hc)

set_option maxRecDepth 100000 in
set_option maxHeartbeats 1000000 in
theorem markB_any (m : Nat) (w : World) (h1 : 1 ≤ m) (h2 : m ≤ 2097152) : Calls Tryz.prog 70 #[.int .i64 m] w fun e w' => e = .returned (.string (markB m)) ∧ Ext w w' := by
  have hle : decide ((m : Int) ≤ 0) = false := decide_eq_false (by omega)
  go_enter Tryz.func70, Tryz.ntmps70
  go_wp2
  go_loopw [0, 3] (fun q o wr => ∃ (x : Nat) (t : ByteArray), q = .int .i64 x ∧ o = .string t ∧ t.size + x ≤ m ∧ mk10 x t = mk10 m ⟨#[]⟩ ∧ Ext w wr) (fun q _ _ => (intOf q).toNat)
  case atStart => exact ⟨m, ⟨#[]⟩, rfl, rfl, Nat.le_of_eq (by show 0 + m = m; omega), rfl, Ext.refl _⟩
  case round =>
    obtain ⟨x, t, rfl, rfl, ht, hmk, hx⟩ := hrel
    have HM := Lib.hid hmk
    clear hmk
    by_cases hp : 0 < x
    · have W1 : IntKind.u8.wrap (48 + (x : Int) % 10) = 48 + (x : Int) % 10 := IntWalk.u8_in _ (by omega)
      have hconv : (convert 77 9 (.slice (some ⟨wr.heap.size, 0, none⟩) 1 1)).run Tryz.prog (wr.alloc (.cells #[.int .u8 (48 + (x : Int) % 10)] 5)) = .ok (.string ⟨#[dgM x]⟩) (wr.alloc (.cells #[.int .u8 (48 + (x : Int) % 10)] 5)) := convM (wr.alloc (.cells #[.int .u8 (48 + (x : Int) % 10)] 5)) (48 + (x : Int) % 10) (by omega) (by omega) wr.heap.size (by simp [go_sem])
      have hts : t.size ≤ 2097152 := by omega
      have HS := Lib.hid (mk10_step x t hp)
      go_wp2
      go_roundw
      case rel => exact ⟨x / 10, _, by go_num, rfl, by rw [ByteArray.size_append]; show 1 + t.size + x / 10 ≤ m; omega, by rw [← HM.out, HS.out], hx.alloc _⟩
      case measure => simp [intOf]; omega
    · obtain rfl : x = 0 := by omega
      have hts : t.size ≤ 2097152 := by omega
      have HB := Lib.hid (show (⟨#[109]⟩ : ByteArray) ++ t = markB m by unfold markB; rw [← HM.out, mk10_zero])
      go_wp2
      go_ret
      exact ⟨by rw [← HB.out]; rfl, hx⟩

/-- The marks that a list of so many texts gets. -/
def marksB (n : Nat) : List ByteArray := (List.range n).map fun j => markB (j + 1)
theorem marksB_len (n : Nat) : (marksB n).length = n := by simp [marksB]
theorem marksB_at (n j : Nat) (h : j < (marksB n).length) : (marksB n)[j] = markB (j + 1) := by simp [marksB]

theorem heldC {w1 a b : World} {g k : Nat} {x : Value} (h : a.cell? ⟨g, k, none⟩ = some x ∧ g < a.heap.size ∧ Ext w1 a) (hx : Ext a b) : b.cell? ⟨g, k, none⟩ = some x ∧ g < b.heap.size ∧ Ext w1 b :=
  ⟨(hx.cell h.2.1).trans h.1, Nat.lt_of_lt_of_le h.2.1 hx.size, h.2.2.trans hx⟩

set_option maxHeartbeats 1000000 in
theorem heldR_any (v : Value) (n : Nat) (B : Nat) (w : World) (h : RowS B w v (marksB n)) (hn : n ≤ 1048576) : Calls Tryz.prog 38 #[v, .int .i64 1] w fun e w' => e = .returned (.int .i64 (1 + (n : Int))) ∧ Ext w w' := by
  have HV := Lib.hid h
  have HL := Lib.hid (marksB_len n)
  obtain ⟨a, cap, hv⟩ := h.shape
  rw [hv] at HV ⊢
  clear hv h v
  have hlen : (marksB n).length ≤ 1048576 := by rw [HL.out]; exact hn
  obtain ⟨L, hL⟩ : ∃ L, L = (marksB n).length := ⟨_, rfl⟩
  have HLL := Lib.hid hL
  rw [← hL] at hlen ⊢
  clear hL
  go_enter Tryz.func38, Tryz.ntmps38
  go_wp2
  go_loopw [1, 5] (fun q i wr => ∃ k : Nat, k ≤ L ∧ i = .int .i64 k ∧ q = .int .i64 (1 + (k : Int)) ∧ Ext w wr) (fun _ i _ => L - (intOf i).toNat)
  case atStart => exact ⟨0, Nat.zero_le _, rfl, rfl, Ext.refl _⟩
  case round =>
    obtain ⟨k, hk, rfl, rfl, hx⟩ := hrel
    by_cases hlt : k < L
    · have HCa := Lib.hid (show (1 + (k : Int)) = ((k + 1 : Nat) : Int) by omega)
      obtain ⟨g, ha, _, hgl, e1, _⟩ := (HV.out.ext hx).at k (by rw [← HLL.out]; exact hlt)
      rw [marksB_at] at e1
      rw [ha]
      clear ha
      have SN := Lib.hid (show wr.drew.cell? ⟨g, k, none⟩ = some (.string (markB (k + 1))) ∧ g < wr.drew.heap.size ∧ Ext wr wr.drew from ⟨e1, hgl, (Ext.refl _).drew⟩)
      clear e1 hgl
      have t1 : ((markB (k + 1)).toList == (markB (k + 1)).toList) = true := beq_self_eq_true _
      go_wp2
      go_region_held3 (fun w' => w'.cell? ⟨g, k, none⟩ = some (.string (markB (k + 1))) ∧ g < w'.heap.size ∧ Ext wr w') (first | exact SN.out | (refine heldC ?_ x2; assumption)) (first | (go_at_call 70; rw [HCa.out]; refine (markB_any (k + 1) _ (by omega) (by omega)).mono ?_; rintro e w2 ⟨rfl, x2⟩))
      all_goals (rename_i hHeld)
      all_goals (have hE := hx.trans hHeld.2.2; clear hHeld)
      all_goals go_wp2
      all_goals go_roundw
      all_goals first | exact ⟨k + 1, by omega, by go_num, by go_num, hE⟩ | (simp [intOf]; omega)
    · have hkn : k = n := by have := HLL.out; have := HL.out; omega
      have HK := Lib.hid hkn
      clear hkn
      go_wp2
      go_ret
      exact ⟨by rw [HK.out]; rfl, hx⟩

/-- What marking a list of texts leaves: the marks in its own block, all else as it was. -/
def MarkedR (B : Nat) (v : Value) (n : Nat) (w : World) (e : Ending) (w' : World) : Prop := e = .returned (.int .i64 (1 + (n : Int))) ∧ RowS B w' v (marksB n) ∧ w.grownBy w' v.ownBlock

set_option maxHeartbeats 1000000 in
theorem markR_any (v : Value) (ts : List ByteArray) (B : Nat) (w : World) (h : RowS B w v ts) (hn : ts.length ≤ 1048576) : Calls Tryz.prog 37 #[v, .int .i64 1] w (MarkedR B v ts.length w) := by
  have HV := Lib.hid h
  obtain ⟨a, cap, hv⟩ := h.shape
  rw [hv] at HV ⊢
  clear hv h v
  obtain ⟨L, hL⟩ : ∃ L, L = ts.length := ⟨_, rfl⟩
  have HLL := Lib.hid hL
  rw [← hL] at hn ⊢
  clear hL
  have HG0 := Lib.hid (show w.grownBy w (Value.ownBlock (.slice a L cap)) from ⟨rfl, rfl, rfl, Nat.le_refl _, fun _ _ _ => rfl⟩)
  go_enter Tryz.func37, Tryz.ntmps37
  go_wp2
  go_loopw [1, 5] (fun q i wr => ∃ k : Nat, k ≤ L ∧ i = .int .i64 k ∧ q = .int .i64 (1 + (k : Int)) ∧ ∃ ys : List ByteArray, ys.length = L ∧ wr.ownsRow B 9 1 (.slice a L cap) L (ys.map Value.string) ∧ (∀ j (hj : j < ys.length), j < k → ys[j] = markB (j + 1)) ∧ w.grownBy wr (Value.ownBlock (.slice a L cap))) (fun _ i _ => L - (intOf i).toNat)
  case atStart => exact ⟨0, Nat.zero_le _, rfl, rfl, ts, HLL.out.symm, HLL.out ▸ HV.out, fun j _ h => absurd h (by omega), HG0.out⟩
  case round =>
    obtain ⟨k, hk, rfl, rfl, ys, hys, hown, hxs, hgr⟩ := hrel
    have HO := Lib.hid hown
    have HX := Lib.hid hxs
    have HG := Lib.hid hgr
    have HY := Lib.hid hys
    clear hown hxs hgr hys
    by_cases hlt : k < L
    · rcases HO.out.2 with ⟨_, hn0⟩ | ⟨g, cap', cur, e, hb, hg, _⟩
      · omega
      injection e with e1 e2 e3
      have hO2 : wr.ownsRow B 9 1 (.slice (some ⟨g, 0, none⟩) L cap) L (ys.map Value.string) := e1 ▸ HO.out
      have HO2 := Lib.hid hO2
      have HC := Lib.hid (show (ys.map Value.string)[k]? = some (.string (ys[k]'(by rw [HY.out]; exact hlt))) by simp [HY.out, hlt])
      have E1 := Lib.hid e1
      rw [e1]
      have HCa := Lib.hid (show (1 + (k : Int)) = ((k + 1 : Nat) : Int) by omega)
      clear hO2 hb hg e1 e3
      go_wp2_with (go_at_call 70; rw [HCa.out]; refine (markB_any (k + 1) _ (by omega) (by omega)).mono ?_; rintro e w2 ⟨rfl, x2⟩; have hc3 := ((row_ext HO2.out x2).cellAt k (by omega)).trans HC.out; have hf3 := (row_ext HO2.out x2).frozenAt k)
      have O3 := (row_ext HO2.out x2).stored k (.string (markB (k + 1)))
      go_roundw
      case rel =>
        refine ⟨k + 1, by omega, by go_num, by go_num, ys.set k (markB (k + 1)), by rw [List.length_set]; exact HY.out, ?_, ?_, ?_⟩
        · rw [List.map_set]
          exact O3.1
        · intro j hj hjk
          by_cases e : j = k
          · subst e; simp
          · rw [List.getElem_set_ne (by omega)]
            exact HX.out j (by simpa using hj) (by omega)
        · have h1 := HG.out
          rw [E1.out] at h1
          refine ⟨x2.os.trans h1.os, x2.tape.trans h1.tape, x2.output.trans h1.output, ?_, fun i hi hne => ?_⟩
          · have := x2.size
            have := h1.size
            simp
            omega
          · rw [Below.heap_setCell _ _ _ _ (by intro h; exact hne (by rw [h]; rfl))]
            exact (x2.block i (Nat.lt_of_lt_of_le hi h1.size)).trans (h1.block i hi hne)
      case measure => simp [intOf]; omega
    · obtain rfl : k = L := by omega
      have hys : ys = marksB k := by
        apply List.ext_getElem
        · rw [marksB_len]; exact HY.out
        · intro j h1 h2
          rw [marksB_at]; exact HX.out j h1 (by have := HY.out; omega)
      have HR := Lib.hid (show RowS B wr (.slice a k cap) (marksB k) from by unfold RowS; rw [marksB_len, ← hys]; exact HO.out)
      clear hys
      go_wp2
      go_ret
      exact ⟨rfl, HR.out, HG.out⟩

end Go.Proofs.YtpdnpphjlnlneaaGreatDoor
