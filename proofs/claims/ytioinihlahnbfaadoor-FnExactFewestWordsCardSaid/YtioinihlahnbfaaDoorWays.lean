/- How many splits keys have, from each place on: the model's table. No conditions. -/
import Derived.Test.YtioinihlahnbfaaDoorSplits
import Derived.Deep.QuietTactic
import Derived.BigQuiet
namespace Go.Proofs.YtioinihlahnbfaaDoor
open Go.RowKit

/-! ### The sum by words is the sum by places -/
theorem psum_add (f g : Nat → Int) : ∀ k, psum (fun l => f l + g l) k = psum f k + psum g k
  | 0 => rfl
  | k + 1 => by simp only [psum, psum_add f g k]; omega
theorem psum_zero (f : Nat → Int) : ∀ k, (∀ l, l < k → f l = 0) → psum f k = 0
  | 0, _ => rfl
  | k + 1, h => by rw [psum, psum_zero f k (fun l hl => h l (by omega)), h k (by omega)]; rfl
theorem psum_one (f : Nat → Int) (a : Nat) : ∀ k, (∀ l, l < k → l ≠ a → f l = 0) → psum f k = if a < k then f a else 0
  | 0, _ => rfl
  | k + 1, h => by
    rw [psum]
    by_cases e : a = k
    · subst e
      rw [psum_zero f a (fun l hl => h l (by omega) (by omega)), if_pos (by omega)]
      omega
    · rw [psum_one f a k (fun l hl hne => h l (by omega) hne), h k (by omega) (fun e2 => e e2.symm)]
      by_cases h2 : a < k
      · rw [if_pos h2, if_pos (by omega)]; omega
      · rw [if_neg h2, if_neg (by omega)]; rfl
/-- What a word adds at a place. -/
def term (q : ByteArray) (T : Nat → Int) (i : Nat) (s : ByteArray) : Int := if i + s.size ≤ q.size ∧ keysB s = q.extract i (i + s.size) then T (i + s.size) else 0
def tsum (q : ByteArray) (T : Nat → Int) (i : Nat) : List ByteArray → Int
  | [] => 0
  | s :: l => term q T i s + tsum q T i l
theorem tsum_snoc (q : ByteArray) (T : Nat → Int) (i : Nat) (s : ByteArray) : ∀ l, tsum q T i (l ++ [s]) = tsum q T i l + term q T i s
  | [] => by simp [tsum]
  | a :: l => by rw [List.cons_append, tsum, tsum, tsum_snoc q T i s l]; omega
theorem tsum_eq (q : ByteArray) (T : Nat → Int) (i : Nat) (hi : i ≤ q.size) : ∀ ss : List ByteArray, (∀ s ∈ ss, 1 ≤ s.size) → psum (fun l => mm ss q i (i + l + 1) * T (i + l + 1)) (q.size - i) = tsum q T i ss
  | [], _ => by
    refine psum_zero _ _ fun l _ => ?_
    unfold mm fors
    simp
  | s :: ss, h => by
    have ih := tsum_eq q T i hi ss (fun t ht => h t (List.mem_cons_of_mem _ ht))
    have h1 := h s (by simp)
    have e1 : ∀ l, mm (s :: ss) q i (i + l + 1) * T (i + l + 1) = (if keysB s = q.extract i (i + l + 1) then T (i + l + 1) else 0) + mm ss q i (i + l + 1) * T (i + l + 1) := by
      intro l
      unfold mm fors
      by_cases hk : keysB s = q.extract i (i + l + 1)
      · rw [List.filter_cons_of_pos (by simp [hk]), if_pos hk, List.length_cons]
        rw [Int.natCast_add, Int.add_mul]
        simp only [Int.natCast_one, Int.one_mul]
        omega
      · rw [List.filter_cons_of_neg (by simp [hk]), if_neg hk]
        omega
    rw [psum_congr _ (fun l _ => e1 l), psum_add, ih, tsum]
    congr 1
    rw [psum_one _ (s.size - 1)]
    · unfold term
      by_cases hle : i + s.size ≤ q.size
      · rw [if_pos (by omega), show i + (s.size - 1) + 1 = i + s.size by omega]
        by_cases hk : keysB s = q.extract i (i + s.size)
        · rw [if_pos hk, if_pos ⟨hle, hk⟩]
        · rw [if_neg hk, if_neg (fun h => hk h.2)]
      · rw [if_neg (by omega), if_neg (fun h => hle h.1)]
    · intro l hl hne
      rw [if_neg]
      intro hk
      have h2 := congrArg ByteArray.size hk
      rw [keysB_size, ByteArray.size_extract] at h2
      omega
theorem tq_words (ss : List ByteArray) (q : ByteArray) (i : Nat) (hi : i < q.size) (h : ∀ s ∈ ss, 1 ≤ s.size) : tq ss q i = w64 (tsum q (tq ss q) i ss) := by
  rw [tq_step ss q i hi, tsum_eq q (tq ss q) i (by omega) ss h]

/-! ### The model's table -/
def tabN (t : Nat → Int) (N : Nat) : List Value := (List.range N).map fun j => .int .i64 (t j)
theorem tabN_len (t : Nat → Int) (N : Nat) : (tabN t N).length = N := by simp [tabN]
theorem tabN_at (t : Nat → Int) (N j : Nat) (h : j < N) : (tabN t N)[j]? = some (.int .i64 (t j)) := by
  unfold tabN
  rw [List.getElem?_map, List.getElem?_range h]
  rfl
theorem tabN_set (t : Nat → Int) (N i : Nat) (x : Int) : (tabN t N).set i (.int .i64 x) = tabN (fun j => if j = i then x else t j) N := by
  apply List.ext_getElem?
  intro j
  by_cases hj : j < N
  · by_cases e : j = i
    · subst e
      rw [List.getElem?_set_self (by rw [tabN_len]; exact hj), tabN_at _ _ _ hj]
      simp
    · rw [List.getElem?_set_ne (fun h => e h.symm), tabN_at _ _ _ hj, tabN_at _ _ _ hj, if_neg e]
  · rw [List.getElem?_eq_none (by rw [List.length_set, tabN_len]; omega), List.getElem?_eq_none (by rw [tabN_len]; omega)]
theorem tabN_congr {t t' : Nat → Int} {N : Nat} (h : ∀ j, j < N → t j = t' j) : tabN t N = tabN t' N := by
  unfold tabN
  apply List.map_congr_left
  intro j hj
  rw [h j (List.mem_range.1 hj)]
/-- A list of so many numbers in a block of the call's own. -/
def RowN (B : Nat) (w : World) (g N : Nat) (t : Nat → Int) : Prop := w.ownsRow B 3 1 (.slice (some ⟨g, 0, none⟩) N N) N (tabN t N)
theorem RowN.ext {B : Nat} {w w' : World} {g N : Nat} {t : Nat → Int} (h : RowN B w g N t) (hx : Ext w w') : RowN B w' g N t := row_ext h hx
theorem RowN.at {B : Nat} {w : World} {g N : Nat} {t : Nat → Int} (h : RowN B w g N t) (j : Nat) (hj : j < N) : w.cell? ⟨g, j, none⟩ = some (.int .i64 (t j)) := (World.ownsRow.cellAt h j (by omega)).trans (tabN_at t N j hj)
theorem RowN.fr {B : Nat} {w : World} {g N : Nat} {t : Nat → Int} (h : RowN B w g N t) (j : Nat) : w.frozen? ⟨g, j, none⟩ = false := World.ownsRow.frozenAt h j
theorem RowN.set {B : Nat} {w : World} {g N : Nat} {t : Nat → Int} (h : RowN B w g N t) (i : Nat) (x : Int) : RowN B (w.setCell ⟨g, i, none⟩ (.int .i64 x)) g N (fun j => if j = i then x else t j) := by
  have := (World.ownsRow.stored h i (.int .i64 x)).1
  rw [tabN_set] at this
  exact this
theorem RowN.other {B : Nat} {w : World} {g N : Nat} {t : Nat → Int} (h : RowN B w g N t) {g' i : Nat} (hne : ¬ g = g') (x : Value) : RowN B (w.setCell ⟨g', i, none⟩ x) g N t := by
  refine ⟨h.1, h.2.imp id fun ⟨a, c, cur, h1, h2, h3, h4⟩ => ⟨a, c, cur, h1, h2, ?_, h4⟩⟩
  injection h1 with h1
  injection h1 with h1
  injection h1 with h1
  rw [heap_setCell_other w _ _ _ (by show ¬ a = g'; rw [← h1]; exact hne)]
  exact h3
theorem RowN.congr {B : Nat} {w : World} {g N : Nat} {t t' : Nat → Int} (h : RowN B w g N t) (he : ∀ j, j < N → t j = t' j) : RowN B w g N t' := by unfold RowN; rw [← tabN_congr he]; exact h
theorem RowN.lt {B : Nat} {w : World} {g N : Nat} {t : Nat → Int} (h : RowN B w g N t) : B ≤ g ∧ g < w.heap.size := World.ownsRow.lt h g rfl
/-- Some numbers. -/
theorem RowN.some {B : Nat} {w : World} {g N : Nat} {xs : List Value} (h : w.ownsRow B 3 1 (.slice (some ⟨g, 0, none⟩) N N) N xs) (hz : xs = (madeCells (Value.int .i64 0).cells (N * 1)).toList) : RowN B w g N (fun _ => 0) := by
  have e : xs = tabN (fun _ => 0) N := by
    rw [hz, Nat.mul_one]
    apply List.ext_getElem?
    intro j
    by_cases hj : j < N
    · rw [tabN_at _ _ _ hj]
      simp [madeCells, Value.cells, hj, Nat.mod_one]
    · rw [List.getElem?_eq_none (by simp [madeCells]; omega), List.getElem?_eq_none (by rw [tabN_len]; omega)]
  unfold RowN
  rw [← e]
  exact h
/-- The model's table while the words are gone through at a place. -/
def tWord (ss : List ByteArray) (q : ByteArray) (k m : Nat) (j : Nat) : Int := if j = k then w64 (tsum q (tq ss q) k (ss.take m)) else if k < j ∧ j ≤ q.size then tq ss q j else 0
theorem tWord_start (ss : List ByteArray) (q : ByteArray) (k : Nat) (j : Nat) : tFrom ss q (k + 1) j = tWord ss q k 0 j := by
  unfold tFrom tWord
  by_cases e : j = k
  · subst e
    rw [if_neg (by omega), if_pos rfl]
    exact w64_zero.symm
  · rw [if_neg e]
    by_cases h : k + 1 ≤ j ∧ j ≤ q.size
    · rw [if_pos h, if_pos (by omega)]
    · rw [if_neg h, if_neg (by omega)]
theorem tWord_next (ss : List ByteArray) (q : ByteArray) (k m : Nat) (h : m < ss.length) : ∀ j, tWord ss q k (m + 1) j = if j = k then w64 (tWord ss q k m k + term q (tq ss q) k ss[m]) else tWord ss q k m j := by
  intro j
  unfold tWord
  by_cases e : j = k
  · rw [if_pos e, if_pos e, if_pos rfl, takeS ss m h, tsum_snoc]
    unfold w64
    simp only [IntKind.wrap_i64]
    omega
  · rw [if_neg e, if_neg e, if_neg e]
theorem tWord_same (ss : List ByteArray) (q : ByteArray) (k m : Nat) (h : m < ss.length) (hz : term q (tq ss q) k ss[m] = 0) : ∀ j, tWord ss q k m j = tWord ss q k (m + 1) j := by
  intro j
  rw [tWord_next ss q k m h j, hz]
  by_cases e : j = k
  · subst e
    rw [if_pos rfl, Int.add_zero]
    unfold tWord w64
    rw [if_pos rfl]
    simp only [IntKind.wrap_i64]
    omega
  · rw [if_neg e]
theorem tWord_end (ss : List ByteArray) (q : ByteArray) (k m : Nat) (hk : k < q.size) (h : ∀ s ∈ ss, 1 ≤ s.size) (hm : m = ss.length) (j : Nat) : tWord ss q k m j = tFrom ss q k j := by
  unfold tFrom tWord
  subst hm
  by_cases e : j = k
  · subst e
    rw [if_pos rfl, if_pos (by omega), tq_words ss q j hk h, List.take_length]
  · rw [if_neg e]
    by_cases h2 : k < j ∧ j ≤ q.size
    · rw [if_pos h2, if_pos (by omega)]
    · rw [if_neg h2, if_neg (by omega)]
theorem info_intW : (Tryd.prog.info? 3).map (fun i => (i.zero, i.size, i.bytes)) = some (some (.int .i64 0), 1, 8) := by kernel_rfl
/-- The two lists that the model's table comes in. -/
def Tabs (ss : List ByteArray) (q : ByteArray) (w : World) (e : Ending) (w' : World) : Prop := ∃ g1 g2 t2, e = .returned (.tuple #[.slice (some ⟨g1, 0, none⟩) (q.size + 1) (q.size + 1), .slice (some ⟨g2, 0, none⟩) (q.size + 1) (q.size + 1)]) ∧ RowN w.heap.size w' g1 (q.size + 1) (tFrom ss q 0) ∧ RowN w.heap.size w' g2 (q.size + 1) t2 ∧ Ext w w'

set_option maxRecDepth 100000 in
set_option maxHeartbeats 8000000 in
theorem wdTables_any (v : Value) (ss : List ByteArray) (q : ByteArray) (w : World) (h : Strs w v ss) (hd : dicB ss = true) (hq : q.size ≤ 20) : Calls Tryd.prog 45 #[v, .string q] w (Tabs ss q w) := by
  have HS := Lib.hid h
  obtain ⟨hl1, hl2⟩ := dicB_len hd
  have HD := Lib.hid hd
  obtain ⟨a, cap, hv, hnil⟩ := h.at
  rw [hv] at HS ⊢
  clear hv hnil h v hd
  obtain ⟨i0, hi, hz0, hzs, hzb⟩ := info_parts info_intW
  have HI := Lib.hid (show Tryd.prog.info? 3 = some i0 ∧ i0.zero = some (.int .i64 0) ∧ i0.size = 1 ∧ i0.bytes = 8 from ⟨hi, hz0, hzs, hzb⟩)
  clear hi hz0 hzs hzb
  obtain ⟨N, hN⟩ : ∃ N, N = q.size + 1 := ⟨_, rfl⟩
  have HN := Lib.hid hN
  have hNI : (q.size : Int) + 1 = (N : Int) := by omega
  have hN21 : N ≤ 21 := by omega
  clear hN
  go_enter Tryd.func45, Tryd.ntmps45
  go_upto_region 2 with (at_make; refine wpList_make_full _ rfl _ _ 50 rfl w.heap.size 3 i0 (.int .i64 0) 1 Tryd.underlying50 HI.out.1 HI.out.2.1 HI.out.2.2.1 .i64 .i64 _ _ N rfl rfl rfl rfl (by rw [HI.out.2.2.2]; omega) (by unfold maxLen; omega) (Nat.le_refl _) ?_; intro w1 hown1 hgr1)
  have X1 : Ext w w1 := ext_grown (Ext.refl w) hgr1 (by intro k hk; cases hk)
  have HO1 := Lib.hid hown1
  have hg1 : w.heap.size < w1.heap.size := (World.ownsRow.lt hown1 w.heap.size rfl).2
  clear hown1 hgr1
  go_upto_region 3 with (at_make; refine wpList_make_full _ rfl _ _ 50 rfl w.heap.size 3 i0 (.int .i64 0) 1 Tryd.underlying50 HI.out.1 HI.out.2.1 HI.out.2.2.1 .i64 .i64 _ _ N rfl rfl rfl rfl (by rw [HI.out.2.2.2]; omega) (by unfold maxLen; omega) X1.size ?_; intro w2 hown2 hgr2)
  have X12 : Ext w1 w2 := ext_grown (Ext.refl w1) hgr2 (by intro k hk; cases hk)
  have X2 : Ext w w2 := X1.trans X12
  have hR1 : RowN w.heap.size w2 w.heap.size N (fun _ => 0) := (RowN.some HO1.out rfl).ext X12
  have hR2 : RowN w.heap.size w2 w1.heap.size N (fun _ => 0) := RowN.some hown2 rfl
  have c0 := hR1.at q.size (by omega)
  have f0 := hR1.fr q.size
  have hqN : q.size < N := by omega
  have hqi : (q.size : Int) < (N : Int) := by omega
  have R1 := Lib.hid hR1
  have R2 := Lib.hid hR2
  have hg21 : ¬ w.heap.size = w1.heap.size := by omega
  clear hR1 hR2 hown2 hgr2
  go_wp2
  go_loopw [8] (fun f wr => ∃ i : Nat, i ≤ q.size ∧ f = .int .i64 ((i : Int) - 1) ∧ RowN w.heap.size wr w.heap.size N (tFrom ss q i) ∧ (∃ t2, RowN w.heap.size wr w1.heap.size N t2) ∧ Ext w wr) (fun f _ => (intOf f + 1).toNat)
  case atStart =>
    refine ⟨q.size, Nat.le_refl _, rfl, (R1.out.set q.size 1).congr fun j hj => ?_, ⟨_, R2.out.other (fun e => hg21 e.symm) _⟩, X2.setCell (Nat.le_refl _) _⟩
    unfold tFrom
    by_cases e : j = q.size
    · subst e
      rw [if_pos rfl, if_pos (by omega), tq_end]
    · rw [if_neg e, if_neg (by omega)]
  case round =>
    obtain ⟨i, hi, rfl, hT, ⟨t2, hF⟩, hx⟩ := hrel
    have HT := Lib.hid hT
    have HF := Lib.hid hF
    clear hT
    by_cases h0 : i = 0
    · subst h0
      go_wp2
      go_ret2
      exact ⟨w.heap.size, w1.heap.size, t2, by rw [HN.out]; rfl, by rw [← HN.out]; exact HT.out, by rw [← HN.out]; exact HF.out, hx⟩
    obtain ⟨k, rfl⟩ : ∃ k, i = k + 1 := ⟨i - 1, by omega⟩
    have hfk : (((k + 1 : Nat) : Int) - 1) = (k : Int) := by omega
    rw [hfk]
    clear hfk h0
    have hkN : k < N := by omega
    have hki : (k : Int) < (N : Int) := by omega
    have d0 := hF.at k hkN
    have d1 := hF.fr k
    clear hF
    go_wp2
    go_loopw [36] (fun i wx => ∃ m : Nat, m ≤ ss.length ∧ i = .int .i64 m ∧ RowN w.heap.size wx w.heap.size N (tWord ss q k m) ∧ (∃ t3, RowN w.heap.size wx w1.heap.size N t3) ∧ Ext w wx) (fun i _ => ss.length - (intOf i).toNat)
    case atStart =>
      exact ⟨0, Nat.zero_le _, rfl, (HT.out.other hg21 _).congr (fun j _ => tWord_start ss q k j), ⟨_, HF.out.set k (-1)⟩, hx.setCell X1.size _⟩
    case round =>
      obtain ⟨m, hm, rfl, hT2, ⟨t3, hF2⟩, hx2⟩ := hrel
      have HT2 := Lib.hid hT2
      have HF2 := Lib.hid hF2
      by_cases hlt : m < ss.length
      · rcases (HS.out.ext hx2).2.2 with ⟨h3, _⟩ | ⟨b, off, cap', h4, hb, hc⟩
        · rw [h3] at hlt; exact absurd hlt (by simp)
        have ha : a = some ⟨b, off, none⟩ := by injection h4
        have e1 := hc m hlt
        have HW := Lib.hid (wdW_isW (dicB_at HD.out m hlt))
        obtain ⟨hz1, hz2⟩ := isW_size HW.out
        have hz10 := wdW_size (dicB_at HD.out m hlt)
        have HNX := Lib.hid (tWord_next ss q k m hlt)
        obtain ⟨p, hp⟩ : ∃ p, p = keysB ss[m] := ⟨_, rfl⟩
        have HQ := Lib.hid hp
        clear hp
        rw [ha]
        clear hc h4 ha hb hT2 hF2
        by_cases hE1 : q.size < k + ss[m].size
        · have HZ := Lib.hid (show term q (tq ss q) k ss[m] = 0 by unfold term; rw [if_neg (by omega)])
          have hE1i : (q.size : Int) < (k : Int) + (ss[m].size : Int) := by omega
          go_wp2
          go_quiet (first | (exact Calls.quiet_of_same ((prKeys_any _ _ HW.out).mono fun e w' h => ⟨(h.1.trans (by rw [← HQ.out]) : e = Ending.returned (.string p)), h.2.symm⟩)))
          go_wp2
          go_roundw
          case rel => exact ⟨m + 1, by omega, by go_num, (HT2.out.congr (fun j _ => tWord_same ss q k m hlt HZ.out j)).ext (ext_drewN (Ext.refl _) _), ⟨_, HF2.out.ext (ext_drewN (Ext.refl _) _)⟩, ext_drewN hx2 _⟩
          case measure => simp [intOf]; omega
        have hke : k ≤ k + ss[m].size := by omega
        have hen : k + ss[m].size ≤ q.size := by omega
        have heI : (k : Int) + (ss[m].size : Int) ≤ (q.size : Int) := by omega
        obtain ⟨E, hE⟩ : ∃ E, E = k + ss[m].size := ⟨_, rfl⟩
        have HEE := Lib.hid hE
        have hEi : (k : Int) + (ss[m].size : Int) = (E : Int) := by omega
        have hEN : E < N := by omega
        have hENi : (E : Int) < (N : Int) := by omega
        have hEle : E ≤ q.size := by omega
        have hkE : k ≤ E := by omega
        have hkE2 : k < E := by omega
        clear hE hen heI hke
        by_cases hE2 : p = q.extract k E
        · have t1 : (p.toList == (q.extract k E).toList) = true := by rw [beqS, decide_eq_true hE2]
          obtain ⟨T, hTe⟩ : ∃ T, T = tq ss q E := ⟨_, rfl⟩
          have c2 := HT2.out.at E hEN
          have hTE : tWord ss q k m E = T := by unfold tWord; rw [if_neg (by omega), if_pos (by omega), hTe]
          rw [hTE] at c2
          have HTERM := Lib.hid (show term q (tq ss q) k ss[m] = T by unfold term; rw [if_pos ⟨by rw [← HEE.out]; exact hEle, by rw [← HQ.out, ← HEE.out]; exact hE2⟩, ← HEE.out, hTe])
          clear hE2 hTE hTe
          by_cases hT0 : T = 0
          · have t2 : (T == 0) = true := by simp [hT0]
            have HZ := Lib.hid (show term q (tq ss q) k ss[m] = 0 by rw [HTERM.out, hT0])
            clear hT0
            go_wp2
            go_quiet (first | (exact Calls.quiet_of_same ((prKeys_any _ _ HW.out).mono fun e w' h => ⟨(h.1.trans (by rw [← HQ.out]) : e = Ending.returned (.string p)), h.2.symm⟩)))
            go_wp2
            go_roundw
            case rel => exact ⟨m + 1, by omega, by go_num, (HT2.out.congr (fun j _ => tWord_same ss q k m hlt HZ.out j)).ext (ext_drewN (Ext.refl _) _), ⟨_, HF2.out.ext (ext_drewN (Ext.refl _) _)⟩, ext_drewN hx2 _⟩
            case measure => simp [intOf]; omega
          · have t2 : (T == 0) = false := by simp [hT0]
            clear hT0
            obtain ⟨S, hS⟩ : ∃ S, S = tWord ss q k m k := ⟨_, rfl⟩
            obtain ⟨A, hA⟩ : ∃ A, A = w64 (S + T) := ⟨_, rfl⟩
            have c1 := HT2.out.at k hkN
            rw [← hS] at c1
            have f1 := HT2.out.fr k
            have W1 : IntKind.i64.wrap (S + T) = A := hA.symm
            have HNXT := Lib.hid (show ∀ j, (if j = k then A else tWord ss q k m j) = tWord ss q k (m + 1) j from fun j => by rw [HNX.out j, HTERM.out, ← hS, hA])
            obtain ⟨F0, hF0⟩ : ∃ F, F = t3 k := ⟨_, rfl⟩
            obtain ⟨F1, hF1⟩ : ∃ F, F = t3 E := ⟨_, rfl⟩
            obtain ⟨G, hG⟩ : ∃ G, G = IntKind.i64.wrap (F1 + 1) := ⟨_, rfl⟩
            have b1 := HF2.out.at k hkN
            rw [← hF0] at b1
            have b2 := HF2.out.at E hEN
            rw [← hF1] at b2
            have bf := HF2.out.fr k
            have W2 : IntKind.i64.wrap (F1 + 1) = G := hG.symm
            have hg12 : ¬ w1.heap.size = w.heap.size := fun e => hg21 e.symm
            clear hS hA hF0 hF1 hG
            go_wp2
            go_quiet (first | (exact Calls.quiet_of_same ((prKeys_any _ _ HW.out).mono fun e w' h => ⟨(h.1.trans (by rw [← HQ.out]) : e = Ending.returned (.string p)), h.2.symm⟩)))
            go_wp2
            go_region
            go_wp2
            by_cases hn0 : F0 < 0
            · go_quiet (fail)
              go_wp2
              refine ⟨⟨m + 1, by omega, by go_num, RowN.other ((((HT2.out.ext (ext_drewN (Ext.refl _) _)).set k A).congr (fun j _ => HNXT.out j)).ext (ext_drewN (Ext.refl _) _)) hg21 _, ⟨_, RowN.set ((((HF2.out.ext (ext_drewN (Ext.refl _) _)).other hg12 _).ext (ext_drewN (Ext.refl _) _))) k G⟩, (ext_drewN ((ext_drewN hx2 _).setCell (Nat.le_refl _) _) _).setCell X1.size _⟩, ?_⟩
              simp [intOf]
              omega
            · by_cases hn1 : G < F0
              · go_quiet (fail)
                go_wp2
                refine ⟨⟨m + 1, by omega, by go_num, RowN.other ((((HT2.out.ext (ext_drewN (Ext.refl _) _)).set k A).congr (fun j _ => HNXT.out j)).ext (ext_drewN (Ext.refl _) _)) hg21 _, ⟨_, RowN.set ((((HF2.out.ext (ext_drewN (Ext.refl _) _)).other hg12 _).ext (ext_drewN (Ext.refl _) _))) k G⟩, (ext_drewN ((ext_drewN hx2 _).setCell (Nat.le_refl _) _) _).setCell X1.size _⟩, ?_⟩
                simp [intOf]
                omega
              · go_quiet (fail)
                go_wp2
                go_roundw
                case rel => exact ⟨m + 1, by omega, by go_num, ((((HT2.out.ext (ext_drewN (Ext.refl _) _)).set k A).congr (fun j _ => HNXT.out j)).ext (ext_drewN (Ext.refl _) _)), ⟨_, (((HF2.out.ext (ext_drewN (Ext.refl _) _)).other hg12 _).ext (ext_drewN (Ext.refl _) _))⟩, ext_drewN ((ext_drewN hx2 _).setCell (Nat.le_refl _) _) _⟩
                case measure => simp [intOf]; omega
        · have HZ := Lib.hid (show term q (tq ss q) k ss[m] = 0 by unfold term; rw [if_neg (fun h => hE2 (by rw [HQ.out, HEE.out]; exact h.2))])
          have t1 : (p.toList == (q.extract k E).toList) = false := by rw [beqS, decide_eq_false hE2]
          clear hE2
          go_wp2
          go_quiet (first | (exact Calls.quiet_of_same ((prKeys_any _ _ HW.out).mono fun e w' h => ⟨(h.1.trans (by rw [← HQ.out]) : e = Ending.returned (.string p)), h.2.symm⟩)))
          go_wp2
          go_roundw
          case rel => exact ⟨m + 1, by omega, by go_num, (HT2.out.congr (fun j _ => tWord_same ss q k m hlt HZ.out j)).ext (ext_drewN (Ext.refl _) _), ⟨_, HF2.out.ext (ext_drewN (Ext.refl _) _)⟩, ext_drewN hx2 _⟩
          case measure => simp [intOf]; omega
      · have HE := HT2.out.congr (fun j _ => tWord_end ss q k m (by omega) (fun t ht => (isW_size (wdW_isW (dicB_mem HD.out t ht))).1) (by omega) j)
        go_wp2
        go_roundw
        case rel => exact ⟨k, by omega, rfl, HE, ⟨_, HF2.out⟩, hx2⟩
        case measure => simp [intOf]

end Go.Proofs.YtioinihlahnbfaaDoor
