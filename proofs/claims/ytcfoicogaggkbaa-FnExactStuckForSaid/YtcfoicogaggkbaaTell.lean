/- How often each letter is in a text, and the letters with a number: the program's way. No conditions. -/
import Derived.Test.YtcfoicogaggkbaaUnstM
namespace Go.Proofs.Ytcfoicogaggkbaa
open Go.RowKit

def cntF (t : ByteArray) (c : UInt8) : Nat := t.data.toList.count c
def cntK (t : ByteArray) (p : Nat) (c : UInt8) : Nat := (t.data.toList.take p).count c
theorem cntK_all (t : ByteArray) (p : Nat) (h : t.size ≤ p) : cntK t p = cntF t := by
  funext c
  unfold cntK cntF
  rw [List.take_of_length_le (by simpa using h)]
theorem cntK_step (t : ByteArray) (p : Nat) (h : p < t.size) (c : UInt8) : cntK t (p + 1) c = cntK t p c + if sg t p = c then 1 else 0 := by
  unfold cntK
  rw [takeB t p h, List.count_append, List.count_singleton]
  simp
theorem cntK_le (t : ByteArray) (p : Nat) (c : UInt8) : cntK t p c ≤ p := by
  unfold cntK
  exact Nat.le_trans List.count_le_length (List.length_take_le p _)
theorem cntF_le (t : ByteArray) (c : UInt8) : cntF t c ≤ t.size := by
  unfold cntF
  have h := List.count_le_length (a := c) (l := t.data.toList)
  have : t.data.toList.length = t.size := by simp
  omega
theorem rowN_set {t : ByteArray} {p : Nat} (hp : p < t.size) (hc : 97 ≤ (sg t p).toNat ∧ (sg t p).toNat ≤ 122) (j : Nat) (hj : j < 26) : (if j = (sg t p).toNat - 97 then ((cntK t p (sg t p) : Nat) : Int) + 1 else rwF (cntK t p) j) = rwF (cntK t (p + 1)) j := by
  unfold rwF
  rw [cntK_step t p hp]
  by_cases h : j = (sg t p).toNat - 97
  · rw [if_pos h, (let_eq hc hj).2 h, if_pos rfl]; push_cast; rfl
  · rw [if_neg h, if_neg (fun e => h ((let_eq hc hj).1 e.symm))]; rfl

set_option maxRecDepth 100000 in
set_option maxHeartbeats 4000000 in
theorem countsIn_any (n : Nat) (d : ByteArray) (w : World) (hd : isT n d = true) (hn : n ≤ 1000) : Calls Try.prog 68 #[.string d] w fun e w' => e = .returned (.agg (row26 (rwF (cntF d))).toArray) ∧ Ext w w' := by
  have HD := Lib.hid hd
  have hd20 := isT_size hd
  clear hd
  obtain ⟨W, hW⟩ : ∃ W, W = (w.alloc (.cells #[.int .i64 0, .int .i64 0, .int .i64 0, .int .i64 0, .int .i64 0, .int .i64 0, .int .i64 0, .int .i64 0, .int .i64 0, .int .i64 0, .int .i64 0, .int .i64 0, .int .i64 0, .int .i64 0, .int .i64 0, .int .i64 0, .int .i64 0, .int .i64 0, .int .i64 0, .int .i64 0, .int .i64 0, .int .i64 0, .int .i64 0, .int .i64 0, .int .i64 0, .int .i64 0] 36)).alloc (.cells #[.int .i64 0, .int .i64 0, .int .i64 0, .int .i64 0, .int .i64 0, .int .i64 0, .int .i64 0, .int .i64 0, .int .i64 0, .int .i64 0, .int .i64 0, .int .i64 0, .int .i64 0, .int .i64 0, .int .i64 0, .int .i64 0, .int .i64 0, .int .i64 0, .int .i64 0, .int .i64 0, .int .i64 0, .int .i64 0, .int .i64 0, .int .i64 0, .int .i64 0, .int .i64 0] 36) := ⟨_, rfl⟩
  have hT0 : TabR W (w.heap.size + 1) (fun _ => 0) := by rw [hW]; unfold TabR; rw [zero26]; exact heap_alloc2_new w _ _
  have hR0 : TabR W w.heap.size (fun _ => 0) := by rw [hW]; unfold TabR; rw [zero26]; exact heap_alloc2_old w _ _
  have X0 : Ext w W := by rw [hW]; exact ((Ext.refl _).alloc _).alloc _
  have hWs : W.heap.size = w.heap.size + 1 + 1 := by rw [hW]; simp
  have T0 := Lib.hid (hT0.ext ((Ext.refl W).alloc (.stringIter d 0)))
  have R0 := Lib.hid (hR0.ext ((Ext.refl W).alloc (.stringIter d 0)))
  have hit0 : (W.iter d 0).heap[W.heap.size]? = some (.stringIter d 0) := World.iter_heap _ _ _
  have hx0 : Ext w (W.iter d 0) := X0.alloc _
  have hKw : w.heap.size ≤ w.heap.size + 1 + 1 := by omega
  rw [hWs] at hit0
  clear hT0 hR0 hWs
  go_enter Try.func68, Try.ntmps68
  go_wp2
  rw [← hW]
  clear hW
  obtain ⟨R, hR⟩ : ∃ R, R = w.heap.size := ⟨_, rfl⟩
  have HRR := Lib.hid hR
  obtain ⟨K2, hK2⟩ : ∃ K2, K2 = w.heap.size + 1 + 1 := ⟨_, rfl⟩
  rw [← hK2] at hit0 hKw ⊢
  rw [← hR] at T0 R0 ⊢
  clear hR hK2
  go_loopw [5] (fun _ wy => ∃ p : Nat, p ≤ d.size ∧ wy.heap[K2]? = some (.stringIter d p) ∧ TabR wy (R + 1) (rwF (cntK d p)) ∧ TabR wy R (fun _ => 0) ∧ Ext w wy) (fun _ wy => d.size - wy.iterPos K2)
  case atStart => exact ⟨0, Nat.zero_le _, hit0, T0.out.congr (fun r _ => by unfold rwF cntK; simp), R0.out, hx0⟩
  case round =>
    obtain ⟨p, hp, hit, hT2, hR2, hx2⟩ := hrel
    have HT2 := Lib.hid hT2
    have HR2 := Lib.hid hR2
    have hwR : w.heap.size ≤ R + 1 := by have := HRR.out; omega
    clear hT2 hR2
    by_cases hlp : p < d.size
    · have hb := sg_bd HD.out p hlp
      have hasc : (d[p]'hlp).toNat < 128 := by rw [sg_at d p hlp]; omega
      have hnx := fun ty => Lib.run_next_ascii_at (P := Try.prog) wr K2 d p ty hit hlp hasc
      have hit2 := Lib.iterAt_heap wr K2 d p (p + 1) hit
      have hx1 := ext_iter hx2 hKw d (p + 1)
      have HTI := Lib.hid (HT2.out.iterAt hit (p + 1))
      have HRI := Lib.hid (HR2.out.iterAt hit (p + 1))
      rw [show (d[p]'hlp).toNat = (sg d p).toNat by rw [sg_at d p hlp]] at hnx
      have HST := Lib.hid (rowN_set hlp hb)
      have HRF := Lib.hid (rwF_at (cntK d p) (sg d p) hb.1)
      have hcl := cntK_le d p (sg d p)
      obtain ⟨c, hc⟩ : ∃ c, c = sg d p := ⟨_, rfl⟩
      rw [← hc] at hnx hb HST HRF hcl
      obtain ⟨m, hm⟩ : ∃ m, m = cntK d p c := ⟨_, rfl⟩
      rw [← hm] at HST HRF hcl
      obtain ⟨r, hr⟩ : ∃ r, r = c.toNat - 97 := ⟨_, rfl⟩
      rw [← hr] at HST HRF
      have hr26 : r < 26 := by omega
      have hri : (r : Int) < 26 := by omega
      have Wr : IntKind.i32.wrap ((c.toNat : Int) - 97) = (r : Int) := by simp only [IntKind.wrap_i32]; omega
      have HPW := Lib.hid (show wr.iterPos K2 = p by simp only [World.iterPos, hit])
      obtain ⟨wy, hwy⟩ : ∃ wy, wy = wr.iterAt K2 d (p + 1) := ⟨_, rfl⟩
      rw [← hwy] at hnx hit2 hx1 HTI HRI
      have cR := HTI.out.at r hr26
      rw [HRF.out] at cR
      have fR := HTI.out.fr r
      have hKR : ¬ (R + 1 = K2) := fun e => by
        have h9 := HTI.out
        unfold TabR at h9
        rw [e, hit2] at h9
        cases h9
      clear hc hr hwy hasc hm
      have HNT := Lib.hid (show TabR (wy.setCell ⟨R + 1, r, none⟩ (.int .i64 ((m : Int) + 1))) (R + 1) (rwF (cntK d (p + 1))) from (HTI.out.set r ((m : Int) + 1)).congr (fun j hj => HST.out j hj))
      have hit3 : (wy.setCell ⟨R + 1, r, none⟩ (.int .i64 ((m : Int) + 1))).heap[K2]? = some (.stringIter d (p + 1)) := by
        rw [heap_setCell_other wy _ _ _ (fun e => hKR e.symm)]
        exact hit2
      go_wp2
      refine ⟨⟨p + 1, by omega, hit3, HNT.out, HRI.out.other (by simp) _, hx1.setCell hwR _⟩, ?_⟩
      rw [HPW.out]
      simp only [World.iterPos, hit3]
      omega
    · have hnx := fun ty => Lib.run_next_end_at (P := Try.prog) wr K2 d p ty hit hlp
      have HT5 := Lib.hid (show TabR wr (R + 1) (rwF (cntF d)) by rw [← cntK_all d p (by omega)]; exact HT2.out)
      have HN := Lib.hid (show (Try.prog.info? 36).map (·.size) = some (row26 (rwF (cntF d))).toArray.size by rw [List.size_toArray, row26_len]; kernel_rfl)
      obtain ⟨W4, hst, hg4, X4⟩ := row26_store wr R (fun _ => 0) (rwF (cntF d)) HR2.out hx2 (by have := HRR.out; omega)
      have G4 := Lib.hid hg4
      clear hg4
      go_wp2_with (first | (refine wpList_load_row rfl _ _ rfl (R + 1) rfl 36 (row26 (rwF (cntF d))).toArray (0, 0) _ HT5.out Try.underlying36 rfl HN.out ?_))
      exact bodyPost_ret (results_cell_row (P := Try.prog) (p := 2) (ty := 36) rfl _ _ R 36 (row26 (rwF (cntF d))).toArray (0, 0) _ rfl G4.out Try.underlying36 rfl HN.out) rfl ⟨rfl, X4⟩

/-- The letters of which something is told, of so many. -/
def ltB (g : UInt8 → Bool) (k : Nat) : List UInt8 := ((List.range k).filter fun j => g (97 + j).toUInt8).map fun j => (97 + j).toUInt8
theorem ltB_zero (g : UInt8 → Bool) : ltB g 0 = [] := rfl
theorem ltB_yes {g : UInt8 → Bool} {k : Nat} (h : g (97 + k).toUInt8 = true) : ltB g (k + 1) = ltB g k ++ [(97 + k).toUInt8] := by
  unfold ltB
  rw [List.range_succ, List.filter_append, List.filter_cons_of_pos (by exact h), List.filter_nil, List.map_append]
  rfl
theorem ltB_no {g : UInt8 → Bool} {k : Nat} (h : g (97 + k).toUInt8 = false) : ltB g (k + 1) = ltB g k := by
  unfold ltB
  rw [List.range_succ, List.filter_append, List.filter_cons_of_neg (by rw [h]; exact Bool.false_ne_true), List.filter_nil, List.append_nil]
theorem ltB_len (g : UInt8 → Bool) (k : Nat) : (ltB g k).length ≤ k := by
  unfold ltB
  rw [List.length_map]
  exact Nat.le_trans (List.length_filter_le _ _) (by rw [List.length_range]; exact Nat.le_refl _)
theorem byte97 (k : Nat) (h : k < 26) : ((97 + k).toUInt8).toNat = 97 + k := by simp; omega
theorem ltB_mem {g : UInt8 → Bool} {c : UInt8} (hc : 97 ≤ c.toNat ∧ c.toNat ≤ 122) : c ∈ ltB g 26 ↔ g c = true := by
  unfold ltB
  rw [List.mem_map]
  constructor
  · rintro ⟨j, hj, rfl⟩
    rw [List.mem_filter] at hj
    exact hj.2
  · intro h
    refine ⟨c.toNat - 97, List.mem_filter.2 ⟨List.mem_range.2 (by omega), ?_⟩, (let_eq hc (by omega)).2 rfl⟩
    rw [(let_eq hc (by omega)).2 rfl]
    exact h
theorem ltB_has {g : UInt8 → Bool} {c : UInt8} (hc : 97 ≤ c.toNat ∧ c.toNat ≤ 122) : hasB (ltB g 26) c = g c := by
  cases h : g c
  · cases h2 : hasB (ltB g 26) c
    · rfl
    · have := (ltB_mem hc).1 (hasB_mem.1 h2)
      rw [h] at this; cases this
  · exact hasB_mem.2 ((ltB_mem hc).2 h)
theorem ltB_isT (g : UInt8 → Bool) : isT 26 (tB (ltB g 26)) = true := by
  unfold isT allL
  rw [tB_size, decide_eq_true (ltB_len g 26), Bool.true_and, List.all_eq_true]
  intro c hc
  rw [tB_list] at hc
  unfold ltB at hc
  obtain ⟨j, hj, rfl⟩ := List.mem_map.1 hc
  have hj2 := List.mem_range.1 (List.mem_filter.1 hj).1
  rw [byte97 j hj2]
  exact isL_of (by omega) (by omega)
theorem ltB_congr {g g' : UInt8 → Bool} (h : ∀ c, g c = g' c) (k : Nat) : ltB g k = ltB g' k := by
  rw [show g = g' from funext h]
theorem encA : ∀ n : Nat, n < 128 → Utf8.encode (n : Int) = ⟨#[n.toUInt8]⟩ := of_decide_eq_true (by kernel_rfl)

/-! ### The model's -/
def dBc (t s : ByteArray) (c : UInt8) : Bool := decide (0 < cntF t c) && decide (cntF s c = 0)
def sBc (t s : ByteArray) (c : UInt8) : Bool := decide (0 < cntF t c) && decide (cntF s c = 2 * cntF t c)
theorem dBc_eq (t s : ByteArray) : dBc t s = dB t.data.toList s.data.toList := rfl
theorem sBc_eq (t s : ByteArray) : sBc t s = sB t.data.toList s.data.toList := rfl

set_option maxRecDepth 100000 in
set_option maxHeartbeats 4000000 in
theorem tell_any (t s : ByteArray) (w : World) (ht : t.size ≤ 20) (hs : s.size ≤ 40) : Calls Try.prog 37 #[.string t, .string s] w fun e w' => e = .returned (.tuple #[.string (tB (ltB (dBc t s) 26)), .string (tB (ltB (sBc t s) 26))]) ∧ w = w' := by
  go_enter Try.func37, Try.ntmps37
  go_wp2
  go_loop [6, 7, 8] (fun d u l => ∃ k : Nat, k ≤ 26 ∧ l = .int .u8 (97 + (k : Int)) ∧ d = .string (tB (ltB (dBc t s) k)) ∧ u = .string (tB (ltB (sBc t s) k))) (fun _ _ l => 123 - (intOf l).toNat)
  case atStart => exact ⟨0, Nat.zero_le _, rfl, rfl, rfl⟩
  case round =>
    obtain ⟨k, hk, rfl, rfl, rfl⟩ := hrel
    have hb1 : (tB (ltB (dBc t s) k)).size ≤ 26 := by rw [tB_size]; have := ltB_len (dBc t s) k; omega
    have hb2 : (tB (ltB (sBc t s) k)).size ≤ 26 := by rw [tB_size]; have := ltB_len (sBc t s) k; omega
    by_cases hlt : k < 26
    · have hle : 97 + (k : Int) ≤ 122 := by omega
      obtain ⟨c, hc⟩ : ∃ c, c = (97 + k).toUInt8 := ⟨_, rfl⟩
      have hcn : c.toNat = 97 + k := by rw [hc]; exact byte97 k hlt
      have HDY := Lib.hid (fun h => congrArg tB (ltB_yes (g := dBc t s) (k := k) h))
      have HDN := Lib.hid (fun h => congrArg tB (ltB_no (g := dBc t s) (k := k) h))
      have HSY := Lib.hid (fun h => congrArg tB (ltB_yes (g := sBc t s) (k := k) h))
      have HSN := Lib.hid (fun h => congrArg tB (ltB_no (g := sBc t s) (k := k) h))
      simp only [tB_snoc] at HDY HSY
      rw [← hc] at HDY HDN HSY HSN
      obtain ⟨D, hD⟩ : ∃ D, D = tB (ltB (dBc t s) k) := ⟨_, rfl⟩
      obtain ⟨U, hU⟩ : ∃ U, U = tB (ltB (sBc t s) k) := ⟨_, rfl⟩
      rw [← hD] at HDY HDN hb1 ⊢
      rw [← hU] at HSY HSN hb2 ⊢
      have HBD := Lib.hid (show dBc t s c = (decide (0 < cntF t c) && decide (cntF s c = 0)) from rfl)
      have HBS := Lib.hid (show sBc t s c = (decide (0 < cntF t c) && decide (cntF s c = 2 * cntF t c)) from rfl)
      have HL := Lib.hid (show (97 + (k : Int)) = (c.toNat : Int) by omega)
      have he := encA (97 + k) (by omega)
      have he2 : Utf8.encode (97 + (k : Int)) = ⟨#[c]⟩ := by rw [hc, ← he]; congr 1
      have Wc : IntKind.i32.wrap (97 + (k : Int)) = 97 + (k : Int) := by simp only [IntKind.wrap_i32]; omega
      clear he hc hD hU hcn
      go_wp2
      go_loop [9, 11] (fun n i => ∃ j : Nat, j ≤ t.size ∧ i = .int .i64 j ∧ n = .int .i64 (cntK t j c : Nat)) (fun _ i => t.size - (intOf i).toNat)
      case atStart => exact ⟨0, Nat.zero_le _, rfl, rfl⟩
      case round =>
        obtain ⟨j, hj, rfl, rfl⟩ := hrel
        by_cases hjt : j < t.size
        · have ik : ∀ w, (Instr.index 9 (.string t) (.int .i64 (j : Int))).run Try.prog w = .ok (.int .u8 ((sg t j).toNat : Int)) w := fun w => ixB t j hjt w
          have HS := Lib.hid (cntK_step t j hjt c)
          have hcl := cntK_le t j c
          obtain ⟨m, hm⟩ : ∃ m, m = cntK t j c := ⟨_, rfl⟩
          rw [← hm] at HS hcl ⊢
          clear hm
          by_cases he : sg t j = c
          · have t1 : (((sg t j).toNat : Int) == 97 + (k : Int)) = true := by rw [HL.out, he]; exact beq_self_eq_true _
            have HN := Lib.hid (show ((m : Int) + 1) = (cntK t (j + 1) c : Nat) by rw [HS.out, if_pos he]; push_cast; rfl)
            clear he
            go_wp2
            go_round
            case rel => exact ⟨j + 1, by omega, by go_num, by rw [← HN.out]⟩
            case measure => simp [intOf]; omega
          · have t1 : (((sg t j).toNat : Int) == 97 + (k : Int)) = false := beq_eq_false_iff_ne.2 (fun h => he (UInt8.toNat_inj.1 (by have := HL.out; omega)))
            have HN := Lib.hid (show (m : Int) = (cntK t (j + 1) c : Nat) by rw [HS.out, if_neg he]; rfl)
            clear he
            go_wp2
            go_round
            case rel => exact ⟨j + 1, by omega, by go_num, by rw [← HN.out]⟩
            case measure => simp [intOf]; omega
        · have HT := Lib.hid (show cntK t j c = cntF t c by rw [cntK_all t j (by omega)])
          rw [HT.out]
          have hnT := cntF_le t c
          obtain ⟨n, hn⟩ : ∃ n, n = cntF t c := ⟨_, rfl⟩
          rw [← hn] at hnT HBD HBS ⊢
          clear hn HT
          go_wp2
          go_loop [10, 12] (fun n i => ∃ j : Nat, j ≤ s.size ∧ i = .int .i64 j ∧ n = .int .i64 (cntK s j c : Nat)) (fun _ i => s.size - (intOf i).toNat)
          case atStart => exact ⟨0, Nat.zero_le _, rfl, rfl⟩
          case round =>
            obtain ⟨j, hj, rfl, rfl⟩ := hrel
            by_cases hjs : j < s.size
            · have ik : ∀ w, (Instr.index 9 (.string s) (.int .i64 (j : Int))).run Try.prog w = .ok (.int .u8 ((sg s j).toNat : Int)) w := fun w => ixB s j hjs w
              have HS := Lib.hid (cntK_step s j hjs c)
              have hcl := cntK_le s j c
              obtain ⟨m, hm⟩ : ∃ m, m = cntK s j c := ⟨_, rfl⟩
              rw [← hm] at HS hcl ⊢
              clear hm
              by_cases he : sg s j = c
              · have t1 : (((sg s j).toNat : Int) == 97 + (k : Int)) = true := by rw [HL.out, he]; exact beq_self_eq_true _
                have HN := Lib.hid (show ((m : Int) + 1) = (cntK s (j + 1) c : Nat) by rw [HS.out, if_pos he]; push_cast; rfl)
                clear he
                go_wp2
                go_round
                case rel => exact ⟨j + 1, by omega, by go_num, by rw [← HN.out]⟩
                case measure => simp [intOf]; omega
              · have t1 : (((sg s j).toNat : Int) == 97 + (k : Int)) = false := beq_eq_false_iff_ne.2 (fun h => he (UInt8.toNat_inj.1 (by have := HL.out; omega)))
                have HN := Lib.hid (show (m : Int) = (cntK s (j + 1) c : Nat) by rw [HS.out, if_neg he]; rfl)
                clear he
                go_wp2
                go_round
                case rel => exact ⟨j + 1, by omega, by go_num, by rw [← HN.out]⟩
                case measure => simp [intOf]; omega
            · have HT := Lib.hid (show cntK s j c = cntF s c by rw [cntK_all s j (by omega)])
              rw [HT.out]
              have hmT := cntF_le s c
              obtain ⟨m, hm⟩ : ∃ m, m = cntF s c := ⟨_, rfl⟩
              rw [← hm] at hmT HBD HBS ⊢
              clear hm HT
              by_cases hn0 : 0 < n
              · have hn0i : (0 : Int) < (n : Int) := by omega
                by_cases hm0 : m = 0
                · have HD := Lib.hid (HDY.out (by rw [HBD.out, decide_eq_true hn0, decide_eq_true hm0]; rfl))
                  have HS := Lib.hid (HSN.out (by rw [HBS.out, decide_eq_false (show ¬ m = 2 * n by omega), Bool.and_false]))
                  subst hm0
                  go_wp2
                  go_round
                  case rel => exact ⟨k + 1, by omega, by rw [show 97 + ((k + 1 : Nat) : Int) = 97 + (k : Int) + 1 by omega], by rw [HD.out], by rw [HS.out]⟩
                  case measure => simp [intOf]; omega
                · have tm0 : ((m : Int) == 0) = false := by simp; omega
                  have HD := Lib.hid (HDN.out (by rw [HBD.out, decide_eq_false hm0, Bool.and_false]))
                  by_cases hm2 : m = 2 * n
                  · have tm2 : ((m : Int) == 2 * (n : Int)) = true := by simp; omega
                    have HS := Lib.hid (HSY.out (by rw [HBS.out, decide_eq_true hn0, decide_eq_true hm2]; rfl))
                    clear hm2 hm0
                    go_wp2
                    go_round
                    case rel => exact ⟨k + 1, by omega, by rw [show 97 + ((k + 1 : Nat) : Int) = 97 + (k : Int) + 1 by omega], by rw [HD.out], by rw [HS.out]⟩
                    case measure => simp [intOf]; omega
                  · have tm2 : ((m : Int) == 2 * (n : Int)) = false := by simp; omega
                    have HS := Lib.hid (HSN.out (by rw [HBS.out, decide_eq_false hm2, Bool.and_false]))
                    clear hm2 hm0
                    go_wp2
                    go_round
                    case rel => exact ⟨k + 1, by omega, by rw [show 97 + ((k + 1 : Nat) : Int) = 97 + (k : Int) + 1 by omega], by rw [HD.out], by rw [HS.out]⟩
                    case measure => simp [intOf]; omega
              · have hn0i : ¬ (0 : Int) < (n : Int) := by omega
                have HD := Lib.hid (HDN.out (by rw [HBD.out, decide_eq_false hn0]; rfl))
                have HS := Lib.hid (HSN.out (by rw [HBS.out, decide_eq_false hn0]; rfl))
                go_wp2
                go_round
                case rel => exact ⟨k + 1, by omega, by rw [show 97 + ((k + 1 : Nat) : Int) = 97 + (k : Int) + 1 by omega], by rw [HD.out], by rw [HS.out]⟩
                case measure => simp [intOf]; omega
    · obtain rfl : k = 26 := by omega
      go_wp2
      go_ret2
      exact ⟨rfl, rfl⟩
end Go.Proofs.Ytcfoicogaggkbaa
