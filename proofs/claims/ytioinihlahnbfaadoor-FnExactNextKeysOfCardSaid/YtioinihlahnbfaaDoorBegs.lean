/- The words of a dictionary whose keys begin with some keys: alike by the program and by its model. No conditions but the table's content. -/
import Derived.Test.YtioinihlahnbfaaDoorDict
import Derived.Test.YtioinihlahnbfaaDoorOwnS
import Derived.Test.YtioinihlahnbfaaDoorSigns
import Derived.Test.YtioinihlahnbfaaDoorDigits
import Derived.Lib.Strings
namespace Go.Proofs.YtioinihlahnbfaaDoor
open Go.RowKit

/-- A list of the call's own with these texts, alone and beside a truth. -/
def ResR (ts : List ByteArray) (w : World) (e : Ending) (w' : World) : Prop := ∃ v, e = .returned v ∧ RowS w.heap.size w' v ts ∧ Ext w w'
def ResS (ts : List ByteArray) (ok : Bool) (w : World) (e : Ending) (w' : World) : Prop := ∃ v, e = .returned (.tuple #[v, .bool ok]) ∧ RowS w.heap.size w' v ts ∧ Ext w w'
theorem ret_vb {v : Value} {b b' : Bool} (h : b = b') : Ending.returned (.tuple #[v, .bool b]) = .returned (.tuple #[v, .bool b']) := by rw [h]
theorem oneS (x : ByteArray) : ∀ u ∈ [Value.string x], u.oneCell' = true := by intro u hu; simp at hu; subst hu; rfl

def pre (ks k : ByteArray) : Bool := Lib.hasPrefix ks.data.toList k.data.toList
def begs (ss : List ByteArray) (k : ByteArray) : List ByteArray := ss.filter fun s => pre (keysB s) k
def fors (ss : List ByteArray) (k : ByteArray) : List ByteArray := ss.filter fun s => decide (keysB s = k)
theorem begs_step (ss : List ByteArray) (k : ByteArray) (i : Nat) (h : i < ss.length) : begs (ss.take (i + 1)) k = begs (ss.take i) k ++ (if pre (keysB ss[i]) k then [ss[i]] else []) := by
  unfold begs
  rw [takeS ss i h, List.filter_append]
  cases hp : pre (keysB ss[i]) k <;> simp [hp]
theorem begs_yes {ss : List ByteArray} {k : ByteArray} {i : Nat} {h : i < ss.length} (hp : pre (keysB ss[i]) k = true) : begs (ss.take (i + 1)) k = begs (ss.take i) k ++ [ss[i]] := by
  rw [begs_step ss k i h, hp]; rfl
theorem begs_no {ss : List ByteArray} {k : ByteArray} {i : Nat} {h : i < ss.length} (hp : pre (keysB ss[i]) k = false) : begs (ss.take (i + 1)) k = begs (ss.take i) k := by
  rw [begs_step ss k i h, hp]; simp
theorem begs_len (ss : List ByteArray) (k : ByteArray) : (begs ss k).length ≤ ss.length := List.length_filter_le _ _
theorem begs_mem {ss : List ByteArray} {k s : ByteArray} (h : s ∈ begs ss k) : s ∈ ss := (List.mem_filter.1 h).1
theorem fors_step (ss : List ByteArray) (k : ByteArray) (i : Nat) (h : i < ss.length) : fors (ss.take (i + 1)) k = fors (ss.take i) k ++ (if keysB ss[i] = k then [ss[i]] else []) := by
  unfold fors
  rw [takeS ss i h, List.filter_append]
  by_cases hp : keysB ss[i] = k <;> simp [hp]
theorem fors_yes {ss : List ByteArray} {k : ByteArray} {i : Nat} {h : i < ss.length} (hp : keysB ss[i] = k) : fors (ss.take (i + 1)) k = fors (ss.take i) k ++ [ss[i]] := by
  rw [fors_step ss k i h, if_pos hp]
theorem fors_no {ss : List ByteArray} {k : ByteArray} {i : Nat} {h : i < ss.length} (hp : ¬ keysB ss[i] = k) : fors (ss.take (i + 1)) k = fors (ss.take i) k := by
  rw [fors_step ss k i h, if_neg hp]; simp
theorem fors_len (ss : List ByteArray) (k : ByteArray) : (fors ss k).length ≤ ss.length := List.length_filter_le _ _
theorem fors_mem {ss : List ByteArray} {k s : ByteArray} (h : s ∈ fors ss k) : s ∈ ss := (List.mem_filter.1 h).1
theorem bytes_inj {a b : ByteArray} (h : a.data.toList = b.data.toList) : a = b := ByteArray.ext (Array.toList_inj.1 h)
theorem beqS (a b : ByteArray) : (a.toList == b.toList) = decide (a = b) := by
  rw [Lib.toList_data, Lib.toList_data]
  by_cases h : a = b
  · subst h; simp
  · rw [decide_eq_false h, beq_eq_false_iff_ne]; exact fun h2 => h (bytes_inj h2)
theorem pre_self (k : ByteArray) : pre k k = true := by unfold pre Lib.hasPrefix; exact List.isPrefixOf_iff_prefix.2 (List.prefix_refl _)
theorem pre_raw (ks k : ByteArray) (h : k.size ≤ ks.size) : ((ks.extract 0 k.size).toList == k.toList) = pre ks k := by
  have := Lib.hasPrefix_raw ks k
  rw [decide_eq_true h, Bool.true_and] at this
  exact this
theorem pre_short (ks k : ByteArray) (h : ks.size < k.size) : pre ks k = false := by
  have := Lib.hasPrefix_raw ks k
  rw [decide_eq_false (by omega : ¬ k.size ≤ ks.size), Bool.false_and] at this
  exact this.symm
theorem pre_len (ks k : ByteArray) (h : ks.size = k.size) : pre ks k = decide (ks = k) := by
  rw [← pre_raw ks k (by omega), beqS, ← h]
  have : ks.extract 0 ks.size = ks := by
    apply ByteArray.ext
    simp
  rw [this]

theorem hpI_any (s p : ByteArray) (w : World) : Calls Tryd.prog 75 #[.string s, .string p] w fun e w' => e = .returned (.bool (pre s p)) ∧ w = w' := by
  by_cases h : p.size ≤ s.size
  · have H := Lib.hid (pre_raw s p h)
    go_enter Tryd.func75, Tryd.ntmps75
    go_wp2
    go_ret
    exact ⟨ret_bool H.out, rfl⟩
  · have H := Lib.hid (pre_short s p (by omega))
    go_enter Tryd.func75, Tryd.ntmps75
    go_wp2
    go_ret
    exact ⟨ret_bool H.out.symm, rfl⟩

theorem hp_any (s p : ByteArray) (w : World) : Calls Tryd.prog 63 #[.string s, .string p] w fun e w' => e = .returned (.bool (pre s p)) ∧ w = w' := by
  go_enter Tryd.func63, Tryd.ntmps63
  go_wp2_with (go_at_call 75; refine (hpI_any _ _ _).mono ?_; rintro e w' ⟨rfl, rfl⟩)
  go_ret
  exact ⟨rfl, rfl⟩

theorem keysL_any (s : ByteArray) (w : World) (h : isW s = true) (hp : PadIs w) : Calls Tryd.prog 33 #[.string s] w fun e w' => e = .returned (.string (keysB s)) ∧ Ext w w' := by
  go_enter Tryd.func33, Tryd.ntmps33
  go_wp2_with (go_at_call 57; refine (signsOf_any _ _ h hp).mono ?_; rintro e w1 ⟨rfl, x1⟩)
  go_ret
  exact ⟨rfl, x1⟩

/-- Keys that may be split. -/
def spK (s : ByteArray) : Bool := isK s && decide (s.size ≤ 20)
theorem areSplit_any (s : ByteArray) (w : World) (hs : s.size ≤ maxLen) : Calls Tryd.prog 38 #[.string s] w fun e w' => e = .returned (.bool (spK s)) ∧ w = w' := by
  have h63 : s.size ≤ 9223372036854775807 := hs
  have H := Lib.hid (show spK s = (isK s && decide ((s.size : Int) ≤ 20)) by unfold spK; congr 1; simp; omega)
  cases hk : isK s
  · have HK := Lib.hid hk
    go_enter Tryd.func38, Tryd.ntmps38
    go_wp2_with (go_at_call 62; refine (areKeys_any _ _ hs).mono ?_; rintro e w' ⟨rfl, rfl⟩)
    go_ret
    exact ⟨ret_bool (by rw [H.out, HK.out]; rfl), rfl⟩
  · have HK := Lib.hid hk
    go_enter Tryd.func38, Tryd.ntmps38
    go_wp2_with (go_at_call 62; refine (areKeys_any _ _ hs).mono ?_; rintro e w' ⟨rfl, rfl⟩)
    go_ret
    exact ⟨ret_bool (by rw [H.out, HK.out]; rfl), rfl⟩

theorem wdKeys_any (s : ByteArray) (w : World) (hs : s.size ≤ maxLen) : Calls Tryd.prog 36 #[.string s] w fun e w' => e = .returned (.bool (spK s)) ∧ w = w' := by
  have h63 : s.size ≤ 9223372036854775807 := hs
  have H := Lib.hid (show spK s = (isK s && decide ((s.size : Int) ≤ 20)) by unfold spK; congr 1; simp; omega)
  cases hk : isK s
  · have HK := Lib.hid hk
    go_enter Tryd.func36, Tryd.ntmps36
    go_wp2_with (go_at_call 61; refine (prGood_any _ _ hs).mono ?_; rintro e w' ⟨rfl, rfl⟩)
    go_ret
    exact ⟨ret_bool (by rw [H.out, HK.out]; rfl), rfl⟩
  · have HK := Lib.hid hk
    go_enter Tryd.func36, Tryd.ntmps36
    go_wp2_with (go_at_call 61; refine (prGood_any _ _ hs).mono ?_; rintro e w' ⟨rfl, rfl⟩)
    go_ret
    exact ⟨ret_bool (by rw [H.out, HK.out]; rfl), rfl⟩

theorem wdAsked_any (v : Value) (ss : List ByteArray) (s : ByteArray) (w : World) (h : Strs w v ss) (hs : s.size ≤ maxLen) : Calls Tryd.prog 44 #[v, .string s] w fun e w' => e = .returned (.bool (dicB ss && spK s)) ∧ Ext w w' := by
  have HH := Lib.hid h
  clear h
  cases hd : dicB ss
  · go_enter Tryd.func44, Tryd.ntmps44
    go_wp2_with (go_at_call 29; refine (wdGood_any _ _ _ HH.out).mono ?_; rintro e w1 ⟨rfl, x1⟩)
    go_ret
    exact ⟨rfl, x1⟩
  · go_enter Tryd.func44, Tryd.ntmps44
    go_wp2_with (first | (go_at_call 29; refine (wdGood_any _ _ _ HH.out).mono ?_; rintro e w1 ⟨rfl, x1⟩) | (go_at_call 36; refine (wdKeys_any _ _ hs).mono ?_; rintro e w' ⟨rfl, rfl⟩))
    go_ret
    exact ⟨rfl, x1⟩

theorem info_strN : (Tryd.prog.info? 9).map (fun i => (i.zero, i.size, i.bytes)) = some (some (.string ⟨#[]⟩), 1, 16) := by kernel_rfl

set_option maxHeartbeats 2000000 in
theorem wordsFrom_any (v : Value) (ss : List ByteArray) (s : ByteArray) (w : World) (h : Strs w v ss) (hd : dicB ss = true) (_hs : s.size ≤ maxLen) (hp : PadIs w) : Calls Tryd.prog 39 #[v, .string s] w (ResR (begs ss s) w) := by
  have HS := Lib.hid h
  have HM := Lib.hid h.2.1
  obtain ⟨hl1, hl2⟩ := dicB_len hd
  have HD := Lib.hid hd
  obtain ⟨a, cap, hv, hnil⟩ := h.at
  rw [hv] at HS ⊢
  clear hv hnil h v hd
  obtain ⟨i0, hi, hz0, hzs, hzb⟩ := info_parts info_strN
  have HI := Lib.hid (show Tryd.prog.info? 9 = some i0 ∧ i0.zero = some (.string ⟨#[]⟩) ∧ i0.size = 1 ∧ i0.bytes = 16 from ⟨hi, hz0, hzs, hzb⟩)
  clear hi hz0 hzs hzb
  go_enter Tryd.func39, Tryd.ntmps39
  go_wp2
  go_loopw [5, 10] (fun o i wr => ∃ k : Nat, k ≤ ss.length ∧ i = .int .i64 k ∧ RowS w.heap.size wr o (begs (ss.take k) s) ∧ Ext w wr) (fun _ i _ => ss.length - (intOf i).toNat)
  case atStart => exact ⟨0, Nat.zero_le _, rfl, RowS.nil _ _, Ext.refl _⟩
  case round =>
    obtain ⟨k, hk, rfl, hown, hx⟩ := hrel
    have HO := Lib.hid hown
    clear hown
    by_cases hlt : k < ss.length
    · rcases (HS.out.ext hx).2.2 with ⟨h3, _⟩ | ⟨b, off, cap', h4, hb, hc⟩
      · rw [h3] at hlt; exact absurd hlt (by simp)
      have ha : a = some ⟨b, off, none⟩ := by injection h4
      have e1 := hc k hlt
      have HW := Lib.hid (wdW_isW (dicB_at HD.out k hlt))
      have hlen : (begs (ss.take k) s).length ≤ 12 := Nat.le_trans (begs_len _ _) (by rw [List.length_take]; omega)
      rw [ha]
      clear hc h4 ha hb
      cases hpp : pre (keysB ss[k]) s
      · have HN := Lib.hid (begs_no (h := hlt) hpp)
        go_wp2_with (first | (go_at_call 33; refine (keysL_any _ _ HW.out (hp.ext hx)).mono ?_; rintro e w2 ⟨rfl, x2⟩) | (go_at_call 63; refine (hp_any _ _ _).mono ?_; rintro e w' ⟨rfl, rfl⟩))
        go_roundw
        case rel => exact ⟨k + 1, by omega, by go_num, by rw [HN.out]; exact HO.out.ext x2, hx.trans x2⟩
        case measure => simp [intOf]; omega
      · have HN := Lib.hid (begs_yes (h := hlt) hpp)
        go_wp2_with (first | (go_at_call 33; refine (keysL_any _ _ HW.out (hp.ext hx)).mono ?_; rintro e w2 ⟨rfl, x2⟩) | (go_at_call 63; refine (hp_any _ _ _).mono ?_; rintro e w' ⟨rfl, rfl⟩) | (at_builtin; refine wpList_append_own _ rfl _ _ 22 rfl w.heap.size 9 i0 (.string ⟨#[]⟩) 1 16 Tryd.underlying22 HI.out.1 HI.out.2.1 HI.out.2.2.1 HI.out.2.2.2 rfl (by decide) _ _ _ rfl (World.ownsRow.alloc (HO.out.ext x2) _) ⟨w2.heap.size, 0, none⟩ 1 1 [.string ss[k]] rfl rfl (cell_one_new _ _ _) (oneS _) (by unfold maxLen; omega) (by omega) (by have := hx.size; have := x2.size; simp; omega) ?_; intro v' w5 hown' hgr' _))
        have R : RowS w.heap.size w5 v' (begs (ss.take (k + 1)) s) := by
          rw [HN.out]
          unfold RowS
          rw [List.length_append, List.map_append]
          exact hown'
        have X : Ext w w5 := ext_grown ((hx.trans x2).alloc _) hgr' (fun j hj => HO.out.own_le j hj)
        clear hown' hgr'
        go_wp2
        go_roundw
        case rel => exact ⟨k + 1, by omega, by go_num, R, X⟩
        case measure => simp [intOf]; omega
    · have HT := Lib.hid (show ss.take k = ss from List.take_of_length_le (by omega))
      go_wp2
      go_ret
      exact ⟨_, rfl, by rw [← HT.out]; exact HO.out, hx⟩

set_option maxHeartbeats 2000000 in
theorem wdBegins_any (v : Value) (ss : List ByteArray) (s : ByteArray) (w : World) (h : Strs w v ss) (hd : dicB ss = true) (hs : s.size ≤ maxLen) : Calls Tryd.prog 37 #[v, .string s, .bool false] w (ResR (begs ss s) w) := by
  have HS := Lib.hid h
  have HM := Lib.hid h.2.1
  have h63 : s.size ≤ 9223372036854775807 := hs
  obtain ⟨hl1, hl2⟩ := dicB_len hd
  have HD := Lib.hid hd
  obtain ⟨a, cap, hv, hnil⟩ := h.at
  rw [hv] at HS ⊢
  clear hv hnil h v hd
  obtain ⟨i0, hi, hz0, hzs, hzb⟩ := info_parts info_strN
  have HI := Lib.hid (show Tryd.prog.info? 9 = some i0 ∧ i0.zero = some (.string ⟨#[]⟩) ∧ i0.size = 1 ∧ i0.bytes = 16 from ⟨hi, hz0, hzs, hzb⟩)
  clear hi hz0 hzs hzb
  go_enter Tryd.func37, Tryd.ntmps37
  go_wp2
  go_loopw [7, 13] (fun o i wr => ∃ k : Nat, k ≤ ss.length ∧ i = .int .i64 k ∧ RowS w.heap.size wr o (begs (ss.take k) s) ∧ Ext w wr) (fun _ i _ => ss.length - (intOf i).toNat)
  case atStart => exact ⟨0, Nat.zero_le _, rfl, RowS.nil _ _, Ext.refl _⟩
  case round =>
    obtain ⟨k, hk, rfl, hown, hx⟩ := hrel
    have HO := Lib.hid hown
    clear hown
    by_cases hlt : k < ss.length
    · rcases (HS.out.ext hx).2.2 with ⟨h3, _⟩ | ⟨b, off, cap', h4, hb, hc⟩
      · rw [h3] at hlt; exact absurd hlt (by simp)
      have ha : a = some ⟨b, off, none⟩ := by injection h4
      have e1 := hc k hlt
      have HW := Lib.hid (wdW_isW (dicB_at HD.out k hlt))
      have hkz : (keysB ss[k]).size ≤ 10 := by rw [keysB_size]; exact wdW_size (dicB_at HD.out k hlt)
      obtain ⟨q, hq⟩ : ∃ q, q = keysB ss[k] := ⟨_, rfl⟩
      have HQ := Lib.hid hq
      rw [← hq] at hkz
      have hlen : (begs (ss.take k) s).length ≤ 12 := Nat.le_trans (begs_len _ _) (by rw [List.length_take]; omega)
      rw [ha]
      clear hc h4 ha hb hq
      by_cases hE : q = s
      · have t1 : (q.toList == s.toList) = true := by rw [beqS, decide_eq_true hE]
        have HE := Lib.hid hE
        clear hE
        have HN := Lib.hid (begs_yes (k := s) (h := hlt) (by rw [← HQ.out, HE.out]; exact pre_self _))
        go_wp2_with (first | (go_at_call 31; refine (prKeys_any _ _ HW.out).mono ?_; rintro e w' ⟨rfl, rfl⟩; rw [← HQ.out]) | (at_builtin; refine wpList_append_own _ rfl _ _ 22 rfl w.heap.size 9 i0 (.string ⟨#[]⟩) 1 16 Tryd.underlying22 HI.out.1 HI.out.2.1 HI.out.2.2.1 HI.out.2.2.2 rfl (by decide) _ _ _ rfl (World.ownsRow.alloc HO.out _) ⟨wr.heap.size, 0, none⟩ 1 1 [.string ss[k]] rfl rfl (cell_one_new _ _ _) (oneS _) (by unfold maxLen; omega) (by omega) (by have := hx.size; simp; omega) ?_; intro v' w5 hown' hgr' _))
        have R : RowS w.heap.size w5 v' (begs (ss.take (k + 1)) s) := by
          rw [HN.out]
          unfold RowS
          rw [List.length_append, List.map_append]
          exact hown'
        have X : Ext w w5 := ext_grown (hx.alloc _) hgr' (fun j hj => HO.out.own_le j hj)
        clear hown' hgr'
        go_wp2
        go_roundw
        case rel => exact ⟨k + 1, by omega, by go_num, R, X⟩
        case measure => simp [intOf]; omega
      have t1 : (q.toList == s.toList) = false := by rw [beqS, decide_eq_false hE]
      by_cases hZ : s.size < q.size
      · cases hP : pre q s
        · have t2 : ((q.extract 0 s.size).toList == s.toList) = false := by rw [pre_raw q s (by omega)]; exact hP
          have HP := Lib.hid hP
          clear hP hE
          have HN := Lib.hid (begs_no (k := s) (h := hlt) (by rw [← HQ.out]; exact HP.out))
          go_wp2_with (first | (go_at_call 31; refine (prKeys_any _ _ HW.out).mono ?_; rintro e w' ⟨rfl, rfl⟩; rw [← HQ.out]))
          go_roundw
          case rel => exact ⟨k + 1, by omega, by go_num, by rw [HN.out]; exact HO.out, hx⟩
          case measure => simp [intOf]; omega
        · have t2 : ((q.extract 0 s.size).toList == s.toList) = true := by rw [pre_raw q s (by omega)]; exact hP
          have HP := Lib.hid hP
          clear hP hE
          have HN := Lib.hid (begs_yes (k := s) (h := hlt) (by rw [← HQ.out]; exact HP.out))
          go_wp2_with (first | (go_at_call 31; refine (prKeys_any _ _ HW.out).mono ?_; rintro e w' ⟨rfl, rfl⟩; rw [← HQ.out]) | (at_builtin; refine wpList_append_own _ rfl _ _ 22 rfl w.heap.size 9 i0 (.string ⟨#[]⟩) 1 16 Tryd.underlying22 HI.out.1 HI.out.2.1 HI.out.2.2.1 HI.out.2.2.2 rfl (by decide) _ _ _ rfl (World.ownsRow.alloc HO.out _) ⟨wr.heap.size, 0, none⟩ 1 1 [.string ss[k]] rfl rfl (cell_one_new _ _ _) (oneS _) (by unfold maxLen; omega) (by omega) (by have := hx.size; simp; omega) ?_; intro v' w5 hown' hgr' _))
          have R : RowS w.heap.size w5 v' (begs (ss.take (k + 1)) s) := by
            rw [HN.out]
            unfold RowS
            rw [List.length_append, List.map_append]
            exact hown'
          have X : Ext w w5 := ext_grown (hx.alloc _) hgr' (fun j hj => HO.out.own_le j hj)
          clear hown' hgr'
          go_wp2
          go_roundw
          case rel => exact ⟨k + 1, by omega, by go_num, R, X⟩
          case measure => simp [intOf]; omega
      have hP : pre q s = false := by
        rcases Nat.lt_or_ge q.size s.size with h5 | h5
        · exact pre_short q s h5
        · rw [pre_len q s (by omega), decide_eq_false hE]
      have HP := Lib.hid hP
      clear hP hE
      have HN := Lib.hid (begs_no (k := s) (h := hlt) (by rw [← HQ.out]; exact HP.out))
      go_wp2_with (first | (go_at_call 31; refine (prKeys_any _ _ HW.out).mono ?_; rintro e w' ⟨rfl, rfl⟩; rw [← HQ.out]))
      go_roundw
      case rel => exact ⟨k + 1, by omega, by go_num, by rw [HN.out]; exact HO.out, hx⟩
      case measure => simp [intOf]; omega
    · have HT := Lib.hid (show ss.take k = ss from List.take_of_length_le (by omega))
      go_wp2
      go_ret
      exact ⟨_, rfl, by rw [← HT.out]; exact HO.out, hx⟩

set_option maxHeartbeats 2000000 in
theorem wdJust_any (v : Value) (ss : List ByteArray) (s : ByteArray) (w : World) (h : Strs w v ss) (hd : dicB ss = true) (hs : s.size ≤ maxLen) : Calls Tryd.prog 37 #[v, .string s, .bool true] w (ResR (fors ss s) w) := by
  have HS := Lib.hid h
  have HM := Lib.hid h.2.1
  have h63 : s.size ≤ 9223372036854775807 := hs
  obtain ⟨hl1, hl2⟩ := dicB_len hd
  have HD := Lib.hid hd
  obtain ⟨a, cap, hv, hnil⟩ := h.at
  rw [hv] at HS ⊢
  clear hv hnil h v hd
  obtain ⟨i0, hi, hz0, hzs, hzb⟩ := info_parts info_strN
  have HI := Lib.hid (show Tryd.prog.info? 9 = some i0 ∧ i0.zero = some (.string ⟨#[]⟩) ∧ i0.size = 1 ∧ i0.bytes = 16 from ⟨hi, hz0, hzs, hzb⟩)
  clear hi hz0 hzs hzb
  go_enter Tryd.func37, Tryd.ntmps37
  go_wp2
  go_loopw [7, 13] (fun o i wr => ∃ k : Nat, k ≤ ss.length ∧ i = .int .i64 k ∧ RowS w.heap.size wr o (fors (ss.take k) s) ∧ Ext w wr) (fun _ i _ => ss.length - (intOf i).toNat)
  case atStart => exact ⟨0, Nat.zero_le _, rfl, RowS.nil _ _, Ext.refl _⟩
  case round =>
    obtain ⟨k, hk, rfl, hown, hx⟩ := hrel
    have HO := Lib.hid hown
    clear hown
    by_cases hlt : k < ss.length
    · rcases (HS.out.ext hx).2.2 with ⟨h3, _⟩ | ⟨b, off, cap', h4, hb, hc⟩
      · rw [h3] at hlt; exact absurd hlt (by simp)
      have ha : a = some ⟨b, off, none⟩ := by injection h4
      have e1 := hc k hlt
      have HW := Lib.hid (wdW_isW (dicB_at HD.out k hlt))
      have hkz : (keysB ss[k]).size ≤ 10 := by rw [keysB_size]; exact wdW_size (dicB_at HD.out k hlt)
      obtain ⟨q, hq⟩ : ∃ q, q = keysB ss[k] := ⟨_, rfl⟩
      have HQ := Lib.hid hq
      rw [← hq] at hkz
      have hlen : (fors (ss.take k) s).length ≤ 12 := Nat.le_trans (fors_len _ _) (by rw [List.length_take]; omega)
      rw [ha]
      clear hc h4 ha hb hq
      by_cases hE : q = s
      · have t1 : (q.toList == s.toList) = true := by rw [beqS, decide_eq_true hE]
        have HE := Lib.hid hE
        clear hE
        have HN := Lib.hid (fors_yes (k := s) (h := hlt) (by rw [← HQ.out]; exact HE.out))
        go_wp2_with (first | (go_at_call 31; refine (prKeys_any _ _ HW.out).mono ?_; rintro e w' ⟨rfl, rfl⟩; rw [← HQ.out]) | (at_builtin; refine wpList_append_own _ rfl _ _ 22 rfl w.heap.size 9 i0 (.string ⟨#[]⟩) 1 16 Tryd.underlying22 HI.out.1 HI.out.2.1 HI.out.2.2.1 HI.out.2.2.2 rfl (by decide) _ _ _ rfl (World.ownsRow.alloc HO.out _) ⟨wr.heap.size, 0, none⟩ 1 1 [.string ss[k]] rfl rfl (cell_one_new _ _ _) (oneS _) (by unfold maxLen; omega) (by omega) (by have := hx.size; simp; omega) ?_; intro v' w5 hown' hgr' _))
        have R : RowS w.heap.size w5 v' (fors (ss.take (k + 1)) s) := by
          rw [HN.out]
          unfold RowS
          rw [List.length_append, List.map_append]
          exact hown'
        have X : Ext w w5 := ext_grown (hx.alloc _) hgr' (fun j hj => HO.out.own_le j hj)
        clear hown' hgr'
        go_wp2
        go_roundw
        case rel => exact ⟨k + 1, by omega, by go_num, R, X⟩
        case measure => simp [intOf]; omega
      have t1 : (q.toList == s.toList) = false := by rw [beqS, decide_eq_false hE]
      have HE := Lib.hid hE
      clear hE
      have HN := Lib.hid (fors_no (k := s) (h := hlt) (by rw [← HQ.out]; exact HE.out))
      go_wp2_with (first | (go_at_call 31; refine (prKeys_any _ _ HW.out).mono ?_; rintro e w' ⟨rfl, rfl⟩; rw [← HQ.out]))
      go_roundw
      case rel => exact ⟨k + 1, by omega, by go_num, by rw [HN.out]; exact HO.out, hx⟩
      case measure => simp [intOf]; omega
    · have HT := Lib.hid (show ss.take k = ss from List.take_of_length_le (by omega))
      go_wp2
      go_ret
      exact ⟨_, rfl, by rw [← HT.out]; exact HO.out, hx⟩

end Go.Proofs.YtioinihlahnbfaaDoor
