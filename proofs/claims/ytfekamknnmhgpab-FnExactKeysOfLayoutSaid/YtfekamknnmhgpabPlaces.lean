/- Each letter is on one key of a layout; its key and place, alike by the program and by its model. No conditions but that the texts are not too long together. -/
import Derived.Test.YtfekamknnmhgpabLayout
namespace Go.Proofs.Ytfekamknnmhgpab
open Go.RowKit

theorem ret_int2 {a a' : Int} {k : IntKind} (h : a = a') : Ending.returned (.int k a) = .returned (.int k a') := by rw [h]

theorem ret_ii {a a' b b' : Int} {k l : IntKind} (h : a = a') (h2 : b = b') : Ending.returned (.tuple #[.int k a, .int l b]) = .returned (.tuple #[.int k a', .int l b']) := by rw [h, h2]
theorem ret_ib {a a' : Int} {b b' : Bool} {k : IntKind} (h : a = a') (h2 : b = b') : Ending.returned (.tuple #[.int k a, .bool b]) = .returned (.tuple #[.int k a', .bool b']) := by rw [h, h2]
def cnt (t : List Bool) : Nat := t.countP id
theorem cnt_set (t : List Bool) (i : Nat) (h : i < t.length) (hf : t.getD i false = false) : cnt (t.set i true) = cnt t + 1 := by
  induction t generalizing i with
  | nil => simp at h
  | cons b t ih =>
    cases i with
    | zero =>
      have : b = false := by simpa using hf
      subst this
      simp [cnt]
    | succ i =>
      have := ih i (by simpa using h) (by simpa using hf)
      simp only [List.set_cons_succ]
      unfold cnt at this ⊢
      simp only [List.countP_cons, this]
      omega
theorem markT_cnt : ∀ (l : List UInt8) (seen t : List Bool), seen.length = 26 → markT seen l = some t → cnt t = cnt seen + l.length
  | [], seen, t, _, h => by simp [markT] at h; rw [h]; simp
  | c :: l, seen, t, h26, h => by
    simp only [markT] at h
    split at h
    · rename_i hc
      simp only [Bool.and_eq_true, Bool.not_eq_true'] at hc
      have hs := slot_lt hc.1
      have := markT_cnt l _ t (by rw [List.length_set]; exact h26) h
      rw [this, cnt_set seen _ (by omega) hc.2, List.length_cons]
      omega
    · cases h
theorem markS_cnt : ∀ (ss : List ByteArray) (seen t : List Bool), seen.length = 26 → markS seen ss = some t → cnt t = cnt seen + sumLen ss
  | [], seen, t, _, h => by simp [markS] at h; rw [h]; simp [sumLen]
  | s :: l, seen, t, h26, h => by
    simp only [markS] at h
    split at h
    · cases h
    · cases he : markT seen s.data.toList with
      | none => rw [he] at h; cases h
      | some u =>
        rw [he] at h
        have h1 := markT_cnt _ _ _ h26 he
        have h2 := markS_cnt l u t (by rw [markT_len _ _ _ he]; exact h26) h
        have h3 : s.data.toList.length = s.size := by simp
        simp only [sumLen]
        omega
theorem markT_from : ∀ (l : List UInt8) (seen t : List Bool) (i : Nat), markT seen l = some t → t.getD i false = true → seen.getD i false = true ∨ ∃ c ∈ l, isL c.toNat = true ∧ slot c = i
  | [], seen, t, i, h, hi => by simp [markT] at h; rw [h]; exact .inl hi
  | c :: l, seen, t, i, h, hi => by
    simp only [markT] at h
    split at h
    · rename_i hc
      simp only [Bool.and_eq_true, Bool.not_eq_true'] at hc
      rcases markT_from l _ t i h hi with h1 | ⟨d, hd, hd2⟩
      · by_cases e : slot c = i
        · exact .inr ⟨c, by simp, hc.1, e⟩
        · refine .inl ?_
          rw [List.getD_eq_getElem?_getD, List.getElem?_set_ne e, ← List.getD_eq_getElem?_getD] at h1
          exact h1
      · exact .inr ⟨d, by simp [hd], hd2⟩
    · cases h
theorem markS_from : ∀ (ss : List ByteArray) (seen t : List Bool) (i : Nat), markS seen ss = some t → t.getD i false = true → seen.getD i false = true ∨ ∃ s ∈ ss, ∃ c ∈ s.data.toList, isL c.toNat = true ∧ slot c = i
  | [], seen, t, i, h, hi => by simp [markS] at h; rw [h]; exact .inl hi
  | s :: l, seen, t, i, h, hi => by
    simp only [markS] at h
    split at h
    · cases h
    · cases he : markT seen s.data.toList with
      | none => rw [he] at h; cases h
      | some u =>
        rw [he] at h
        rcases markS_from l u t i h hi with h1 | ⟨d, hd, hd2⟩
        · rcases markT_from _ _ _ i he h1 with h2 | ⟨c, hc, hc2⟩
          · exact .inl h2
          · exact .inr ⟨s, by simp, c, hc, hc2⟩
        · exact .inr ⟨d, by simp [hd], hd2⟩
theorem all_true {t : List Bool} (h : cnt t = t.length) : ∀ b ∈ t, b = true := by
  have := List.countP_eq_length.1 h
  intro b hb
  simpa using this b hb
/-- In a layout each letter is on some key. -/
theorem layB_mem {ss : List ByteArray} (h : layB ss = true) (c : UInt8) (hc : isL c.toNat = true) : ∃ s ∈ ss, c ∈ s.data.toList := by
  unfold layB at h
  simp only [Bool.and_eq_true, decide_eq_true_eq] at h
  obtain ⟨⟨_, h2⟩, h3⟩ := h
  obtain ⟨t, ht⟩ := Option.isSome_iff_exists.1 h2
  have h26 : no26.length = 26 := rfl
  have hl := markS_len ss _ t ht
  have hcn := markS_cnt ss _ t h26 ht
  have h0 : cnt no26 = 0 := by decide
  have hs := slot_lt hc
  have hall := all_true (t := t) (by omega)
  have hi : t.getD (slot c) false = true := by
    rw [List.getD_eq_getElem?_getD, List.getElem?_eq_getElem (by omega)]
    exact hall _ (List.getElem_mem _)
  rcases markS_from ss _ t _ ht hi with h1 | ⟨s, hs2, d, hd, hd2, e⟩
  · exfalso
    have : no26.getD (slot c) false = false := by
      rw [List.getD_eq_getElem?_getD, List.getElem?_eq_getElem (by omega)]
      exact List.getElem_replicate (by rw [List.length_replicate]; omega)
    rw [this] at h1
    cases h1
  · refine ⟨s, hs2, ?_⟩
    have hd3 := slot_lt hd2
    have : d = c := by
      apply UInt8.toNat_inj.1
      unfold slot at e
      omega
    exact this ▸ hd

/-- The key of a letter, and its place. -/
def has (c : UInt8) (s : ByteArray) : Bool := s.data.toList.contains c
def kf (ss : List ByteArray) (c : UInt8) : Nat := ss.findIdx (has c)
def pf (ss : List ByteArray) (c : UInt8) : Nat := (ss.getD (kf ss c) ByteArray.empty).data.toList.findIdx (· == c)
theorem kf_lt {ss : List ByteArray} (h : layB ss = true) (c : UInt8) (hc : isL c.toNat = true) : kf ss c < ss.length := by
  obtain ⟨s, hs, hm⟩ := layB_mem h c hc
  exact List.findIdx_lt_length_of_exists ⟨s, hs, by simp [has, hm]⟩
theorem kf_hit {ss : List ByteArray} {c : UInt8} {k : Nat} (h : k < ss.length) (h1 : has c ss[k] = true) (h2 : ∀ i (hi : i < k), has c (ss[i]'(by omega)) = false) : kf ss c = k :=
  (List.findIdx_eq h).2 ⟨h1, fun j hj => h2 j hj⟩
theorem idx_has (l : List UInt8) (c : UInt8) : Lib.indexByte l c = if l.contains c then (l.findIdx (· == c) : Int) else -1 := by
  induction l with
  | nil => rfl
  | cons b l ih =>
    simp only [Lib.indexByte, ih, List.findIdx_cons, List.contains_cons]
    by_cases e : b = c
    · subst e; simp
    · have e1 : (b == c) = false := by simpa using e
      have e2 : (c == b) = false := by rw [beq_eq_false_iff_ne]; exact fun h => e h.symm
      rw [e1, e2]
      simp only [Bool.false_eq_true, if_false, Bool.false_or, cond_false]
      by_cases h : l.contains c = true
      · rw [if_pos h]
        have : ((l.findIdx (· == c) : Int) == -1) = false := by rw [beq_eq_false_iff_ne]; omega
        have hm : c ∈ l := by simpa using h
        rw [this]; simp [hm]
      · have hm : ¬ c ∈ l := by simpa using h
        rw [if_neg h]; simp [hm]

theorem idx_same (s : ByteArray) (c : UInt8) (w : World) : Calls Try.prog 29 #[.string s, .int .u8 (c.toNat : Int)] w fun e w' => e = .returned (.int .i64 (Lib.indexByte s.data.toList c)) ∧ w' = w := by
  refine (idx_any s _ w).mono fun e w' h => ⟨?_, h.2.symm⟩
  have e2 : ((c.toNat : Int)).toNat.toUInt8 = c := by simp
  rw [e2] at h
  exact h.1

set_option maxHeartbeats 1000000 in
theorem keyIn_any (v : Value) (ss : List ByteArray) (c : UInt8) (w : World) (h : Strs w v ss) (hn : ss.length ≤ 1048576) (hk : kf ss c < ss.length) : Calls Try.prog 28 #[v, .int .u8 (c.toNat : Int)] w fun e w' => e = .returned (.int .i64 (kf ss c)) ∧ w = w' := by
  have HS := Lib.hid h
  have HK := Lib.hid hk
  obtain ⟨a, cap, hv, _⟩ := h.at
  rw [hv] at HS ⊢
  clear hv h v hk
  go_enter Try.func28, Try.ntmps28
  go_wp2
  go_loop [9] (fun i => ∃ k : Nat, k ≤ ss.length ∧ i = .int .i64 k ∧ ∀ i (_ : i < k) (h : i < ss.length), has c ss[i] = false) (fun i => ss.length - (intOf i).toNat)
  case atStart => exact ⟨0, Nat.zero_le _, rfl, fun i h _ => absurd h (by omega)⟩
  case round =>
    obtain ⟨k, hk, rfl, hno⟩ := hrel
    have HN := Lib.hid hno
    clear hno
    by_cases hlt : k < ss.length
    · rcases HS.out.2.2 with ⟨h2, _⟩ | ⟨b, off, cap', h1, hb, hc⟩
      · rw [h2] at hlt; exact absurd hlt (by simp)
      have ha : a = some ⟨b, off, none⟩ := by injection h1
      have hcell := hc k hlt
      rw [ha]
      clear hc h1 ha hb
      have HI := Lib.hid (idx_has ss[k].data.toList c)
      cases hh : has c ss[k]
      · have hx : Lib.indexByte ss[k].data.toList c = -1 := by rw [HI.out]; exact if_neg (by unfold has at hh; rw [hh]; decide)
        have HH := Lib.hid hh
        clear hh
        go_wp2_with (go_at_call 29; refine (idx_same _ _ _).mono ?_; rintro e w' ⟨rfl, hw⟩; subst hw)
        go_round
        case rel =>
          refine ⟨k + 1, by omega, by go_num, fun i hi hi2 => ?_⟩
          by_cases e : i = k
          · subst e; exact HH.out
          · exact HN.out i (by omega) hi2
        case measure => simp [intOf]; omega
      · have hx : 0 ≤ Lib.indexByte ss[k].data.toList c := by rw [HI.out, if_pos (show ss[k].data.toList.contains c = true from hh)]; omega
        have HF := Lib.hid (kf_hit hlt hh (fun i hi => HN.out i hi (by omega)))
        clear hh
        go_wp2_with (go_at_call 29; refine (idx_same _ _ _).mono ?_; rintro e w' ⟨rfl, hw⟩; subst hw)
        go_ret
        exact ⟨ret_int2 (by rw [HF.out]), rfl⟩
    · exfalso
      have hk2 := HK.out
      obtain rfl : k = ss.length := by omega
      have := List.findIdx_getElem (xs := ss) (p := has c) (w := hk2)
      have h3 := HN.out _ hk2 hk2
      unfold kf at h3
      rw [h3] at this
      cases this

theorem has_at {c : UInt8} {s : ByteArray} {j : Nat} (h : j < s.size) (e : s[j] = c) : has c s = true := by
  have hm : s[j] ∈ s.data.toList := by
    have h2 : j < s.data.toList.length := by simpa using h
    have : s.data.toList[j] = s[j] := rfl
    rw [← this]; exact List.getElem_mem h2
  unfold has
  rw [e] at hm
  simpa using hm
theorem pf_hit {ss : List ByteArray} {c : UInt8} {k j : Nat} (h : k < ss.length) (hk : kf ss c = k) (hj : j < ss[k].size) (h1 : ss[k][j] = c) (h2 : ∀ i (hi : i < j), ss[k][i]'(by omega) ≠ c) : pf ss c = j := by
  unfold pf
  rw [hk, List.getD_eq_getElem?_getD, List.getElem?_eq_getElem h]
  show ss[k].data.toList.findIdx (· == c) = j
  have hj2 : j < ss[k].data.toList.length := by simpa using hj
  refine (List.findIdx_eq hj2).2 ⟨?_, fun i hi => ?_⟩
  · rw [show ss[k].data.toList[j] = ss[k][j] from rfl, h1]; simp
  · have := h2 i hi
    rw [show ss[k].data.toList[i]'(by omega) = ss[k][i]'(by omega) from rfl]
    simpa using this

set_option maxHeartbeats 2000000 in
theorem prPlace_any (v : Value) (ss : List ByteArray) (c : UInt8) (w : World) (h : Strs w v ss) (hn : ss.length ≤ 1048576) (hb : sumLen ss ≤ 1048576) (hk : kf ss c < ss.length) : Calls Try.prog 26 #[v, .int .u8 (c.toNat : Int)] w fun e w' => e = .returned (.tuple #[.int .i64 (kf ss c), .int .i64 ((pf ss c : Int) + 1)]) ∧ w = w' := by
  have HS := Lib.hid h
  have HK := Lib.hid hk
  obtain ⟨a, cap, hv, _⟩ := h.at
  rw [hv] at HS ⊢
  clear hv h v hk
  go_enter Try.func26, Try.ntmps26
  go_wp2
  go_loop [11] (fun i => ∃ k : Nat, k ≤ ss.length ∧ i = .int .i64 k ∧ ∀ i (_ : i < k) (h : i < ss.length), has c ss[i] = false) (fun i => ss.length - (intOf i).toNat)
  case atStart => exact ⟨0, Nat.zero_le _, rfl, fun i h _ => absurd h (by omega)⟩
  case round =>
    obtain ⟨k, hk, rfl, hno⟩ := hrel
    have HN := Lib.hid hno
    clear hno
    by_cases hlt : k < ss.length
    · rcases HS.out.2.2 with ⟨h2, _⟩ | ⟨b, off, cap', h1, hbb, hc⟩
      · rw [h2] at hlt; exact absurd hlt (by simp)
      have ha : a = some ⟨b, off, none⟩ := by injection h1
      have hcell := hc k hlt
      have hsz : ss[k].size ≤ 1048576 := by
        have := sumLen_take ss (k + 1)
        rw [takeS ss k hlt, sumLen_snoc] at this
        omega
      rw [ha]
      clear hc h1 ha hbb
      go_wp2
      go_loop [8] (fun i => ∃ j : Nat, j ≤ ss[k].size ∧ i = .int .i64 j ∧ ∀ i (_ : i < j) (h : i < ss[k].size), ss[k][i] ≠ c) (fun i => ss[k].size - (intOf i).toNat)
      case atStart => exact ⟨0, Nat.zero_le _, rfl, fun i h _ => absurd h (by omega)⟩
      case round =>
        obtain ⟨j, hj, rfl, hnj⟩ := hrel
        have HJ := Lib.hid hnj
        clear hnj
        by_cases hjl : j < ss[k].size
        · by_cases e : ss[k][j] = c
          · have ht : ((ss[k][j].toNat : Int) == (c.toNat : Int)) = true := by rw [e]; simp
            have HKF := Lib.hid (kf_hit hlt (has_at hjl e) (fun i hi => HN.out i hi (by omega)))
            have HPF := Lib.hid (pf_hit hlt HKF.out hjl e (fun i hi => HJ.out i hi (by omega)))
            clear e
            go_wp2
            go_ret2
            exact ⟨ret_ii (by rw [HKF.out]) (by rw [HPF.out]), rfl⟩
          · have ht : ((ss[k][j].toNat : Int) == (c.toNat : Int)) = false := by
              rw [beq_eq_false_iff_ne]
              intro h
              apply e
              apply UInt8.toNat_inj.1
              omega
            have HE := Lib.hid e
            clear e
            go_wp2
            go_round
            case rel =>
              refine ⟨j + 1, by omega, by go_num, fun i hi hi2 => ?_⟩
              by_cases e : i = j
              · subst e; exact HE.out
              · exact HJ.out i (by omega) hi2
            case measure => simp [intOf]; omega
        · go_wp2
          go_round
          case rel =>
            refine ⟨k + 1, by omega, by go_num, fun i hi hi2 => ?_⟩
            by_cases e : i = k
            · subst e
              cases hh : has c ss[i]
              · rfl
              · exfalso
                unfold has at hh
                obtain ⟨m, hm, hm2⟩ := List.getElem_of_mem (show c ∈ ss[i].data.toList by simpa using hh)
                exact HJ.out m (by have : m < ss[i].size := by simpa using hm
                                   omega) (by simpa using hm) hm2
            · exact HN.out i (by omega) hi2
          case measure => simp [intOf]; omega
    · exfalso
      have hk2 := HK.out
      obtain rfl : k = ss.length := by omega
      have := List.findIdx_getElem (xs := ss) (p := has c) (w := hk2)
      have h3 := HN.out _ hk2 hk2
      unfold kf at h3
      rw [h3] at this
      cases this

theorem size_le_sum : ∀ (ss : List ByteArray) (k : Nat), (ss.getD k ByteArray.empty).size ≤ sumLen ss
  | [], k => by simp [sumLen]
  | s :: l, 0 => by simp [sumLen]
  | s :: l, k + 1 => by
    have := size_le_sum l k
    simp only [List.getD_cons_succ, sumLen]
    omega
theorem pf_le (ss : List ByteArray) (c : UInt8) : pf ss c ≤ sumLen ss := by
  have h1 := size_le_sum ss (kf ss c)
  have h2 : (ss.getD (kf ss c) ByteArray.empty).data.toList.findIdx (· == c) ≤ (ss.getD (kf ss c) ByteArray.empty).data.toList.length := List.findIdx_le_length
  have h3 : (ss.getD (kf ss c) ByteArray.empty).data.toList.length = (ss.getD (kf ss c) ByteArray.empty).size := by simp
  unfold pf
  omega
theorem wsize {s : ByteArray} (h : isW s = true) : 1 ≤ s.size ∧ s.size ≤ 40 := by unfold isW at h; simp at h; exact h.1
theorem wget {s : ByteArray} (h : isW s = true) (i : Nat) (hi : i < s.size) : isL s[i].toNat = true := by
  unfold isW at h
  simp only [Bool.and_eq_true, List.all_eq_true] at h
  have h2 : i < s.data.toList.length := by simpa using hi
  exact h.2 s[i] (by have : s.data.toList[i] = s[i] := rfl; rw [← this]; exact List.getElem_mem h2)
theorem wtake (s : ByteArray) (k : Nat) (h : k < s.size) : s.data.toList.take (k + 1) = s.data.toList.take k ++ [s[k]] := by
  rw [List.take_succ_eq_append_getElem (by simpa using h)]; rfl
theorem wall (s : ByteArray) (k : Nat) (h : s.size ≤ k) : s.data.toList.take k = s.data.toList := List.take_of_length_le (by simpa using h)

end Go.Proofs.Ytfekamknnmhgpab
