/- JoinCodes: one code instead of all that it begins. No conditions. -/
import Derived.Test.YtinojlbnmnlmhaaDrj
import Derived.Test.YtinojlbnmnlmhaaPlA
namespace Go.Proofs.Ytinojlbnmnlmhaa
open Go.RowKit

/-- Whether a code begins some code of a list. -/
def bgA (c : ByteArray) (ss : List ByteArray) : Bool := ss.any (bgB c)
def bgO (ss : List ByteArray) (c : ByteArray) : Bool := ss.any fun x => bgB x c
theorem bgA_mem {c : ByteArray} {ss : List ByteArray} (h : bgA c ss = true) : ∃ t ∈ ss, bgB c t = true := List.any_eq_true.1 h
theorem bgO_mem {c : ByteArray} {ss : List ByteArray} (h : bgO ss c = true) : ∃ t ∈ ss, bgB t c = true := List.any_eq_true.1 h
theorem hasS_iff {ss : List ByteArray} {s : ByteArray} : hasS ss s = true ↔ s ∈ ss := by
  constructor
  · intro h
    obtain ⟨h1, h2⟩ := fx_at h
    rw [← h2]; exact List.getElem_mem h1
  · intro h
    unfold hasS fx
    exact decide_eq_true (List.findIdx_lt_length_of_exists ⟨s, h, decide_eq_true rfl⟩)
theorem kept_lt {c : ByteArray} {ss : List ByteArray} (h : bgA c ss = true) : (keptB c ss).length < ss.length := by
  obtain ⟨t, ht, hb⟩ := bgA_mem h
  unfold keptB
  exact List.length_filter_lt_length_iff_exists.2 ⟨t, ht, by simp [hb]⟩
theorem kept_all {c : ByteArray} {ss : List ByteArray} (h : bgA c ss = false) : keptB c ss = ss := by
  unfold keptB
  refine List.filter_eq_self.2 fun t ht => ?_
  unfold bgA at h
  rw [List.any_eq_false] at h
  have := h t ht
  simpa using this
def okJ (ss : List ByteArray) (c : ByteArray) : Bool := plB ss && (isDg 1 6 c && (!bgO ss c && bgA c ss))
def vJ (ss : List ByteArray) (c : ByteArray) : List ByteArray := if okJ ss c then putL (keptB c ss) c else []
theorem okJ_p {ss : List ByteArray} {c : ByteArray} (h : plB ss = false) : okJ ss c = false := by unfold okJ; rw [h]; rfl
theorem okJ_g {ss : List ByteArray} {c : ByteArray} (h : isDg 1 6 c = false) : okJ ss c = false := by unfold okJ; rw [h]; simp
theorem okJ_o {ss : List ByteArray} {c : ByteArray} (h : bgO ss c = true) : okJ ss c = false := by unfold okJ; rw [h]; simp
theorem okJ_a {ss : List ByteArray} {c : ByteArray} (h : bgA c ss = false) : okJ ss c = false := by unfold okJ; rw [h]; simp
theorem okJ_y {ss : List ByteArray} {c : ByteArray} (h : plB ss = true) (h2 : isDg 1 6 c = true) (h3 : bgO ss c = false) (h4 : bgA c ss = true) : okJ ss c = true := by unfold okJ; rw [h, h2, h3, h4]; rfl
theorem vJ_no {ss : List ByteArray} {c : ByteArray} (h : okJ ss c = false) : vJ ss c = [] := by unfold vJ; rw [h]; rfl
theorem vJ_yes {ss : List ByteArray} {c : ByteArray} (h : okJ ss c = true) : vJ ss c = putL (keptB c ss) c := by unfold vJ; rw [h]; rfl
theorem in_over {ss : List ByteArray} {c : ByteArray} (h : c ∈ ss) : bgO ss c = true := List.any_eq_true.2 ⟨c, h, bg_refl c⟩
theorem not_over {ss : List ByteArray} {c : ByteArray} (hp : PlB ss) (hn : ¬ c ∈ ss) (h : bgA c ss = true) : bgO ss c = false := by
  cases ho : bgO ss c
  · rfl
  · obtain ⟨t, ht, hb⟩ := bgA_mem h
    obtain ⟨x, hx, hb2⟩ := bgO_mem ho
    have e := hp.nb x hx t ht (bg_trans hb2 hb)
    subst e
    exact absurd (by rw [bg_anti hb hb2]; exact hx) hn
theorem kept_inc {ss : List ByteArray} {c : ByteArray} (hp : PlB ss) : Inc (keptB c ss) := hp.inc.sublist (kept_sub c ss)
theorem kept_nin {ss : List ByteArray} {c : ByteArray} : ¬ c ∈ keptB c ss := by
  unfold keptB
  rw [List.mem_filter]
  rintro ⟨_, h⟩
  rw [bg_refl] at h
  cases h
theorem join_plan {ss : List ByteArray} {c : ByteArray} (hp : PlB ss) (hg : isDg 1 6 c = true) (ho : bgO ss c = false) (ha : bgA c ss = true) : PlB (putL (keptB c ss) c) := by
  have hl := putL_out (kept_nin (ss := ss) (c := c))
  have hk := kept_lt ha
  have hl2 := hp.l2
  have hno : ∀ x ∈ ss, bgB x c = false := fun x hx => by
    unfold bgO at ho
    rw [List.any_eq_false] at ho
    simpa using ho x hx
  have hkn : ∀ x ∈ keptB c ss, bgB c x = false := fun x hx => by
    have := (List.mem_filter.1 hx).2
    simpa using this
  refine ⟨by omega, by omega, fun s hs => ?_, putL_inc _ (kept_inc hp), fun s hs t ht hb => ?_⟩
  · rcases (putL_mem _ _ _).1 hs with h | h
    · exact hp.cd s (keptB_mem h)
    · exact h ▸ hg
  · rcases (putL_mem _ _ _).1 hs with h | h
    · rcases (putL_mem _ _ _).1 ht with h2 | h2
      · exact hp.nb s (keptB_mem h) t (keptB_mem h2) hb
      · subst h2; rw [hno s (keptB_mem h)] at hb; cases hb
    · rcases (putL_mem _ _ _).1 ht with h2 | h2
      · subst h; rw [hkn t h2] at hb; cases hb
      · rw [h, h2]
theorem join_mp {ss : List ByteArray} {c : ByteArray} (hp : plB ss = true) (hn : ¬ c ∈ ss) (ha : bgA c ss = true) : mpB (keptB c ss ++ [c]) = okJ ss c ∧ mpV (keptB c ss ++ [c]) = vJ ss c := by
  have HP := plB_iff.1 hp
  have ho := not_over HP hn ha
  cases hg : isDg 1 6 c
  · rw [okJ_g hg, vJ_no (okJ_g hg)]
    exact ⟨add_bad hg, mpV_no (add_bad hg)⟩
  · have hpl := join_plan HP hg ho ha
    have hm : mpB (keptB c ss ++ [c]) = true := by
      rw [add_out (kept_inc HP) (fun t ht => HP.cd t (keptB_mem ht)) hg kept_nin]
      exact plB_iff.2 hpl
    rw [okJ_y hp hg ho ha, vJ_yes (okJ_y hp hg ho ha)]
    exact ⟨hm, by rw [mpV_yes hm, putAll_add c (kept_inc HP)]⟩
theorem vJ_len (ss : List ByteArray) (c : ByteArray) : (vJ ss c).length ≤ 1048576 := by
  cases h : okJ ss c
  · rw [vJ_no h]; exact Nat.zero_le _
  · have h2 := h
    unfold okJ at h2
    rw [Bool.and_eq_true] at h2
    have := (plB_iff.1 h2.1).l2
    have := keptB_len c ss
    have := putL_len (keptB c ss) c
    rw [vJ_yes h]
    omega
theorem vJ_sz (ss : List ByteArray) (c : ByteArray) : ∀ t ∈ vJ ss c, t.size ≤ maxLen := by
  intro t ht
  cases h : okJ ss c
  · rw [vJ_no h] at ht; cases ht
  · rw [vJ_yes h] at ht
    unfold okJ at h
    rw [Bool.and_eq_true, Bool.and_eq_true] at h
    have hd : isDg 1 6 t = true := by
      rcases (putL_mem _ _ _).1 ht with h2 | h2
      · exact (plB_iff.1 h.1).cd t (keptB_mem h2)
      · exact h2 ▸ h.2.1
    have := isDg_size hd
    unfold maxLen
    omega

theorem begAny_any (v : Value) (ss : List ByteArray) (c : ByteArray) (w : World) (h : Strs w v ss) : Calls Try.prog 84 #[.string c, v] w fun e w' => e = .returned (.bool (bgA c ss)) ∧ Ext w w' := by
  have X0 := Lib.hid (show Ext w (w.alloc (.cells #[.string c] 9)) from (Ext.refl w).alloc _)
  have HC := Lib.hid (contf_ba c v ss w.heap.size _ (heap_alloc_new w (.cells #[.string c] 9)) (h.ext X0.out))
  obtain ⟨q, hq⟩ : ∃ q, q = ss.any (bgB c) := ⟨_, rfl⟩
  have HQ := Lib.hid hq
  simp only [← hq] at HC
  clear h hq
  go_enter Try.func84, Try.ntmps84
  go_wp2_with (go_at_call 104; refine HC.out.mono ?_; rintro e w' ⟨rfl, rfl⟩)
  go_ret
  exact ⟨ret_bool HQ.out, X0.out⟩

set_option maxRecDepth 100000 in
set_option maxHeartbeats 1000000 in
theorem jnI_any (v : Value) (ss : List ByteArray) (c : ByteArray) (w : World) (h : Strs w v ss) (hs : c.size ≤ maxLen) (hcap : CapOk v) : Calls Try.prog 48 #[v, .string c] w (ResS (vJ ss c) (okJ ss c) w) := by
  have HS := Lib.hid h
  have HC := Lib.hid hcap
  clear h hcap
  cases h1 : plB ss
  · have HV := Lib.hid (okJ_p (c := c) h1)
    go_enter Try.func48, Try.ntmps48
    go_wp2_with (go_at_call 18; refine (isPl_any _ _ _ HS.out HC.out).mono ?_; rintro e w1 ⟨rfl, x1⟩; rw [h1])
    go_ret2
    exact ⟨_, ret_vb HV.out.symm, by rw [vJ_no HV.out]; exact RowS.nil _ _, x1⟩
  cases h2 : hasS ss c
  rotate_left
  · have HV := Lib.hid (okJ_o (ss := ss) (in_over (hasS_iff.1 h2)))
    go_enter Try.func48, Try.ntmps48
    go_wp2_with (first | (go_at_call 18; refine (isPl_any _ _ _ HS.out HC.out).mono ?_; rintro e w1 ⟨rfl, x1⟩; rw [h1]) | (go_at_call 83; refine (contains_any _ _ _ _ (HS.out.ext x1)).mono ?_; rintro e w2 ⟨rfl, x2⟩; rw [h2]))
    go_ret2
    exact ⟨_, ret_vb HV.out.symm, by rw [vJ_no HV.out]; exact RowS.nil _ _, x1.trans x2⟩
  cases h3 : bgA c ss
  · have HV := Lib.hid (okJ_a (ss := ss) h3)
    go_enter Try.func48, Try.ntmps48
    go_wp2_with (first | (go_at_call 18; refine (isPl_any _ _ _ HS.out HC.out).mono ?_; rintro e w1 ⟨rfl, x1⟩; rw [h1]) | (go_at_call 83; refine (contains_any _ _ _ _ (HS.out.ext x1)).mono ?_; rintro e w2 ⟨rfl, x2⟩; rw [h2]) | (go_at_call 84; refine (begAny_any _ _ _ _ (HS.out.ext (x1.trans x2))).mono ?_; rintro e w3 ⟨rfl, x3⟩; rw [h3]))
    go_ret2
    exact ⟨_, ret_vb HV.out.symm, by rw [vJ_no HV.out]; exact RowS.nil _ _, (x1.trans x2).trans x3⟩
  have HP := Lib.hid (plB_iff.1 h1)
  have hl2 := HP.out.l2
  have HJ := Lib.hid (join_mp h1 (fun h => by rw [hasS_iff.2 h] at h2; cases h2) h3)
  have HKL := Lib.hid (keptB_len c ss)
  have HG := Lib.hid (show plB ss = true ∧ hasS ss c = false ∧ bgA c ss = true from ⟨h1, h2, h3⟩)
  have HONE := Lib.hid (show ∀ w1 : World, HoldsS (w1.alloc (.cells #[.string c] 9)) ⟨w1.heap.size, 0, none⟩ [c] from fun w1 => ⟨by simp, fun j u hu => cell_one_new w1 (.string c) 9 j u (by simpa using hu)⟩)
  obtain ⟨l, hl⟩ : ∃ l, l = keptB c ss ++ [c] := ⟨_, rfl⟩
  have HL := Lib.hid hl
  have hll : l.length ≤ 21 := by rw [hl, List.length_append, List.length_singleton]; have := HKL.out; omega
  have HZ := Lib.hid (show ∀ t ∈ l, t.size ≤ maxLen from fun t ht => by
    rw [hl] at ht
    rcases List.mem_append.1 ht with h1 | h1
    · exact HS.out.2.1 t (keptB_mem h1)
    · rw [List.mem_singleton] at h1; exact h1 ▸ hs)
  rw [← hl] at HJ
  clear h1 h2 h3 hl
  go_enter Try.func48, Try.ntmps48
  go_wp2_with (first | (go_at_call 18; refine (isPl_any _ _ _ HS.out HC.out).mono ?_; rintro e w1 ⟨rfl, x1⟩; rw [HG.out.1]) | (go_at_call 83; refine (contains_any _ _ _ _ (HS.out.ext x1)).mono ?_; rintro e w2 ⟨rfl, x2⟩; rw [HG.out.2.1]) | (go_at_call 84; refine (begAny_any _ _ _ _ (HS.out.ext (x1.trans x2))).mono ?_; rintro e w3 ⟨rfl, x3⟩; rw [HG.out.2.2]; have X3 := Lib.hid ((x1.trans x2).trans x3)) | (go_at_call 85; refine (excS_any _ ss c ⟨w3.heap.size, 0, none⟩ 1 1 [c] _ (HS.out.ext (X3.out.alloc _)) HP.out.l1 hl2 rfl (by omega) (HONE.out w3)).mono ?_; rintro e w4 ⟨v4, rfl, r4, x4⟩; rw [← HL.out] at r4; have R4 := Lib.hid r4; have X4 := Lib.hid ((X3.out.alloc _).trans x4); clear r4 x4) | (go_at_call 21; refine (mkpl_any _ l _ (R4.out.strs (by unfold maxLen; omega) HZ.out)).mono ?_; rintro e w5 ⟨v5, rfl, r5, x5⟩; have R5 := Lib.hid r5; clear r5))
  go_ret2
  exact ⟨_, ret_vb HJ.out.1, by rw [← HJ.out.2]; exact R5.out.down X4.out.size, X4.out.trans x5⟩

/-! ### The model's -/
theorem kept_take (c : ByteArray) (ss : List ByteArray) (k : Nat) (h : k < ss.length) : keptB c (ss.take (k + 1)) = keptB c (ss.take k) ++ (if bgB c ss[k] = true then [] else [ss[k]]) := by
  unfold keptB
  rw [takeS ss k h, List.filter_append]
  cases e : bgB c ss[k] <;> simp [e]

set_option maxRecDepth 100000 in
set_option maxHeartbeats 2000000 in
theorem jnS_any (v : Value) (ss : List ByteArray) (c : ByteArray) (w : World) (h : Strs w v ss) (hs : c.size ≤ maxLen) : Calls Try.prog 47 #[v, .string c] w (ResS (vJ ss c) (okJ ss c) w) := by
  have HS := Lib.hid h
  obtain ⟨a, cap, hv, _⟩ := h.at
  rw [hv] at HS ⊢
  clear hv h v
  cases h1 : plB ss
  · have HV := Lib.hid (okJ_p (c := c) h1)
    go_enter Try.func47, Try.ntmps47
    go_wp2_with (go_at_call 51; refine (plGood_any _ _ _ HS.out).mono ?_; rintro e w1 ⟨rfl, x1⟩; rw [h1])
    go_ret2
    exact ⟨_, ret_vb HV.out.symm, by rw [vJ_no HV.out]; exact RowS.nil _ _, x1⟩
  cases h2 : isDg 1 6 c
  · have HV := Lib.hid (okJ_g (ss := ss) h2)
    go_enter Try.func47, Try.ntmps47
    go_wp2_with (first | (go_at_call 51; refine (plGood_any _ _ _ HS.out).mono ?_; rintro e w1 ⟨rfl, x1⟩; rw [h1]) | (go_at_call 63; refine (plCode_any _ _ hs).mono ?_; rintro e w' ⟨rfl, rfl⟩; rw [h2]))
    go_ret2
    exact ⟨_, ret_vb HV.out.symm, by rw [vJ_no HV.out]; exact RowS.nil _ _, x1⟩
  have HP := Lib.hid (plB_iff.1 h1)
  have hl2 := HP.out.l2
  have hl1 := HP.out.l1
  have HG := Lib.hid (show plB ss = true ∧ isDg 1 6 c = true from ⟨h1, h2⟩)
  obtain ⟨A, hA⟩ : ∃ A, A = ars ss c := ⟨_, rfl⟩
  have HAA := Lib.hid hA
  cases h3 : bgO ss c
  rotate_left
  · have HV := Lib.hid (okJ_o (ss := ss) h3)
    have t1 : (A.toList == []) = false := emp_n (by rw [hA]; exact ars_ne HP.out h3)
    clear h1 h2 h3 hA
    go_enter Try.func47, Try.ntmps47
    go_wp2_with (first | (go_at_call 51; refine (plGood_any _ _ _ HS.out).mono ?_; rintro e w1 ⟨rfl, x1⟩; rw [HG.out.1]) | (go_at_call 63; refine (plCode_any _ _ hs).mono ?_; rintro e w' ⟨rfl, rfl⟩; rw [HG.out.2]) | (go_at_call 61; refine (plArea_any _ _ _ _ (HS.out.ext x1)).mono ?_; rintro e w' ⟨rfl, rfl⟩; rw [← HAA.out]))
    go_ret2
    exact ⟨_, ret_vb HV.out.symm, by rw [vJ_no HV.out]; exact RowS.nil _ _, x1⟩
  have HO := Lib.hid h3
  have t1 : (A.toList == []) = true := emp_b (by rw [hA, ars_no h3]; rfl)
  have HJY := Lib.hid (fun h4 => okJ_y h1 h2 h3 h4)
  clear h1 h2 h3 hA
  go_enter Try.func47, Try.ntmps47
  go_wp2_with (first | (go_at_call 51; refine (plGood_any _ _ _ HS.out).mono ?_; rintro e w1 ⟨rfl, x1⟩; rw [HG.out.1]) | (go_at_call 63; refine (plCode_any _ _ hs).mono ?_; rintro e w' ⟨rfl, rfl⟩; rw [HG.out.2]) | (go_at_call 61; refine (plArea_any _ _ _ _ (HS.out.ext x1)).mono ?_; rintro e w' ⟨rfl, rfl⟩; rw [← HAA.out]))
  clear t1
  go_loopw [6, 25] (fun o i wr => ∃ k : Nat, k ≤ ss.length ∧ i = .int .i64 k ∧ RowS w.heap.size wr o (keptB c (ss.take k)) ∧ ((keptB c (ss.take k)).length = 0 → o = .slice none 0 0) ∧ Ext w wr) (fun _ i _ => ss.length - (intOf i).toNat)
  case atStart => exact ⟨0, Nat.zero_le _, rfl, RowS.nil _ _, fun _ => rfl, x1⟩
  case round =>
    obtain ⟨k, hk, rfl, hr, hn, hx⟩ := hrel
    have HR := Lib.hid hr
    have HN0 := Lib.hid hn
    clear hr hn
    by_cases hlt : k < ss.length
    · obtain ⟨b, off, ha, e1⟩ := (HS.out.ext hx).get2 k hlt
      have HLN := Lib.hid (show (keptB c (ss.take k)).length ≤ 1000000 from Nat.le_trans (keptB_len _ _) (by rw [List.length_take]; omega))
      have HT := Lib.hid (kept_take c ss k hlt)
      obtain ⟨t, ht⟩ : ∃ t, t = ss[k] := ⟨_, rfl⟩
      rw [← ht] at e1 HT
      clear ht
      subst ha
      cases hb : bgB c t
      · have HN := Lib.hid (show keptB c (ss.take (k + 1)) = keptB c (ss.take k) ++ [t] by rw [HT.out, hb]; rfl)
        have HB := Lib.hid hb
        clear hb
        go_wp2_with (first | (go_at_call 59; refine (plBeg_any _ _ _).mono ?_; rintro e w' ⟨rfl, rfl⟩; rw [HB.out]) | (at_builtin; refine app_str rfl _ _ rfl w w.heap.size _ _ _ _ rfl (by exact HR.out) hx (Nat.le_refl _) hx.size (by exact HLN.out) rfl ?_; intro v9 w9 r9 x9 _))
        go_roundw
        case rel => exact ⟨k + 1, by omega, by go_num, by rw [HN.out]; exact r9, fun h => by rw [HN.out, List.length_append] at h; simp at h, x9⟩
        case measure => simp [intOf]; omega
      · have HN := Lib.hid (show keptB c (ss.take (k + 1)) = keptB c (ss.take k) by rw [HT.out, hb]; simp)
        have HB := Lib.hid hb
        clear hb
        go_wp2_with (go_at_call 59; refine (plBeg_any _ _ _).mono ?_; rintro e w' ⟨rfl, rfl⟩; rw [HB.out])
        go_roundw
        case rel => exact ⟨k + 1, by omega, by go_num, by rw [HN.out]; exact HR.out, by rw [HN.out]; exact HN0.out, hx⟩
        case measure => simp [intOf]; omega
    · have HT := Lib.hid (show ss.take k = ss from List.take_of_length_le (by omega))
      rw [HT.out] at HR HN0
      cases h4 : bgA c ss
      · have HV := Lib.hid (okJ_a (ss := ss) h4)
        have HK := Lib.hid (kept_all h4)
        rw [HK.out] at HR
        obtain ⟨a3, cap3, ho3⟩ := HR.out.shape
        subst ho3
        clear h4
        go_wp2
        go_ret2
        exact ⟨_, ret_vb HV.out.symm, by rw [vJ_no HV.out]; exact RowS.nil _ _, hx⟩
      · have HV := Lib.hid (HJY.out h4)
        have hlt4 := kept_lt h4
        have HSZ := Lib.hid (show ∀ t ∈ keptB c ss, t.size ≤ maxLen from fun t ht => HS.out.2.1 t (keptB_mem ht))
        by_cases h0 : (keptB c ss).length = 0
        · have HE := Lib.hid (List.eq_nil_of_length_eq_zero h0)
          obtain rfl := HN0.out h0
          have hne : ¬ (0 : Int) = (ss.length : Int) := by omega
          clear h0 h4 hlt4
          go_wp2_with (go_at_call 55; refine (wdPut_nil _ _).mono ?_; rintro e w9 ⟨v9, rfl, r9, x9⟩)
          go_ret2
          exact ⟨_, ret_vb HV.out.symm, by rw [vJ_yes HV.out, HE.out]; exact r9.down hx.size, hx.trans x9⟩
        · obtain ⟨a3, cap3, ho3⟩ := HR.out.shape
          subst ho3
          have hne : ¬ ((keptB c ss).length : Int) = (ss.length : Int) := by omega
          have hpos : 0 < (keptB c ss).length := by omega
          have hh : (keptB c ss).length ≤ 100 := by omega
          clear h0 h4
          go_wp2_with (go_at_call 55; refine (wdPut_any w.heap.size _ _ _ _ HR.out hx.size hh HSZ.out hpos).mono ?_; rintro e w9 ⟨v9, rfl, r9, x9, _⟩)
          go_ret2
          exact ⟨_, ret_vb HV.out.symm, by rw [vJ_yes HV.out]; exact r9, hx.trans x9⟩

end Go.Proofs.Ytinojlbnmnlmhaa
