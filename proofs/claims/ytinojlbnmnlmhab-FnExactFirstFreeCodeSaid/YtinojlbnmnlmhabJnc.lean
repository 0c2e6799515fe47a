/- JoinCodes: one code instead of all that it begins. No conditions. -/
import Derived.Test.YtinojlbnmnlmhabDrj
import Derived.Test.YtinojlbnmnlmhabPlA
namespace Go.Proofs.Ytinojlbnmnlmhab
open Go.RowKit

/-- Whether a code begins some code of a list. -/
def bgA (c : ByteArray) (ss : List ByteArray) : Bool := ss.any (bgB c)
def bgO (ss : List ByteArray) (c : ByteArray) : Bool := ss.any fun x => bgB x c
theorem bgA_mem {c : ByteArray} {ss : List ByteArray} (h : bgA c ss = true) : ∃ t ∈ ss, bgB c t = true := List.any_eq_true.1 h
theorem bgO_mem {c : ByteArray} {ss : List ByteArray} (h : bgO ss c = true) : ∃ t ∈ ss, bgB t c = true := List.any_eq_true.1 h
theorem hasS_iff {ss : List ByteArray} {s : ByteArray} : hasS ss s = true ↔ s ∈ ss := by
  constructor
  · intro h
    obtain ⟨h1, h2⟩ := fx_at h
    rw [← h2]; exact List.getElem_mem h1
  · intro h
    unfold hasS fx
    exact decide_eq_true (List.findIdx_lt_length_of_exists ⟨s, h, decide_eq_true rfl⟩)
theorem kept_lt {c : ByteArray} {ss : List ByteArray} (h : bgA c ss = true) : (keptB c ss).length < ss.length := by
  obtain ⟨t, ht, hb⟩ := bgA_mem h
  unfold keptB
  exact List.length_filter_lt_length_iff_exists.2 ⟨t, ht, by simp [hb]⟩
theorem kept_all {c : ByteArray} {ss : List ByteArray} (h : bgA c ss = false) : keptB c ss = ss := by
  unfold keptB
  refine List.filter_eq_self.2 fun t ht => ?_
  unfold bgA at h
  rw [List.any_eq_false] at h
  have := h t ht
  simpa using this
def okJ (ss : List ByteArray) (c : ByteArray) : Bool := plB ss && (isDg 1 6 c && (!bgO ss c && bgA c ss))
def vJ (ss : List ByteArray) (c : ByteArray) : List ByteArray := if okJ ss c then putL (keptB c ss) c else []
theorem okJ_p {ss : List ByteArray} {c : ByteArray} (h : plB ss = false) : okJ ss c = false := by unfold okJ; rw [h]; rfl
theorem okJ_g {ss : List ByteArray} {c : ByteArray} (h : isDg 1 6 c = false) : okJ ss c = false := by unfold okJ; rw [h]; simp
theorem okJ_o {ss : List ByteArray} {c : ByteArray} (h : bgO ss c = true) : okJ ss c = false := by unfold okJ; rw [h]; simp
theorem okJ_a {ss : List ByteArray} {c : ByteArray} (h : bgA c ss = false) : okJ ss c = false := by unfold okJ; rw [h]; simp
theorem okJ_y {ss : List ByteArray} {c : ByteArray} (h : plB ss = true) (h2 : isDg 1 6 c = true) (h3 : bgO ss c = false) (h4 : bgA c ss = true) : okJ ss c = true := by unfold okJ; rw [h, h2, h3, h4]; rfl
theorem vJ_no {ss : List ByteArray} {c : ByteArray} (h : okJ ss c = false) : vJ ss c = [] := by unfold vJ; rw [h]; rfl
theorem vJ_yes {ss : List ByteArray} {c : ByteArray} (h : okJ ss c = true) : vJ ss c = putL (keptB c ss) c := by unfold vJ; rw [h]; rfl
theorem in_over {ss : List ByteArray} {c : ByteArray} (h : c ∈ ss) : bgO ss c = true := List.any_eq_true.2 ⟨c, h, bg_refl c⟩
theorem not_over {ss : List ByteArray} {c : ByteArray} (hp : PlB ss) (hn : ¬ c ∈ ss) (h : bgA c ss = true) : bgO ss c = false := by
  cases ho : bgO ss c
  · rfl
  · obtain ⟨t, ht, hb⟩ := bgA_mem h
    obtain ⟨x, hx, hb2⟩ := bgO_mem ho
    have e := hp.nb x hx t ht (bg_trans hb2 hb)
    subst e
    exact absurd (by rw [bg_anti hb hb2]; exact hx) hn
theorem kept_inc {ss : List ByteArray} {c : ByteArray} (hp : PlB ss) : Inc (keptB c ss) := hp.inc.sublist (kept_sub c ss)
theorem kept_nin {ss : List ByteArray} {c : ByteArray} : ¬ c ∈ keptB c ss := by
  unfold keptB
  rw [List.mem_filter]
  rintro ⟨_, h⟩
  rw [bg_refl] at h
  cases h
theorem join_plan {ss : List ByteArray} {c : ByteArray} (hp : PlB ss) (hg : isDg 1 6 c = true) (ho : bgO ss c = false) (ha : bgA c ss = true) : PlB (putL (keptB c ss) c) := by
  have hl := putL_out (kept_nin (ss := ss) (c := c))
  have hk := kept_lt ha
  have hl2 := hp.l2
  have hno : ∀ x ∈ ss, bgB x c = false := fun x hx => by
    unfold bgO at ho
    rw [List.any_eq_false] at ho
    simpa using ho x hx
  have hkn : ∀ x ∈ keptB c ss, bgB c x = false := fun x hx => by
    have := (List.mem_filter.1 hx).2
    simpa using this
  refine ⟨by omega, by omega, fun s hs => ?_, putL_inc _ (kept_inc hp), fun s hs t ht hb => ?_⟩
  · rcases (putL_mem _ _ _).1 hs with h | h
    · exact hp.cd s (keptB_mem h)
    · exact h ▸ hg
  · rcases (putL_mem _ _ _).1 hs with h | h
    · rcases (putL_mem _ _ _).1 ht with h2 | h2
      · exact hp.nb s (keptB_mem h) t (keptB_mem h2) hb
      · subst h2; rw [hno s (keptB_mem h)] at hb; cases hb
    · rcases (putL_mem _ _ _).1 ht with h2 | h2
      · subst h; rw [hkn t h2] at hb; cases hb
      · rw [h, h2]
theorem join_mp {ss : List ByteArray} {c : ByteArray} (hp : plB ss = true) (hn : ¬ c ∈ ss) (ha : bgA c ss = true) : mpB (keptB c ss ++ [c]) = okJ ss c ∧ mpV (keptB c ss ++ [c]) = vJ ss c := by
  have HP := plB_iff.1 hp
  have ho := not_over HP hn ha
  cases hg : isDg 1 6 c
  · rw [okJ_g hg, vJ_no (okJ_g hg)]
    exact ⟨add_bad hg, mpV_no (add_bad hg)⟩
  · have hpl := join_plan HP hg ho ha
    have hm : mpB (keptB c ss ++ [c]) = true := by
      rw [add_out (kept_inc HP) (fun t ht => HP.cd t (keptB_mem ht)) hg kept_nin]
      exact plB_iff.2 hpl
    rw [okJ_y hp hg ho ha, vJ_yes (okJ_y hp hg ho ha)]
    exact ⟨hm, by rw [mpV_yes hm, putAll_add c (kept_inc HP)]⟩
theorem vJ_len (ss : List ByteArray) (c : ByteArray) : (vJ ss c).length ≤ 1048576 := by
  cases h : okJ ss c
  · rw [vJ_no h]; exact Nat.zero_le _
  · have h2 := h
    unfold okJ at h2
    rw [Bool.and_eq_true] at h2
    have := (plB_iff.1 h2.1).l2
    have := keptB_len c ss
    have := putL_len (keptB c ss) c
    rw [vJ_yes h]
    omega
theorem vJ_sz (ss : List ByteArray) (c : ByteArray) : ∀ t ∈ vJ ss c, t.size ≤ maxLen := by
  intro t ht
  cases h : okJ ss c
  · rw [vJ_no h] at ht; cases ht
  · rw [vJ_yes h] at ht
    unfold okJ at h
    rw [Bool.and_eq_true, Bool.and_eq_true] at h
    have hd : isDg 1 6 t = true := by
      rcases (putL_mem _ _ _).1 ht with h2 | h2
      · exact (plB_iff.1 h.1).cd t (keptB_mem h2)
      · exact h2 ▸ h.2.1
    have := isDg_size hd
    unfold maxLen
    omega

theorem begAny_any (v : Value) (ss : List ByteArray) (c : ByteArray) (w : World) (h : Strs w v ss) : Calls Try.prog 98 #[.string c, v] w fun e w' => e = .returned (.bool (bgA c ss)) ∧ Ext w w' := by
  have X0 := Lib.hid (show Ext w (w.alloc (.cells #[.string c] 9)) from (Ext.refl w).alloc _)
  have HC := Lib.hid (contf_ba c v ss w.heap.size _ (heap_alloc_new w (.cells #[.string c] 9)) (h.ext X0.out))
  obtain ⟨q, hq⟩ : ∃ q, q = ss.any (bgB c) := ⟨_, rfl⟩
  have HQ := Lib.hid hq
  simp only [← hq] at HC
  clear h hq
  go_enter Try.func98, Try.ntmps98
  go_wp2_with (go_at_call 131; refine HC.out.mono ?_; rintro e w' ⟨rfl, rfl⟩)
  go_ret
  exact ⟨ret_bool HQ.out, X0.out⟩

/-! ### The model's -/
theorem kept_take (c : ByteArray) (ss : List ByteArray) (k : Nat) (h : k < ss.length) : keptB c (ss.take (k + 1)) = keptB c (ss.take k) ++ (if bgB c ss[k] = true then [] else [ss[k]]) := by
  unfold keptB
  rw [takeS ss k h, List.filter_append]
  cases e : bgB c ss[k] <;> simp [e]

end Go.Proofs.Ytinojlbnmnlmhab
