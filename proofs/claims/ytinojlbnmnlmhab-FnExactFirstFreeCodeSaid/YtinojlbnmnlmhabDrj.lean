/- DropCode and JoinCodes. No conditions. -/
import Derived.Test.YtinojlbnmnlmhabExc
import Derived.Test.YtinojlbnmnlmhabAdc
import Derived.Test.YtinojlbnmnlmhabTen
import Derived.Test.YtinojlbnmnlmhabSApp
namespace Go.Proofs.Ytinojlbnmnlmhab
open Go.RowKit

theorem plan_sub {ss l : List ByteArray} (h : PlB ss) (hs : l.Sublist ss) (h1 : 1 ≤ l.length) : PlB l :=
  ⟨h1, Nat.le_trans hs.length_le h.l2, fun s hm => h.cd s (hs.mem hm), h.inc.sublist hs, fun s hm t ht => h.nb s (hs.mem hm) t (hs.mem ht)⟩
theorem plan_mp {l : List ByteArray} (h : PlB l) : mpB l = true ∧ mpV l = l := by
  have e : putAll l = l := putAll_of h.inc
  have hm : mpB l = true := mpB_iff.2 ⟨by rw [e]; exact h, by rw [e]⟩
  exact ⟨hm, by rw [mpV_yes hm, e]⟩
theorem mp_nil : mpB [] = false := by decide +kernel
theorem kept_sub (c : ByteArray) (ss : List ByteArray) : (keptB c ss).Sublist ss := List.filter_sublist
theorem kept_drop {ss : List ByteArray} {s : ByteArray} (h : PlB ss) (hs : s ∈ ss) : keptB s ss = less1 ss s := by
  unfold keptB less1
  refine List.filter_congr fun t ht => ?_
  by_cases e : t = s
  · subst e; rw [bg_refl]; simp
  · rw [decide_eq_true e]
    cases hb : bgB s t
    · rfl
    · exact absurd (h.nb s hs t ht hb).symm e

/-! ### DropCode -/
def okR (ss : List ByteArray) (s : ByteArray) : Bool := plHas ss s && decide (¬ ss.length = 1)
def vR (ss : List ByteArray) (s : ByteArray) : List ByteArray := if okR ss s then less1 ss s else []
theorem okR_p {ss : List ByteArray} {s : ByteArray} (h : plHas ss s = false) : okR ss s = false := by unfold okR; rw [h]; rfl
theorem okR_1 {ss : List ByteArray} {s : ByteArray} (h : ss.length = 1) : okR ss s = false := by unfold okR; rw [decide_eq_false (by omega), Bool.and_false]
theorem okR_y {ss : List ByteArray} {s : ByteArray} (h : plHas ss s = true) (h2 : ¬ ss.length = 1) : okR ss s = true := by unfold okR; rw [h, decide_eq_true h2]; rfl
theorem vR_no {ss : List ByteArray} {s : ByteArray} (h : okR ss s = false) : vR ss s = [] := by unfold vR; rw [h]; rfl
theorem vR_yes {ss : List ByteArray} {s : ByteArray} (h : okR ss s = true) : vR ss s = less1 ss s := by unfold vR; rw [h]; rfl
theorem less1_has {ss : List ByteArray} {s : ByteArray} (h : PlB ss) (h2 : ¬ ss.length = 1) : 1 ≤ (less1 ss s).length := by
  have h1 := h.l1
  have hne : ∃ t ∈ ss, ¬ t = s := by
    by_cases e : ss[0]'(by omega) = s
    · refine ⟨ss[1]'(by omega), List.getElem_mem _, fun e2 => ?_⟩
      have := List.pairwise_iff_getElem.1 h.inc 0 1 (by omega) (by omega) (by omega)
      rw [e, e2, less_irrefl] at this; cases this
    · exact ⟨_, List.getElem_mem _, e⟩
  obtain ⟨t, ht, e⟩ := hne
  exact List.length_pos_of_mem (List.mem_filter.2 ⟨ht, decide_eq_true e⟩)
theorem drop_mp {ss : List ByteArray} {s : ByteArray} (h : plHas ss s = true) : mpB (keptB s ss) = okR ss s ∧ mpV (keptB s ss) = vR ss s := by
  obtain ⟨hp, hs⟩ := plHas_of h
  by_cases h1 : ss.length = 1
  · have e : keptB s ss = [] := by
      obtain ⟨x, rfl⟩ := List.length_eq_one_iff.1 h1
      rw [List.mem_singleton] at hs
      subst hs
      unfold keptB
      rw [List.filter_cons, bg_refl]
      rfl
    rw [e, okR_1 h1, vR_no (okR_1 h1)]
    exact ⟨mp_nil, mpV_no mp_nil⟩
  · have hpl := plan_sub hp (kept_sub s ss) (by rw [kept_drop hp hs]; exact less1_has hp h1)
    rw [okR_y h h1, vR_yes (okR_y h h1), ← kept_drop hp hs]
    exact plan_mp hpl
theorem vR_len (ss : List ByteArray) (s : ByteArray) : (vR ss s).length ≤ 1048576 := by
  cases h : plHas ss s
  · rw [vR_no (okR_p h)]; exact Nat.zero_le _
  · rw [← (drop_mp h).2]; exact mpV_len _
theorem vR_sz (ss : List ByteArray) (s : ByteArray) : ∀ t ∈ vR ss s, t.size ≤ maxLen := by
  cases h : plHas ss s
  · rw [vR_no (okR_p h)]; intro t ht; cases ht
  · rw [← (drop_mp h).2]; exact mpV_sz _

set_option maxRecDepth 100000 in
set_option maxHeartbeats 1000000 in
theorem plDrop_any (v : Value) (ss : List ByteArray) (s : ByteArray) (w : World) (h : Strs w v ss) (h20 : ss.length ≤ 20) : Calls Try.prog 39 #[v, .string s] w (ResP (less1 ss s) w) := by
  have HS := Lib.hid h
  obtain ⟨a, cap, hv, _⟩ := h.at
  rw [hv] at HS ⊢
  clear hv h v
  go_enter Try.func39, Try.ntmps39
  go_wp2
  go_loopw [5, 10] (fun o i wr => ∃ k : Nat, k ≤ ss.length ∧ i = .int .i64 k ∧ RowS w.heap.size wr o (less1 (ss.take k) s) ∧ Ext w wr) (fun _ i _ => ss.length - (intOf i).toNat)
  case atStart => exact ⟨0, Nat.zero_le _, rfl, RowS.nil _ _, Ext.refl _⟩
  case round =>
    obtain ⟨k, hk, rfl, hr, hx⟩ := hrel
    have HR := Lib.hid hr
    clear hr
    by_cases hlt : k < ss.length
    · obtain ⟨b, off, ha, e1⟩ := (HS.out.ext hx).get2 k hlt
      have HLN := Lib.hid (show (less1 (ss.take k) s).length ≤ 1000000 from Nat.le_trans (less1_len _ _) (by rw [List.length_take]; omega))
      subst ha
      by_cases he : ss[k] = s
      · have HN := Lib.hid (less1_yes (s := s) (h := hlt) he)
        obtain ⟨t, ht⟩ : ∃ t, t = ss[k] := ⟨_, rfl⟩
        rw [← ht] at e1 he
        have t1 : (t.toList == s.toList) = true := by rw [beqT, decide_eq_true he]
        clear ht he
        go_wp2
        go_roundw
        case rel => exact ⟨k + 1, by omega, by go_num, by rw [HN.out]; exact HR.out, hx⟩
        case measure => simp [intOf]; omega
      · have HN := Lib.hid (less1_no (s := s) (h := hlt) he)
        obtain ⟨t, ht⟩ : ∃ t, t = ss[k] := ⟨_, rfl⟩
        rw [← ht] at e1 he HN
        have t1 : (t.toList == s.toList) = false := by rw [beqT, decide_eq_false he]
        clear ht he
        go_wp2_with (at_builtin; refine app_str rfl _ _ rfl w w.heap.size _ _ _ _ rfl (by exact HR.out) hx (Nat.le_refl _) hx.size (by exact HLN.out) rfl ?_; intro v9 w9 r9 x9 _)
        go_roundw
        case rel => exact ⟨k + 1, by omega, by go_num, by rw [HN.out]; exact r9, x9⟩
        case measure => simp [intOf]; omega
    · have HT := Lib.hid (show ss.take k = ss from List.take_of_length_le (by omega))
      rw [HT.out] at HR
      go_wp2
      go_ret
      exact ⟨_, rfl, HR.out, hx⟩

end Go.Proofs.Ytinojlbnmnlmhab
