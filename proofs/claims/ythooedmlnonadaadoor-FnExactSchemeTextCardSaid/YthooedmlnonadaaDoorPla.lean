/- Codes and plans, plainly: which code begins which text, and a plan's test by neighbours. No program in particular. -/
import Derived.Test.YthooedmlnonadaaDoorKeySet
import Derived.Test.YthooedmlnonadaaDoorWk
namespace Go.Proofs.YthooedmlnonadaaDoor
open Go.RowKit

/-- A text's bytes. -/
def tl (s : ByteArray) : List UInt8 := s.data.toList
theorem tl_inj {a b : ByteArray} (h : tl a = tl b) : a = b := bytesInj h
theorem tl_len (s : ByteArray) : (tl s).length = s.size := by unfold tl; rw [Array.length_toList]; rfl
theorem tl_ex (t : ByteArray) (k : Nat) : tl (t.extract 0 k) = (tl t).take k := by
  unfold tl
  rw [ByteArray.data_extract, Array.toList_extract]
  simp [List.extract]
theorem tl_app (a b : ByteArray) : tl (a ++ b) = tl a ++ tl b := by
  unfold tl
  rw [ByteArray.data_append, Array.toList_append]
/-- The one begins the other. -/
def bgB (c t : ByteArray) : Bool := decide (c.size ≤ t.size) && decide (t.extract 0 c.size = c)
theorem bg_iff (c t : ByteArray) : bgB c t = true ↔ tl c <+: tl t := by
  unfold bgB
  rw [Bool.and_eq_true, decide_eq_true_eq, decide_eq_true_eq]
  constructor
  · rintro ⟨h1, h2⟩
    have h3 : tl (t.extract 0 c.size) = tl c := by rw [h2]
    rw [tl_ex] at h3
    rw [← h3]
    exact List.take_prefix _ _
  · intro h
    have h1 := h.length_le
    rw [tl_len, tl_len] at h1
    refine ⟨h1, tl_inj ?_⟩
    rw [tl_ex, ← tl_len c]
    exact (List.prefix_iff_eq_take.1 h).symm
theorem bg_short {c t : ByteArray} (h : t.size < c.size) : bgB c t = false := by unfold bgB; rw [decide_eq_false (by omega)]; rfl
theorem bg_eq {c t : ByteArray} (h : c.size ≤ t.size) : bgB c t = decide (t.extract 0 c.size = c) := by unfold bgB; rw [decide_eq_true h]; rfl
theorem bg_refl (c : ByteArray) : bgB c c = true := (bg_iff c c).2 (List.prefix_refl _)
theorem bg_trans {a b c : ByteArray} (h1 : bgB a b = true) (h2 : bgB b c = true) : bgB a c = true :=
  (bg_iff a c).2 (((bg_iff a b).1 h1).trans ((bg_iff b c).1 h2))
theorem bg_size {c t : ByteArray} (h : bgB c t = true) : c.size ≤ t.size := by unfold bgB at h; rw [Bool.and_eq_true, decide_eq_true_eq] at h; exact h.1
theorem bg_anti {a b : ByteArray} (h1 : bgB a b = true) (h2 : bgB b a = true) : a = b := by
  have e1 := (bg_iff a b).1 h1
  have e2 := (bg_iff b a).1 h2
  exact tl_inj (e1.eq_of_length (Nat.le_antisymm e1.length_le e2.length_le))
/-- Of two that begin a third one, one begins the other. -/
theorem bg_two {a b c : ByteArray} (h1 : bgB a c = true) (h2 : bgB b c = true) : bgB a b = true ∨ bgB b a = true := by
  rcases List.prefix_or_prefix_of_prefix ((bg_iff a c).1 h1) ((bg_iff b c).1 h2) with h | h
  · exact .inl ((bg_iff a b).2 h)
  · exact .inr ((bg_iff b a).2 h)

theorem pre_mid : ∀ a b c : List UInt8, a <+: c → Op.bytesLess a b = true → Op.bytesLess b c = true → a <+: b
  | [], _, _, _, _, _ => List.nil_prefix
  | _ :: _, [], _, _, h, _ => by cases h
  | _ :: _, _ :: _, [], h, _, _ => by have := h.length_le; simp at this
  | x :: a, y :: b, z :: c, h, h1, h2 => by
    rw [List.cons_prefix_cons] at h ⊢
    obtain ⟨rfl, h⟩ := h
    rw [Op.bytesLess] at h1 h2
    simp only [Bool.or_eq_true, Bool.and_eq_true, decide_eq_true_eq, beq_iff_eq] at h1 h2
    rcases h1 with h1 | ⟨rfl, h1⟩
    · rcases h2 with h2 | ⟨rfl, h2⟩
      · exact absurd (UInt8.lt_trans h1 h2) (UInt8.lt_irrefl _)
      · exact absurd h1 (UInt8.lt_irrefl _)
    · rcases h2 with h2 | ⟨_, h2⟩
      · exact absurd h2 (UInt8.lt_irrefl _)
      · exact ⟨rfl, pre_mid a b c h h1 h2⟩
theorem pre_le : ∀ a b : List UInt8, a <+: b → Op.bytesLess b a = false
  | [], b, _ => by cases b <;> rfl
  | _ :: _, [], h => by have := h.length_le; simp at this
  | x :: a, y :: b, h => by
    rw [List.cons_prefix_cons] at h
    obtain ⟨rfl, h⟩ := h
    rw [Op.bytesLess, pre_le a b h]
    simp
theorem bg_mid {a b c : ByteArray} (h : bgB a c = true) (h1 : lessB a b = true) (h2 : lessB b c = true) : bgB a b = true := by
  unfold lessB at h1 h2
  rw [Lib.toList_data, Lib.toList_data] at h1 h2
  exact (bg_iff a b).2 (pre_mid _ _ _ ((bg_iff a c).1 h) h1 h2)
theorem bg_le {a b : ByteArray} (h : bgB a b = true) : lessB b a = false := by
  unfold lessB
  rw [Lib.toList_data, Lib.toList_data]
  exact pre_le _ _ ((bg_iff a b).1 h)

/-! ### Plans -/
def cdB (ss : List ByteArray) : Bool := inW ss.length 1 20 && ss.all (isDg 1 6)
/-- The text at a place is behind none of its kind, and does not begin its neighbour. -/
def okP (ss : List ByteArray) (i : Nat) : Bool := lessB (ss.getD i ⟨#[]⟩) (ss.getD (i + 1) ⟨#[]⟩) && !bgB (ss.getD i ⟨#[]⟩) (ss.getD (i + 1) ⟨#[]⟩)
def adB (ss : List ByteArray) : Bool := (List.range (ss.length - 1)).all (okP ss)
def plB (ss : List ByteArray) : Bool := cdB ss && adB ss
structure PlB (ss : List ByteArray) : Prop where
  l1 : 1 ≤ ss.length
  l2 : ss.length ≤ 20
  cd : ∀ s ∈ ss, isDg 1 6 s = true
  inc : Inc ss
  nb : ∀ s ∈ ss, ∀ t ∈ ss, bgB s t = true → s = t
theorem okP_eq (ss : List ByteArray) (k : Nat) (h : k + 1 < ss.length) : okP ss k = (lessB ss[k] ss[k + 1] && !bgB ss[k] ss[k + 1]) := by
  unfold okP
  rw [getDS h, getDS (by omega : k < ss.length)]
theorem cdB_l {ss : List ByteArray} (h : inW ss.length 1 20 = false) : cdB ss = false := by unfold cdB; rw [h]; rfl
theorem cdB_a {ss : List ByteArray} (h : inW ss.length 1 20 = true) : cdB ss = ss.all (isDg 1 6) := by unfold cdB; rw [h]; rfl
theorem inW_bnd {n lo hi : Int} (h : inW n lo hi = true) : lo ≤ n ∧ n ≤ hi := by
  unfold inW at h
  rw [Bool.and_eq_true, decide_eq_true_eq, decide_eq_true_eq] at h
  exact h
theorem cdB_parts {ss : List ByteArray} (h : cdB ss = true) : 1 ≤ ss.length ∧ ss.length ≤ 20 ∧ ∀ s ∈ ss, isDg 1 6 s = true := by
  unfold cdB at h
  rw [Bool.and_eq_true, List.all_eq_true] at h
  have a := inW_bnd h.1
  exact ⟨by omega, by omega, h.2⟩
theorem cdB_of {ss : List ByteArray} (h1 : 1 ≤ ss.length) (h2 : ss.length ≤ 20) (h3 : ∀ s ∈ ss, isDg 1 6 s = true) : cdB ss = true := by
  rw [cdB_a (inW_yes (by omega) (by omega)), List.all_eq_true]
  exact h3
theorem adB_no {ss : List ByteArray} (k : Nat) (h : k + 1 < ss.length) (hk : okP ss k = false) : adB ss = false := by
  unfold adB
  rw [List.all_eq_false]
  exact ⟨k, List.mem_range.2 (by omega), by simp [hk]⟩
theorem adB_yes {ss : List ByteArray} (h : ∀ j, j + 1 < ss.length → okP ss j = true) : adB ss = true := by
  unfold adB
  rw [List.all_eq_true]
  exact fun j hj => h j (by have := List.mem_range.1 hj; omega)
theorem plB_no {ss : List ByteArray} (h : cdB ss = false) : plB ss = false := by unfold plB; rw [h]; rfl
theorem plB_cd {ss : List ByteArray} (h : cdB ss = true) : plB ss = adB ss := by unfold plB; rw [h]; rfl
theorem adB_lt {ss : List ByteArray} (h : adB ss = true) (k : Nat) (hk : k + 1 < ss.length) : lessB ss[k] ss[k + 1] = true ∧ bgB ss[k] ss[k + 1] = false := by
  unfold adB at h
  rw [List.all_eq_true] at h
  have := h k (List.mem_range.2 (by omega))
  rw [okP_eq ss k hk, Bool.and_eq_true] at this
  exact ⟨this.1, by simpa using this.2⟩
theorem adB_less {ss : List ByteArray} (h : adB ss = true) (i : Nat) : ∀ (d : Nat) (hd : i + d + 1 < ss.length), lessB (ss[i]'(by omega)) (ss[i + d + 1]'hd) = true
  | 0, hd => (adB_lt h i hd).1
  | d + 1, hd => by
    have h1 := adB_less h i d (by omega)
    have h2 := (adB_lt h (i + d + 1) (by omega)).1
    exact less_trans h1 h2
theorem adB_lt2 {ss : List ByteArray} (h : adB ss = true) (i j : Nat) (hij : i < j) (hj : j < ss.length) : lessB (ss[i]'(by omega)) ss[j] = true := by
  have := adB_less h i (j - i - 1) (by omega)
  have e : i + (j - i - 1) + 1 = j := by omega
  simp only [e] at this
  exact this
theorem plB_iff {ss : List ByteArray} : plB ss = true ↔ PlB ss := by
  constructor
  · intro h
    have hc : cdB ss = true := by unfold plB at h; rw [Bool.and_eq_true] at h; exact h.1
    rw [plB_cd hc] at h
    obtain ⟨a1, a2, a3⟩ := cdB_parts hc
    refine ⟨a1, a2, a3, List.pairwise_iff_getElem.2 fun i j hi hj hij => adB_lt2 h i j hij hj, fun s hs t ht hb => ?_⟩
    obtain ⟨i, hi, rfl⟩ := List.mem_iff_getElem.1 hs
    obtain ⟨j, hj, rfl⟩ := List.mem_iff_getElem.1 ht
    rcases Nat.lt_trichotomy i j with hij | hij | hij
    · exfalso
      have n1 := (adB_lt h i (by omega)).2
      by_cases e : j = i + 1
      · subst e; rw [n1] at hb; cases hb
      · have := bg_mid hb (adB_lt h i (by omega)).1 (adB_lt2 h (i + 1) j (by omega) hj)
        rw [n1] at this; cases this
    · subst hij; rfl
    · have := bg_le hb
      rw [adB_lt2 h j i hij hi] at this; cases this
  · intro h
    rw [plB_cd (cdB_of h.l1 h.l2 h.cd)]
    refine adB_yes fun j hj => ?_
    have a := List.pairwise_iff_getElem.1 h.inc j (j + 1) (by omega) hj (by omega)
    rw [okP_eq ss j hj, a, Bool.true_and]
    cases hb : bgB ss[j] ss[j + 1]
    · rfl
    · have := h.nb _ (List.getElem_mem (by omega)) _ (List.getElem_mem hj) hb
      rw [this, less_irrefl] at a; cases a

/-! ### A plan made of codes -/
def srt (ss : List ByteArray) : List ByteArray := (sortB (ss.map (·.data.toList))).map bytesOf
theorem srt_len (ss : List ByteArray) : (srt ss).length = ss.length := by unfold srt; rw [List.length_map, sortB_len, List.length_map]
theorem srt_mem (ss : List ByteArray) (x : ByteArray) : x ∈ srt ss ↔ x ∈ ss := by
  unfold srt
  rw [List.mem_map]
  constructor
  · rintro ⟨a, ha, rfl⟩
    obtain ⟨s, hs, rfl⟩ := List.mem_map.1 ((sortB_mem _ _).1 ha)
    have : bytesOf s.data.toList = s := by unfold bytesOf; apply ByteArray.ext; simp
    rw [this]; exact hs
  · intro h
    exact ⟨x.data.toList, (sortB_mem _ _).2 (List.mem_map.2 ⟨x, h, rfl⟩), by unfold bytesOf; apply ByteArray.ext; simp⟩
theorem compact_all (zs : List (List UInt8)) (h : (Lib.compact zs).length = zs.length) : Lib.compact zs = zs := by
  unfold Lib.compact Lib.compactUpTo at h ⊢
  rw [List.length_map] at h
  have e : (List.filter (Lib.keeps zs.toArray) (List.range zs.length)).length = (List.range zs.length).length := by rw [h, List.length_range]
  rw [List.filter_eq_self.2 (List.length_filter_eq_length_iff.1 e)]
  apply List.ext_getElem
  · simp
  · intro i h1 h2
    simp [h2]
theorem srt_put {ss : List ByteArray} (h : (putAll ss).length = ss.length) : srt ss = putAll ss := by
  have e := sorted_once ss
  have hc : (Lib.compact (sortB (ss.map (·.data.toList)))).length = (sortB (ss.map (·.data.toList))).length := by
    rw [sortB_len, List.length_map, ← h, ← e, List.length_map]
  rw [compact_all _ hc] at e
  exact e
theorem srt_inc {ss : List ByteArray} (h : Inc (srt ss)) : srt ss = putAll ss :=
  inc_ext _ _ h (putAll_inc ss) fun x => by rw [srt_mem, putAll_mem]
theorem cdB_put {ss : List ByteArray} (h : cdB ss = true) : cdB (putAll ss) = true := by
  obtain ⟨a1, a2, a3⟩ := cdB_parts h
  have hl : (putAll ss).length ≤ ss.length := by have := putAll_len ss []; simpa [putAll] using this
  refine cdB_of ?_ (by omega) fun s hs => a3 s ((putAll_mem ss s).1 hs)
  obtain ⟨x, hx⟩ : ∃ x, x ∈ ss := ⟨ss[0], List.getElem_mem _⟩
  exact List.length_pos_of_mem ((putAll_mem ss x).2 hx)
/-- Whether there is a plan of codes in any order, and which. -/
def mpB (ss : List ByteArray) : Bool := cdB ss && plB (srt ss)
def mpV (ss : List ByteArray) : List ByteArray := if mpB ss then putAll ss else []
theorem mpB_c {ss : List ByteArray} (h : cdB ss = false) : mpB ss = false := by unfold mpB; rw [h]; rfl
theorem mpB_s {ss : List ByteArray} (h : cdB ss = true) : mpB ss = plB (srt ss) := by unfold mpB; rw [h]; rfl
theorem mpB_srt {ss : List ByteArray} (h : plB (srt ss) = true) : srt ss = putAll ss := srt_inc (plB_iff.1 h).inc
theorem mpB_len {ss : List ByteArray} (hc : cdB ss = true) (h : ¬ (putAll ss).length = ss.length) : mpB ss = false := by
  rw [mpB_s hc]
  cases hp : plB (srt ss)
  · rfl
  · exact absurd (by rw [← mpB_srt hp, srt_len]) h
theorem mpB_put {ss : List ByteArray} (hc : cdB ss = true) (h : (putAll ss).length = ss.length) : mpB ss = plB (putAll ss) := by rw [mpB_s hc, srt_put h]
theorem mpV_no {ss : List ByteArray} (h : mpB ss = false) : mpV ss = [] := by unfold mpV; rw [h]; rfl
theorem mpV_yes {ss : List ByteArray} (h : mpB ss = true) : mpV ss = putAll ss := by unfold mpV; rw [h]; rfl
theorem mpB_good {ss : List ByteArray} (h : mpB ss = true) : PlB (putAll ss) := by
  unfold mpB at h
  rw [Bool.and_eq_true] at h
  rw [← mpB_srt h.2]
  exact plB_iff.1 h.2
theorem mpB_iff {ss : List ByteArray} : mpB ss = true ↔ PlB (putAll ss) ∧ (putAll ss).length = ss.length := by
  constructor
  · intro h
    refine ⟨mpB_good h, ?_⟩
    unfold mpB at h
    rw [Bool.and_eq_true] at h
    rw [← mpB_srt h.2, srt_len]
  · rintro ⟨h1, h2⟩
    have hc : cdB ss = true := cdB_of (by have := h1.l1; omega) (by have := h1.l2; omega) fun s hs => h1.cd s ((putAll_mem ss s).2 hs)
    rw [mpB_put hc h2]
    exact plB_iff.2 h1
theorem mpV_len (l : List ByteArray) : (mpV l).length ≤ 1048576 := by
  cases h : mpB l
  · rw [mpV_no h]; exact Nat.zero_le _
  · rw [mpV_yes h]; have := (mpB_good h).l2; omega
theorem mpV_sz (l : List ByteArray) : ∀ t ∈ mpV l, t.size ≤ maxLen := by
  intro t ht
  cases h : mpB l
  · rw [mpV_no h] at ht; cases ht
  · rw [mpV_yes h] at ht
    have := isDg_size ((mpB_good h).cd t ht)
    unfold maxLen
    omega
end Go.Proofs.YthooedmlnonadaaDoor
