/- SplitCode: ten codes instead of one. No conditions. -/
import Derived.Test.YtinojlbnmnlmhabDrj
import Derived.Test.YtinojlbnmnlmhabNm
namespace Go.Proofs.Ytinojlbnmnlmhab
open Go.RowKit

/-- All ten texts that have one digit more behind a start. -/
def ten (c : ByteArray) : List ByteArray := (List.range 10).map fun d => c ++ dg1T d
theorem ten_len (c : ByteArray) : (ten c).length = 10 := by unfold ten; rw [List.length_map, List.length_range]
theorem ten_at (c : ByteArray) (d : Nat) (h : d < 10) : (ten c)[d]'(by rw [ten_len]; exact h) = c ++ dg1T d := by unfold ten; simp
theorem ten_mem {c t : ByteArray} (h : t ∈ ten c) : ∃ d, d < 10 ∧ t = c ++ dg1T d := by
  unfold ten at h
  obtain ⟨d, hd, rfl⟩ := List.mem_map.1 h
  exact ⟨d, List.mem_range.1 hd, rfl⟩
theorem dg1_size (d : Nat) : (dg1T d).size = 1 := rfl
theorem ten_size {c t : ByteArray} (h : t ∈ ten c) : t.size = c.size + 1 := by
  obtain ⟨d, _, rfl⟩ := ten_mem h
  rw [ByteArray.size_append, dg1_size]
theorem ten_bg {c t : ByteArray} (h : t ∈ ten c) : bgB c t = true := by
  obtain ⟨d, _, rfl⟩ := ten_mem h
  rw [bg_iff, tl_app]
  exact List.prefix_append _ _
theorem dg1_inj : ∀ d : Nat, d < 10 → ∀ e : Nat, e < 10 → (48 + d).toUInt8 = (48 + e).toUInt8 → d = e := by decide +kernel
theorem ten_inj {c : ByteArray} {d e : Nat} (hd : d < 10) (he : e < 10) (h : c ++ dg1T d = c ++ dg1T e) : d = e := by
  have h2 : tl (c ++ dg1T d) = tl (c ++ dg1T e) := by rw [h]
  rw [tl_app, tl_app] at h2
  have h3 := List.append_cancel_left h2
  have h4 : [(48 + d).toUInt8] = [(48 + e).toUInt8] := h3
  injection h4 with h5
  exact dg1_inj d hd e he h5
theorem ten_nodup (c : ByteArray) : (ten c).Nodup := by
  unfold ten
  refine List.pairwise_map.2 ?_
  refine List.Pairwise.imp_of_mem (R := fun a b => a ≠ b) (fun {a b} ha hb hne he => ?_) (List.nodup_range (n := 10))
  exact hne (ten_inj (List.mem_range.1 ha) (List.mem_range.1 hb) he)
theorem ten_dg {c t : ByteArray} (hc : isDg 1 6 c = true) (h6 : ¬ c.size = 6) (h : t ∈ ten c) : isDg 1 6 t = true := by
  obtain ⟨d, hd, rfl⟩ := ten_mem h
  have hz := isDg_size hc
  have hs : (c ++ dg1T d).size = c.size + 1 := by rw [ByteArray.size_append, dg1_size]
  refine isDg_yes (by omega) (by omega) ?_
  rw [ByteArray.data_append, Array.toList_append, List.all_append]
  have h1 : (c.data.toList.all fun c => isg c.toNat) = true := by
    unfold isDg at hc
    rw [Bool.and_eq_true, Bool.and_eq_true] at hc
    exact hc.2.2
  have h2 := digBn d hd
  rw [h1, Bool.true_and]
  show ([(48 + d).toUInt8].all fun c => isg c.toNat) = true
  rw [List.all_cons, isg_of (by omega) (by omega)]
  rfl
theorem fold_len : ∀ (l acc : List ByteArray), l.Nodup → (∀ x ∈ l, ¬ x ∈ acc) → (l.foldl putL acc).length = acc.length + l.length
  | [], acc, _, _ => by simp
  | a :: l, acc, hn, hd => by
    obtain ⟨h1, h2⟩ := List.nodup_cons.1 hn
    have := fold_len l (putL acc a) h2 (fun x hx hm => by
      rcases (putL_mem acc a x).1 hm with h | h
      · exact hd x (List.mem_cons_of_mem _ hx) h
      · exact h1 (h ▸ hx))
    rw [List.foldl_cons, this, putL_out (hd a (by simp)), List.length_cons]
    omega
theorem fold_mem : ∀ (l acc : List ByteArray) (x : ByteArray), x ∈ l.foldl putL acc ↔ x ∈ acc ∨ x ∈ l
  | [], acc, x => by simp
  | a :: l, acc, x => by
    rw [List.foldl_cons, fold_mem l, putL_mem, List.mem_cons]
    constructor
    · rintro ((h | h) | h)
      · exact .inl h
      · exact .inr (.inl h)
      · exact .inr (.inr h)
    · rintro (h | h | h)
      · exact .inl (.inl h)
      · exact .inl (.inr h)
      · exact .inr h
theorem putAll_app (a b : List ByteArray) : putAll (a ++ b) = b.foldl putL (putAll a) := by unfold putAll; rw [List.foldl_append]
theorem less1_cut {ss : List ByteArray} {s : ByteArray} (h : PlB ss) (hs : s ∈ ss) : (less1 ss s).length + 1 = ss.length := by
  have hi := h.inc
  clear h
  induction ss with
  | nil => cases hs
  | cons a l ih =>
    obtain ⟨h1, h2⟩ := List.pairwise_cons.1 hi
    by_cases e : a = s
    · have hf : less1 (a :: l) s = l := by
        unfold less1
        rw [List.filter_cons, e, decide_eq_false (by simp), if_neg (by decide)]
        refine List.filter_eq_self.2 fun t ht => decide_eq_true fun e2 => ?_
        have := h1 t ht
        rw [e2, e, less_irrefl] at this
        cases this
      rw [hf]; rfl
    · have hm : s ∈ l := by
        rcases List.mem_cons.1 hs with h | h
        · exact absurd h.symm e
        · exact h
      have hf : less1 (a :: l) s = a :: less1 l s := by
        unfold less1
        rw [List.filter_cons, decide_eq_true e, if_pos rfl]
      rw [hf, List.length_cons, List.length_cons, ih hm h2]

def okS (ss : List ByteArray) (c : ByteArray) : Bool := plHas ss c && (decide (¬ c.size = 6) && decide (ss.length + 9 ≤ 20))
def vS (ss : List ByteArray) (c : ByteArray) : List ByteArray := if okS ss c then (ten c).foldl putL (less1 ss c) else []
theorem okS_p {ss : List ByteArray} {c : ByteArray} (h : plHas ss c = false) : okS ss c = false := by unfold okS; rw [h]; rfl
theorem okS_6 {ss : List ByteArray} {c : ByteArray} (h : c.size = 6) : okS ss c = false := by unfold okS; rw [decide_eq_false (show ¬ ¬ c.size = 6 from fun h2 => h2 h)]; simp
theorem okS_l {ss : List ByteArray} {c : ByteArray} (h : 20 < ss.length + 9) : okS ss c = false := by unfold okS; rw [decide_eq_false (show ¬ ss.length + 9 ≤ 20 by omega)]; simp
theorem okS_y {ss : List ByteArray} {c : ByteArray} (h : plHas ss c = true) (h2 : ¬ c.size = 6) (h3 : ss.length + 9 ≤ 20) : okS ss c = true := by unfold okS; rw [h, decide_eq_true h2, decide_eq_true h3]; rfl
theorem vS_no {ss : List ByteArray} {c : ByteArray} (h : okS ss c = false) : vS ss c = [] := by unfold vS; rw [h]; rfl
theorem vS_yes {ss : List ByteArray} {c : ByteArray} (h : okS ss c = true) : vS ss c = (ten c).foldl putL (less1 ss c) := by unfold vS; rw [h]; rfl
theorem ten_notin {ss : List ByteArray} {c : ByteArray} (hp : PlB ss) (hs : c ∈ ss) : ∀ x ∈ ten c, ¬ x ∈ less1 ss c := fun x hx hm => by
  have h1 := hp.nb c hs x (less1_mem hm) (ten_bg hx)
  have := ten_size hx
  rw [← h1] at this
  omega
theorem split_plan {ss : List ByteArray} {c : ByteArray} (hp : PlB ss) (hs : c ∈ ss) (h6 : ¬ c.size = 6) (h20 : ss.length + 9 ≤ 20) : PlB ((ten c).foldl putL (less1 ss c)) ∧ ((ten c).foldl putL (less1 ss c)).length = (less1 ss c).length + 10 := by
  have hl := fold_len (ten c) (less1 ss c) (ten_nodup c) (ten_notin hp hs)
  rw [ten_len] at hl
  have hcut := less1_cut hp hs
  have hin : Inc (less1 ss c) := hp.inc.sublist List.filter_sublist
  have hne : ∀ x ∈ less1 ss c, ¬ x = c := fun x hx => of_decide_eq_true (List.mem_filter.1 hx).2
  refine ⟨⟨by omega, by omega, fun s hm => ?_, (foldl_put (ten c) (less1 ss c) hin).1, fun s hm t ht hb => ?_⟩, hl⟩
  · rcases (fold_mem _ _ _).1 hm with h | h
    · exact hp.cd s (less1_mem h)
    · exact ten_dg (hp.cd c hs) h6 h
  · rcases (fold_mem _ _ _).1 hm with h | h
    · rcases (fold_mem _ _ _).1 ht with h2 | h2
      · exact hp.nb s (less1_mem h) t (less1_mem h2) hb
      · exfalso
        rcases bg_two hb (ten_bg h2) with h3 | h3
        · exact hne s h (hp.nb s (less1_mem h) c hs h3)
        · exact hne s h (hp.nb c hs s (less1_mem h) h3).symm
    · rcases (fold_mem _ _ _).1 ht with h2 | h2
      · exact absurd (hp.nb c hs t (less1_mem h2) (bg_trans (ten_bg h) hb)).symm (hne t h2)
      · have e1 := ten_size h
        have e2 := ten_size h2
        refine bg_anti hb ?_
        rw [bg_iff] at hb ⊢
        have := hb.eq_of_length (by rw [tl_len, tl_len, e1, e2])
        rw [this]
        exact List.prefix_refl _
theorem split_mp {ss : List ByteArray} {c : ByteArray} (h : plHas ss c = true) : mpB (keptB c ss ++ ten c) = okS ss c ∧ mpV (keptB c ss ++ ten c) = vS ss c := by
  obtain ⟨hp, hs⟩ := plHas_of h
  rw [kept_drop hp hs]
  have hcut := less1_cut hp hs
  by_cases h6 : c.size = 6
  · have hb : mpB (less1 ss c ++ ten c) = false := by
      refine mpB_c ?_
      cases hc : cdB (less1 ss c ++ ten c)
      · rfl
      · have hm : c ++ dg1T 0 ∈ less1 ss c ++ ten c := List.mem_append_right _ (by unfold ten; exact List.mem_map.2 ⟨0, by simp, rfl⟩)
        have := isDg_size ((cdB_parts hc).2.2 _ hm)
        rw [ByteArray.size_append, dg1_size] at this
        omega
    rw [okS_6 h6, vS_no (okS_6 h6)]
    exact ⟨hb, mpV_no hb⟩
  by_cases h20 : ss.length + 9 ≤ 20
  · obtain ⟨hpl, hl⟩ := split_plan hp hs h6 h20
    have hin : Inc (less1 ss c) := hp.inc.sublist List.filter_sublist
    have e : putAll (less1 ss c ++ ten c) = (ten c).foldl putL (less1 ss c) := by rw [putAll_app, putAll_of hin]
    have hb : mpB (less1 ss c ++ ten c) = true := mpB_iff.2 ⟨by rw [e]; exact hpl, by rw [e, hl, List.length_append, ten_len]⟩
    rw [okS_y h h6 h20, vS_yes (okS_y h h6 h20)]
    exact ⟨hb, by rw [mpV_yes hb, e]⟩
  · have hb : mpB (less1 ss c ++ ten c) = false := by
      refine mpB_c ?_
      cases hc : cdB (less1 ss c ++ ten c)
      · rfl
      · have := (cdB_parts hc).2.1
        rw [List.length_append, ten_len] at this
        omega
    rw [okS_l (by omega), vS_no (okS_l (by omega))]
    exact ⟨hb, mpV_no hb⟩
theorem vS_len (ss : List ByteArray) (c : ByteArray) : (vS ss c).length ≤ 1048576 := by
  cases h : plHas ss c
  · rw [vS_no (okS_p h)]; exact Nat.zero_le _
  · rw [← (split_mp h).2]; exact mpV_len _
theorem vS_sz (ss : List ByteArray) (c : ByteArray) : ∀ t ∈ vS ss c, t.size ≤ maxLen := by
  cases h : plHas ss c
  · rw [vS_no (okS_p h)]; intro t ht; cases ht
  · rw [← (split_mp h).2]; exact mpV_sz _

/-! ### The program's ten -/
/-- A list of texts of the call's own in a block that is told. -/
def RowT (B : Nat) (w : World) (g n : Nat) (l : List ByteArray) : Prop := w.ownsRow B 9 1 (.slice (some ⟨g, 0, none⟩) n n) n (l.map Value.string)
theorem RowT.at {B : Nat} {w : World} {g n : Nat} {l : List ByteArray} (h : RowT B w g n l) (j : Nat) (hj : j < n) (hl : l.length = n) : w.cell? ⟨g, j, none⟩ = some (.string (l[j]'(by omega))) ∧ w.frozen? ⟨g, j, none⟩ = false := by
  refine ⟨?_, World.ownsRow.frozenAt h j⟩
  rw [World.ownsRow.cellAt h j (by omega), List.getElem?_map, List.getElem?_eq_getElem (by omega)]
  rfl
theorem RowT.put {B : Nat} {w : World} {g n : Nat} {l : List ByteArray} (h : RowT B w g n l) (j : Nat) (x : ByteArray) : RowT B (w.setCell ⟨g, j, none⟩ (.string x)) g n (l.set j x) := by
  have h1 := (World.ownsRow.stored h j (.string x)).1
  unfold RowT
  rw [List.map_set]
  exact h1
def partT (l : List ByteArray) (k : Nat) : List ByteArray := l.take k ++ List.replicate (l.length - k) ⟨#[]⟩
theorem partT_len (l : List ByteArray) (k : Nat) (h : k ≤ l.length) : (partT l k).length = l.length := by
  unfold partT
  rw [List.length_append, List.length_take, List.length_replicate]
  omega
theorem partT_all (l : List ByteArray) : partT l l.length = l := by unfold partT; rw [Nat.sub_self, List.take_length]; simp
theorem partT_set (l : List ByteArray) (k : Nat) (h : k < l.length) : (partT l k).set k l[k] = partT l (k + 1) := by
  unfold partT
  rw [List.set_append_right _ _ (by rw [List.length_take]; omega)]
  have e1 : k - (l.take k).length = 0 := by rw [List.length_take]; omega
  have e2 : l.length - k = (l.length - (k + 1)) + 1 := by omega
  rw [e1, e2, List.replicate_succ, List.set_cons_zero, List.take_succ_eq_append_getElem h, List.append_assoc]
  rfl
theorem partT_zero (l : List ByteArray) : (partT l 0).map Value.string = (madeCells (Value.string ⟨#[]⟩).cells (l.length * 1)).toList := by
  unfold partT
  rw [Nat.mul_one, show (Value.string ⟨#[]⟩).cells = #[Value.string ⟨#[]⟩] from rfl, toList_madeCells_one]
  simp
theorem dg_ex : ∀ d : Nat, d < 10 → (⟨#[48, 49, 50, 51, 52, 53, 54, 55, 56, 57]⟩ : ByteArray).extract d (d + 1) = dg1T d := by decide +kernel
theorem dg_sl (d : Nat) (hd : d < 10) (w : World) : (Instr.slice 9 (.string ⟨#[48, 49, 50, 51, 52, 53, 54, 55, 56, 57]⟩) (some (.int .i64 (d : Int))) (some (.int .i64 ((d + 1 : Nat) : Int))) none).run Try.prog w = .ok (.string (dg1T d)) w := by
  have h := slB (⟨#[48, 49, 50, 51, 52, 53, 54, 55, 56, 57]⟩ : ByteArray) d (d + 1) (Nat.le_succ _) (show d + 1 ≤ 10 from hd) w
  rw [dg_ex d hd] at h
  exact h
def OneT (l : List ByteArray) (w : World) (e : Ending) (w' : World) : Prop := ∃ g, e = .returned (.slice (some ⟨g, 0, none⟩) l.length l.length) ∧ RowT w.heap.size w' g l.length l ∧ Ext w w'

set_option maxRecDepth 100000 in
set_option maxHeartbeats 1000000 in
theorem oneL_any (c : ByteArray) (w : World) (hc : c.size ≤ 100) : Calls Try.prog 45 #[.string c] w (OneT (ten c) w) := by
  obtain ⟨i0, hi, hz0, hzs, hzb⟩ := info_parts info_strC
  have HI := Lib.hid (show Try.prog.info? 9 = some i0 ∧ i0.zero = some (.string ⟨#[]⟩) ∧ i0.size = 1 ∧ i0.bytes = 16 from ⟨hi, hz0, hzs, hzb⟩)
  clear hi hz0 hzs hzb
  have HLL := Lib.hid (ten_len c)
  have HAT := Lib.hid (ten_at c)
  obtain ⟨L, hL⟩ : ∃ L, L = ten c := ⟨_, rfl⟩
  have HLE := Lib.hid hL
  rw [← hL] at HLL ⊢
  clear hL
  go_enter Try.func45, Try.ntmps45
  go_wp2_with (at_make; refine wpList_make_full _ rfl _ _ 22 rfl w.heap.size 9 i0 (.string ⟨#[]⟩) 1 Try.underlying22 HI.out.1 HI.out.2.1 HI.out.2.2.1 .i64 .i64 _ _ 10 rfl rfl rfl rfl (by rw [HI.out.2.2.2]; omega) (by unfold maxLen; omega) (Nat.le_refl _) ?_; intro w2 hown hgr; have X2 := Lib.hid (ext_grown (Ext.refl w) hgr (by intro k hk; cases hk)); have RR := Lib.hid (show RowT w.heap.size w2 w.heap.size 10 (partT L 0) from by unfold RowT; rw [partT_zero, HLL.out]; exact hown); clear hown hgr)
  go_loopw [8] (fun i wr => ∃ k : Nat, k ≤ 10 ∧ i = .int .i64 k ∧ RowT w.heap.size wr w.heap.size 10 (partT L k) ∧ Ext w wr) (fun i _ => 10 - (intOf i).toNat)
  case atStart => exact ⟨0, Nat.zero_le _, rfl, RR.out, X2.out⟩
  case round =>
    obtain ⟨k, hk, rfl, hr, hx⟩ := hrel
    have HR := Lib.hid hr
    clear hr
    by_cases hlt : k < 10
    · have hpl : (partT L k).length = 10 := by rw [partT_len _ _ (by rw [HLL.out]; omega), HLL.out]
      obtain ⟨c1, c2⟩ := HR.out.at k hlt hpl
      have HW := Lib.hid (show ∀ wz, Ext w wz → RowT w.heap.size wz w.heap.size 10 (partT L k) → RowT w.heap.size (wz.setCell ⟨w.heap.size, k, none⟩ (.string (c ++ dg1T k))) w.heap.size 10 (partT L (k + 1)) ∧ Ext w (wz.setCell ⟨w.heap.size, k, none⟩ (.string (c ++ dg1T k))) from fun wz hxz hz => by
        refine ⟨?_, hxz.setCell (Nat.le_refl _) _⟩
        have e2 : partT L (k + 1) = (partT L k).set k (c ++ dg1T k) := by
          rw [← partT_set L k (by rw [HLL.out]; exact hlt)]
          congr 1
          have := HAT.out k hlt
          simp only [HLE.out]
          exact this
        rw [e2]
        exact hz.put k _)
      obtain ⟨q, hq⟩ : ∃ q, q = (partT L k)[k]'(by omega) := ⟨_, rfl⟩
      rw [← hq] at c1
      have W1 : IntKind.i64.wrap ((k : Int) + 1) = ((k + 1 : Nat) : Int) := by simp only [IntKind.wrap_i64]; omega
      obtain ⟨k1, hk1⟩ : ∃ k1, k1 = k + 1 := ⟨_, rfl⟩
      have hsl := fun w => dg_sl k hlt w
      obtain ⟨D, hD⟩ : ∃ D, D = dg1T k := ⟨_, rfl⟩
      have hDs : D.size = 1 := by rw [hD]; rfl
      rw [← hk1] at W1
      simp only [← hk1, ← hD] at hsl
      rw [← hD] at HW
      have hsz : ¬ (9223372036854775807 : Int) < (c.size : Int) + (D.size : Int) := by omega
      have hsz2 : ¬ 9223372036854775807 < c.size + D.size := by omega
      have HK1 := Lib.hid hk1
      have kk : (k : Int) < 10 := by omega
      have HK2 := Lib.hid (show k + 1 ≤ 10 ∧ (k1 : Int) = ((k + 1 : Nat) : Int) ∧ 10 - k1 < 10 - k from by omega)
      clear hq hpl hD hk1 hDs
      go_wp2
      go_roundw
      case rel => exact ⟨k + 1, HK2.out.1, by rw [← HK2.out.2.1], (HW.out _ hx HR.out).1, (HW.out _ hx HR.out).2⟩
      case measure => have := HK2.out.2.2; simp [intOf]; omega
    · obtain rfl : k = 10 := by omega
      have HR2 := Lib.hid (show RowT w.heap.size wr w.heap.size 10 L from by have h2 := HR.out; rw [show 10 = L.length from HLL.out.symm, partT_all, HLL.out] at h2; exact h2)
      go_wp2
      go_ret
      refine ⟨w.heap.size, ?_, by rw [HLL.out]; exact HR2.out, hx⟩
      rw [HLL.out]
      rfl

end Go.Proofs.Ytinojlbnmnlmhab
