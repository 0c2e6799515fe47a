/- Texts that open all locks: the program's round. No conditions. -/
import Derived.Test.YtdhcknknmloopabOaN
namespace Go.Proofs.Ytdhcknknmloopab
open Go.RowKit

theorem RowP.apartP {B B2 : Nat} {w w2 : World} {v v2 : Value} {ps qs : List Nat} (h : RowP B w v ps) (h2 : RowP B2 w2 v2 qs) (hd : w.heap.size ≤ B2) : v2.ownBlock = none ∨ v2.ownBlock ≠ v.ownBlock := by
  cases e2 : v2.ownBlock with
  | none => exact .inl rfl
  | some g =>
    refine .inr fun e => ?_
    have h3 := (World.ownsRow.lt h g e.symm).2
    have h4 := (World.ownsRow.lt h2 g e2).1
    omega
theorem pcs_one (ps : List Nat) : ∀ u ∈ pcs ps, u.oneCell' = true := by
  intro u hu
  obtain ⟨p, _, rfl⟩ := List.mem_map.1 hu
  rfl
theorem goF_end {d l g : Nat} {r R : List Nat} (h : goF d l g [] r = some R) : r = R := by
  cases g with
  | zero => cases h
  | succ g => rw [goF, if_pos (show ([] : List Nat).length = 0 from rfl)] at h; injection h
theorem goF_step {d l g : Nat} {t r R : List Nat} (h : goF d l g t r = some R) (ht : 0 < t.length) : ∃ g', g = g' + 1 ∧ t.length ≤ l ∧ r.length ≤ 400 ∧ (∀ q ∈ t, q < 10) ∧ goF d l g' (nbT d l t) (if l % t.length = 0 then r ++ t else r) = some R := by
  cases g with
  | zero => cases h
  | succ g =>
    rw [goF, if_neg (by omega)] at h
    by_cases hc : ((decide (t.length ≤ l) && decide (r.length ≤ 400)) && t.all (fun q => decide (q < 10))) = true
    · rw [if_pos hc] at h
      simp at hc
      exact ⟨g, rfl, hc.1.1, hc.1.2, fun q hq => hc.2 q hq, h⟩
    · rw [if_neg hc] at h; cases h

set_option maxRecDepth 100000 in
set_option maxHeartbeats 2000000 in
theorem round_any (d l : Nat) (R : List Nat) (w : World) (hR : goF d l 400 [0] [] = some R) (hl : 1 ≤ l ∧ l ≤ 4) (hd : 1 ≤ d ∧ d ≤ 10) : Calls Try.prog 83 #[.int .i64 (d : Int), .int .i64 (l : Int)] w fun e w' => OwnP w w' e R := by
  have HR := Lib.hid hR
  obtain ⟨i0, hi, hz0, hzs, hzb⟩ := info_parts info_intP
  have HI := Lib.hid (show Try.prog.info? 3 = some i0 ∧ i0.zero = some (.int .i64 0) ∧ i0.size = 1 ∧ i0.bytes = 8 from ⟨hi, hz0, hzs, hzb⟩)
  clear hi hz0 hzs hzb hR
  go_enter Try.func83, Try.ntmps83
  go_wp2
  go_loopg [5, 6] 400 (fun g rv tv wr => ∃ t r, goF d l g t r = some R ∧ RowP w.heap.size wr rv r ∧ RowP w.heap.size wr tv t ∧ (tv.ownBlock = none ∨ tv.ownBlock ≠ rv.ownBlock) ∧ Ext w wr)
  case atStart =>
    refine ⟨[0], [], HR.out, RowP.nil _ _, ?_, .inr (by intro e; cases e), Below.alloc (Ext.refl _) (Nat.le_refl _) _⟩
    exact ⟨rfl, .inr ⟨w.heap.size, 1, _, rfl, Nat.le_refl _, heap_alloc_new w _, Nat.le_refl _, by unfold maxLen; omega, rfl, rfl⟩⟩
  case round =>
    obtain ⟨t, r, hG, hr, ht, hap, hx⟩ := hrel
    have HG := Lib.hid hG
    have HRR := Lib.hid hr
    have HT := Lib.hid ht
    have HAP := Lib.hid hap
    obtain ⟨ra, rc, hrv⟩ := hr.shape
    obtain ⟨ta, tc, htv⟩ := ht.shape
    rw [hrv] at HRR HAP
    rw [htv] at HT HAP
    rw [hrv, htv]
    clear hG hr ht hap hrv htv
    by_cases h0 : t.length = 0
    · rw [h0]
      have e0 : t = [] := List.length_eq_zero_iff.1 h0
      have e1 := goF_end (e0 ▸ HG.out)
      go_wp2
      go_ret
      exact ⟨_, rfl, e1 ▸ HRR.out, hx⟩
    · have hpos : 0 < t.length := by omega
      obtain ⟨g', rfl, htl, hrl, hq, hg'⟩ := goF_step HG.out hpos
      have HG2 := Lib.hid hg'
      have HQ := Lib.hid hq
      have hposi : (0 : Int) < (t.length : Int) := by omega
      have hml := fun w => rem_nat l t.length hpos w
      clear hg' hq
      obtain ⟨tg, rfl, htg1, htg2, _⟩ := HT.out.at 0 hpos
      by_cases hm : l % t.length = 0
      · have hmi : ((l % t.length : Nat) : Int) = 0 := by omega
        rw [if_pos hm] at HG2
        go_wp2_with (at_builtin; refine wpList_append_own _ rfl _ _ 22 rfl w.heap.size 3 i0 (.int .i64 0) 1 8 Try.underlying22 HI.out.1 HI.out.2.1 HI.out.2.2.1 HI.out.2.2.2 rfl (by decide) _ _ _ rfl HRR.out ⟨tg, 0, none⟩ t.length tc (pcs t) rfl (by rw [pcs_len, Nat.mul_one]) (fun j u hu => by rw [← World.ownsRow.cellAt HT.out j (by have := (List.getElem?_eq_some_iff.1 hu).1; rw [pcs_len] at this; omega)] at hu; rw [Go.WideShapes.add_plain, Nat.zero_add]; exact hu) (pcs_one t) (by unfold maxLen; omega) (by omega) hx.size ?_; intro v' w5 hown' hgr' _)
        have h5 : RowP w.heap.size w5 v' (r ++ t) := by
          unfold RowP
          rw [List.length_append]
          unfold pcs at hown' ⊢
          rw [List.map_append]
          exact hown'
        have x5 : Ext w w5 := ext_grown hx hgr' (World.ownsRow.lt HRR.out · · |>.1)
        have t5 : RowP w.heap.size w5 (.slice (some ⟨tg, 0, none⟩) t.length tc) t := World.ownsRow.kept HT.out hgr' HAP.out
        refine (nbe_any _ t d l _ (t5.ps (by unfold maxLen; omega)) hpos (by omega) hl.2 HQ.out hd).mono ?_
        rintro e w6 ⟨v6, rfl, h6, x6⟩
        go_wp2
        go_roundg g'
        case measure => omega
        case rel => exact ⟨_, _, HG2.out, h5.ext x6, h6.down x5.size, RowP.apartP h5 h6 (Nat.le_refl _), x5.trans x6⟩
      · have hmi : ¬ ((l % t.length : Nat) : Int) = 0 := by omega
        rw [if_neg hm] at HG2
        go_wp2_with fail
        refine (nbe_any _ t d l _ (RowP.ps HT.out (by unfold maxLen; omega)) hpos (by omega) hl.2 HQ.out hd).mono ?_
        rintro e w6 ⟨v6, rfl, h6, x6⟩
        go_wp2
        go_roundg g'
        case measure => omega
        case rel => exact ⟨_, _, HG2.out, RowP.ext HRR.out x6, h6.down hx.size, RowP.apartP HRR.out h6 (Nat.le_refl _), hx.trans x6⟩
end Go.Proofs.Ytdhcknknmloopab
