/- Texts that open all locks: the program's next text. No conditions. -/
import Derived.Test.YtdhcknknmloopabOaM
import Derived.Deep.LoopGhost
namespace Go.Proofs.Ytdhcknknmloopab
open Go.RowKit

theorem fillT_len (t : List Nat) (l : Nat) : (fillT t l).length = l := by simp [fillT]
theorem fillT_at {t : List Nat} {l i : Nat} (h : i < l) (ht : 0 < t.length) : (fillT t l)[i]'(by rw [fillT_len]; exact h) = t[i % t.length]'(Nat.mod_lt _ ht) := by
  unfold fillT
  rw [List.getElem_map, List.getElem_range, List.getD_eq_getElem?_getD, List.getElem?_eq_getElem (Nat.mod_lt _ ht)]
  rfl

theorem own_short {w : World} {B : Nat} {e : TypeId} {g n cap : Nat} {xs : List Value} (h : w.ownsRow B e 1 (.slice (some ⟨g, 0, none⟩) n cap) n xs) (m : Nat) (hm : m ≤ n) : w.ownsRow B e 1 (.slice (some ⟨g, 0, none⟩) m cap) m (xs.take m) := by
  rcases h.2 with ⟨h', _⟩ | ⟨g', cap', cur, h', hb, hg, hnc, hcm, hcs, htake⟩
  · simp at h'
  · simp only [Value.slice.injEq, Option.some.injEq, Addr.mk.injEq, and_true, true_and] at h'
    obtain ⟨rfl, rfl⟩ := h'
    refine ⟨by have := h.1; rw [List.length_take]; omega, .inr ⟨g, cap, cur, rfl, hb, hg, by omega, hcm, hcs, ?_⟩⟩
    rw [← htake, List.take_take]
    congr 1
    omega
theorem stN_le (x : List Nat) (g : Nat) : ∀ n, stN x g n ≤ n
  | 0 => Nat.le_refl _
  | n + 1 => by
    rw [stN]
    split
    · exact Nat.le_succ_of_le (stN_le x g n)
    · exact Nat.le_refl _

set_option maxRecDepth 100000 in
set_option maxHeartbeats 2000000 in
theorem nbe_any (v : Value) (t : List Nat) (d l : Nat) (w : World) (h : Ps w v t) (ht : 0 < t.length) (ht4 : t.length ≤ 4) (hl : l ≤ 4) (hq : ∀ q ∈ t, q < 10) (hd : 1 ≤ d ∧ d ≤ 10) : Calls Try.prog 116 #[v, .int .i64 (d : Int), .int .i64 (l : Int)] w fun e w' => OwnP w w' e (nbT d l t) := by
  have H := Lib.hid h
  have HQ := Lib.hid hq
  obtain ⟨i0, hi, hz0, hzs, hzb⟩ := info_parts info_intP
  have HI := Lib.hid (show Try.prog.info? 3 = some i0 ∧ i0.zero = some (.int .i64 0) ∧ i0.size = 1 ∧ i0.bytes = 8 from ⟨hi, hz0, hzs, hzb⟩)
  obtain ⟨a, cap, hv⟩ := h.at
  rw [hv] at H ⊢
  clear hv h hi hz0 hzs hzb hq
  go_enter Try.func116, Try.ntmps116
  go_wp2_with (at_make; refine wpList_make_full _ rfl _ _ 22 rfl w.heap.size 3 i0 (.int .i64 0) 1 Try.underlying22 HI.out.1 HI.out.2.1 HI.out.2.2.1 .i64 .i64 _ _ l rfl rfl rfl rfl (by rw [HI.out.2.2.2]; omega) (by unfold maxLen; omega) (Nat.le_refl _) ?_; intro w1 hown hgr; have X1 := Lib.hid (ext_grown (Ext.refl w) hgr (by intro k hk; cases hk)); obtain ⟨xs1, hxs1⟩ : ∃ xs, xs = (madeCells (Value.int .i64 0).cells (l * 1)).toList := ⟨_, rfl⟩; rw [← hxs1] at hown; have HO1 := Lib.hid hown; clear hxs1 hgr hown)
  go_loopw [13] (fun i wr => ∃ k : Nat, k ≤ l ∧ i = .int .i64 k ∧ ∃ xs : List Value, wr.ownsRow w.heap.size 3 1 (.slice (some ⟨w.heap.size, 0, none⟩) l l) l xs ∧ (∀ j, j < k → xs[j]? = (pcs (fillT t l))[j]?) ∧ Ext w wr) (fun i _ => l - (intOf i).toNat)
  case atStart => exact ⟨0, Nat.zero_le _, rfl, xs1, HO1.out, fun j h => absurd h (by omega), X1.out⟩
  case round =>
    obtain ⟨k, hk, rfl, xs, hown, hxs, hx⟩ := hrel
    have HO := Lib.hid hown
    have HX := Lib.hid hxs
    clear hown hxs
    by_cases hlt : k < l
    · have hlen : xs.length = l := by have := HO.out.1; omega
      obtain ⟨u, hu⟩ : ∃ u, xs[k]? = some u := ⟨xs[k]'(by omega), List.getElem?_eq_getElem _⟩
      have hc3 := (HO.out.cellAt k (by omega)).trans hu
      have hf3 := HO.out.frozenAt k
      clear hu hlen
      obtain ⟨b, off, ha, hb, hcell⟩ := (H.out.ext hx).get (k % t.length) (Nat.mod_lt _ ht)
      have HF := Lib.hid (fillT_at hlt ht)
      have HB := Lib.hid hb
      generalize hz : t[k % t.length]'(Nat.mod_lt _ ht) = z at hcell HF
      clear hz hb
      have hmi : ((k : Int).tmod (t.length : Int)) = ((k % t.length : Nat) : Int) := rfl
      have hml : k % t.length < t.length := Nat.mod_lt _ ht
      generalize k % t.length = r at hcell hmi hml
      subst ha
      go_wp2
      go_roundw
      case rel =>
        refine ⟨k + 1, by omega, by go_num, xs.set k (.int .i64 z), (HO.out.stored k _).1, ?_, hx.setCell (Nat.le_refl _) _⟩
        intro j hj
        by_cases e : j = k
        · subst e
          rw [List.getElem?_set_self (by have := HO.out.1; omega), pcs_at _ _ (by rw [fillT_len]; exact hlt), HF.out]
        · rw [List.getElem?_set_ne (by omega)]
          exact HX.out j (by omega)
      case measure => simp [intOf]; omega
    · have e : xs = pcs (fillT t l) := by
        apply List.ext_getElem?
        intro j
        by_cases hj : j < l
        · exact HX.out j (by omega)
        · rw [List.getElem?_eq_none (by have := HO.out.1; omega), List.getElem?_eq_none (by rw [pcs_len, fillT_len]; omega)]
      rw [e] at HO
      have HN := Lib.hid (show nbT d l t = if stN (fillT t l) (d - 1) l = 0 then [] else (fillT t l).take (stN (fillT t l) (d - 1) l - 1) ++ [(fillT t l).getD (stN (fillT t l) (d - 1) l - 1) 0 + 1] from rfl)
      have HFL := Lib.hid (fillT_len t l)
      have HF10 := Lib.hid (show ∀ (j : Nat), j < l → (fillT t l).getD j 0 < 10 from fun j hj => by rw [List.getD_eq_getElem?_getD, List.getElem?_eq_getElem (by rw [fillT_len]; exact hj)]; show (fillT t l)[j]'(by rw [fillT_len]; exact hj) < 10; rw [fillT_at hj ht]; exact HQ.out _ (List.getElem_mem _))
      generalize fillT t l = F at HO HN HFL HF10
      clear e HX xs X1 HO1 xs1 H HQ
      go_wp2
      go_loopw [7] (fun i wz => ∃ m : Nat, m ≤ l ∧ i = .slice (some ⟨w.heap.size, 0, none⟩) m l ∧ stN F (d - 1) m = stN F (d - 1) l ∧ wz = wr) (fun i _ => match i with | .slice _ n _ => n | _ => 0)
      case atStart => exact ⟨l, Nat.le_refl _, rfl, rfl, rfl⟩
      case round =>
        obtain ⟨m, hm, rfl, hst, rfl⟩ := hrel
        rcases m with _ | m
        · go_wp2
          go_ret
          have hn : nbT d l t = [] := by rw [HN.out, ← hst]; rfl
          rw [hn]
          exact ⟨_, rfl, own_short HO.out 0 (Nat.zero_le _), hx⟩
        · obtain ⟨z, hz⟩ : ∃ z, F.getD m 0 = z := ⟨_, rfl⟩
          have HZ := Lib.hid hz
          have hz10 : z < 10 := by rw [← hz]; exact HF10.out m (by omega)
          have hc := HO.out.cellAt m (by omega)
          rw [pcs_at _ _ (by rw [HFL.out]; omega)] at hc
          have hzz : F[m]'(by rw [HFL.out]; omega) = z := by rw [← hz, List.getD_eq_getElem?_getD, List.getElem?_eq_getElem (by rw [HFL.out]; omega)]; rfl
          rw [hzz] at hc
          have hfz := HO.out.frozenAt m
          have hmi : ((m + 1 : Nat) : Int) - 1 = (m : Int) := by omega
          have hmn : (((m + 1 : Nat) : Int) - 1).toNat = m := by omega
          clear hz hzz
          by_cases hzd : z = d - 1
          · have hzd2 : (z : Int) = (d : Int) - 1 := by omega
            go_wp2
            refine ⟨⟨m, by omega, rfl, ?_, trivial⟩, Nat.lt_succ_self m⟩
            rw [← hst, stN, if_pos (HZ.out.trans hzd)]
          · have hzd2 : ¬ (z : Int) = (d : Int) - 1 := by omega
            go_wp2
            go_ret
            have hs1 : stN F (d - 1) (m + 1) = m + 1 := by rw [stN, if_neg (fun e => hzd (HZ.out.symm.trans e))]
            have hn : nbT d l t = F.take m ++ [z + 1] := by rw [HN.out, ← hst, hs1, if_neg (by omega), Nat.add_sub_cancel, HZ.out]
            have hlm : (F.take m ++ [z + 1]).length = m + 1 := by rw [List.length_append, List.length_take, HFL.out]; simp; omega
            have hp : ((pcs F).set m (.int .i64 ((z : Int) + 1))).take (m + 1) = pcs (F.take m ++ [z + 1]) := by
              unfold pcs
              apply List.ext_getElem?
              intro j
              by_cases hj : j < m
              · rw [List.getElem?_take, if_pos (by omega), List.getElem?_set_ne (by omega), List.map_append, List.getElem?_append_left (by simp; rw [HFL.out]; omega)]
                simp [hj]
              · by_cases hj2 : j = m
                · subst hj2
                  rw [List.getElem?_take, if_pos (by omega), List.getElem?_set_self (by simp; rw [HFL.out]; omega), List.map_append, List.getElem?_append_right (by simp; omega)]
                  have : ((F.take j).map fun (p : Nat) => Value.int .i64 (p : Int)).length = j := by simp; rw [HFL.out]; omega
                  rw [this]
                  simp
                · rw [List.getElem?_eq_none (by rw [List.length_take]; omega), List.getElem?_eq_none (by rw [List.length_map, hlm]; omega)]
            rw [hn]
            refine ⟨_, rfl, ?_, hx.setCell (p := ⟨w.heap.size, m, none⟩) (Nat.le_refl _) _⟩
            unfold RowP
            rw [hlm, ← hp]
            exact own_short (HO.out.stored m _).1 (m + 1) hm
end Go.Proofs.Ytdhcknknmloopab
