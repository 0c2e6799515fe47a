/- SchemeText: the modulus and the weights as a text. No conditions. -/
import Derived.Test.YthooedmlnonadaaDoorItM
import Derived.Test.YthooedmlnonadaaDoorRowT
import Derived.Test.YthooedmlnonadaaDoorGood
import Derived.Test.YthooedmlnonadaaDoorShelfJ
import Derived.Deep.RegionWith
namespace Go.Proofs.YthooedmlnonadaaDoor
open Go.RowKit

/-- The first so many texts with a comma between them. -/
def jl (l : List ByteArray) : List UInt8 := Lib.join (l.map (·.data.toList)) [44]
def jt (l : List ByteArray) : ByteArray := ⟨(jl l).toArray⟩
theorem jl_one (s : ByteArray) : jl [s] = s.data.toList := by simp [jl, Lib.join]
theorem jl_cons (a : ByteArray) (r : List ByteArray) : jl (a :: r) = a.data.toList ++ ((r.map fun s => 44 :: s.data.toList)).flatten := by
  unfold jl
  rw [List.map_cons, Lib.join_cons]
  simp only [Lib.joinTail, List.map_map]
  rfl
theorem jl_snoc : ∀ (l : List ByteArray) (s : ByteArray), l ≠ [] → jl (l ++ [s]) = jl l ++ 44 :: s.data.toList
  | [], _, h => absurd rfl h
  | a :: r, s, _ => by
    rw [List.cons_append, jl_cons, jl_cons]
    simp
theorem jt_first {ss : List ByteArray} {k : Nat} (h : k < ss.length) (h0 : k = 0) : (⟨#[]⟩ : ByteArray) ++ ss[k] = jt (ss.take (k + 1)) := by
  subst h0
  rw [takeS ss 0 h]
  apply ByteArray.ext
  show _ = (jl [ss[0]]).toArray
  rw [jl_one]
  simp
theorem jt_next {ss : List ByteArray} {k : Nat} (h : k < ss.length) (h0 : ¬ k = 0) : (jt (ss.take k) ++ (⟨#[44]⟩ : ByteArray)) ++ ss[k] = jt (ss.take (k + 1)) := by
  rw [takeS ss k h]
  apply ByteArray.ext
  show _ = (jl (ss.take k ++ [ss[k]])).toArray
  rw [jl_snoc _ _ (by
    intro e
    have h2 : (ss.take k).length = 0 := by rw [e]; rfl
    rw [List.length_take] at h2
    omega)]
  simp [jt]
theorem tail_len : ∀ (r : List ByteArray), (∀ s ∈ r, s.size ≤ 6) → ((r.map fun s => (44 :: s.data.toList : List UInt8)).flatten).length ≤ 7 * r.length
  | [], _ => by simp
  | a :: r, h => by
    have h1 := tail_len r (fun s hs => h s (List.mem_cons_of_mem _ hs))
    have h2 := h a (by simp)
    have e : a.data.toList.length = a.size := by simp
    rw [List.map_cons, List.flatten_cons, List.length_append, List.length_cons, List.length_cons, e]
    omega
theorem jl_len : ∀ (l : List ByteArray), (∀ s ∈ l, s.size ≤ 6) → (jl l).length ≤ 7 * l.length
  | [], _ => by simp [jl, Lib.join]
  | a :: r, h => by
    have h1 := tail_len r (fun s hs => h s (List.mem_cons_of_mem _ hs))
    have h2 := h a (by simp)
    have e : a.data.toList.length = a.size := by simp
    rw [jl_cons, List.length_append, e, List.length_cons]
    omega
def wT (zs : List Int) : List ByteArray := zs.map fun z => numT z.toNat
theorem wT_len (zs : List Int) : (wT zs).length = zs.length := List.length_map ..
theorem wT_at (zs : List Int) (k : Nat) (h : k < zs.length) : (wT zs)[k]'(by rw [wT_len]; exact h) = numT zs[k].toNat := by unfold wT; rw [List.getElem_map]
theorem wT_sz (zs : List Int) : ∀ t ∈ wT zs, t.size ≤ 6 := fun t ht => by
  obtain ⟨z, _, rfl⟩ := List.mem_map.1 ht
  have := numT_size z.toNat
  omega
theorem wT_jt (zs : List Int) (h : zs.length ≤ 12) (k : Nat) : (jt ((wT zs).take k)).size ≤ 84 := by
  have h1 := jl_len ((wT zs).take k) (fun s hs => wT_sz zs s (List.mem_of_mem_take hs))
  rw [List.length_take, wT_len] at h1
  show (jl ((wT zs).take k)).toArray.size ≤ 84
  simp
  omega
def hd (m : Int) : ByteArray := numT m.toNat ++ (⟨#[58]⟩ : ByteArray)
theorem hd_size (m : Int) : (hd m).size ≤ 3 := by
  unfold hd
  rw [ByteArray.size_append]
  have := numT_size m.toNat
  show _ + 1 ≤ 3
  omega
def stV (m : Int) (zs : List Int) : ByteArray := if isSch m zs then hd m ++ jt (wT zs) else ⟨#[]⟩
theorem stV_no {m : Int} {zs : List Int} (h : isSch m zs = false) : stV m zs = ⟨#[]⟩ := by unfold stV; rw [h]; rfl
theorem stV_yes {m : Int} {zs : List Int} (h : isSch m zs = true) : stV m zs = hd m ++ jt (wT zs) := by unfold stV; rw [h]; rfl
theorem ret_sb {a a' : ByteArray} {b b' : Bool} (h : a = a') (h2 : b = b') : Ending.returned (.tuple #[.string a, .bool b]) = .returned (.tuple #[.string a', .bool b']) := by rw [h, h2]

theorem joinW_any (g : Nat) (l : List ByteArray) (w : World) {B : Nat} (h : RowT B w g l.length l) (h1 : ∀ s ∈ l, s.size ≤ 6) (h2 : l.length ≤ 12) : Calls Tryd.prog 31 #[.slice (some ⟨g, 0, none⟩) l.length l.length, .string ⟨#[44]⟩] w fun e w' => e = .returned (.string (jt l)) ∧ Ext w w' := by
  have hz := jl_len l h1
  refine (Go.Proofs.Tryd.strings_Join g 0 l.length l ⟨#[44]⟩ w (fun j x hx => ?_) (World.ownsRow.lt h g rfl).2 (by omega) (Nat.le_refl _) ?_).mono ?_
  · have hj : j < l.length := by
      rcases Nat.lt_or_ge j l.length with k | k
      · exact k
      · rw [List.getElem?_eq_none k] at hx; cases hx
    rw [List.getElem?_eq_getElem hj] at hx
    injection hx with hx
    subst hx
    rw [Nat.zero_add]
    exact (RowT.at h j hj rfl).1
  · show (jl l).length ≤ _
    omega
  · rintro e w' ⟨rfl, x⟩
    exact ⟨rfl, x⟩

/-! ### The model's -/
set_option maxRecDepth 100000 in
set_option maxHeartbeats 2000000 in
theorem ckText_any (m : Nat) (v : Value) (zs : List Int) (w : World) (h : IntsA w v zs) (hb : SchB (m : Int) zs) : Calls Tryd.prog 27 #[.agg #[.int .i64 m, v]] w fun e w' => e = .returned (.string (hd m ++ jt (wT zs))) ∧ Ext w w' := by
  have H := Lib.hid h
  have HB := Lib.hid hb
  have hl2 := hb.l2
  have hm := hb.m2
  obtain ⟨a, cap, hv⟩ := h.at
  rw [hv] at H ⊢
  clear hv h hb
  have HM := Lib.hid (fun w => l1NumT_any m w (by omega))
  have HLN := Lib.hid (wT_len zs)
  have HJZ := Lib.hid (wT_jt zs hl2)
  have HHD := Lib.hid (show numT m ++ (⟨#[58]⟩ : ByteArray) = hd (m : Int) from by unfold hd; rw [Int.toNat_natCast])
  have hhz := hd_size (m : Int)
  have hnz := numT_size m
  obtain ⟨P, hP⟩ : ∃ P, P = hd (m : Int) := ⟨_, rfl⟩
  obtain ⟨N, hN⟩ : ∃ N, N = numT m := ⟨_, rfl⟩
  rw [← hN, ← hP] at HHD
  rw [← hN] at hnz
  rw [← hP] at hhz ⊢
  simp only [← hN] at HM
  have hz2 : (N ++ (⟨#[58]⟩ : ByteArray)).size ≤ 3 := by rw [HHD.out]; exact hhz
  have X0 := Lib.hid (show Ext w (w.alloc (.cells #[.int .i64 (m : Int), .slice a zs.length cap] 34)) from (Ext.refl w).alloc _)
  clear hP hN
  go_enter Tryd.func27, Tryd.ntmps27
  go_wp2_with (go_at_call 45; refine (HM.out _).mono ?_; rintro e w1 ⟨rfl, x1⟩; have XA1 := Lib.hid x1; obtain ⟨a1, a2⟩ := sc_cells x1)
  rw [HHD.out]
  clear a1 a2
  go_loopw [3, 13] (fun o i wr => ∃ k : Nat, k ≤ zs.length ∧ i = .int .i64 k ∧ o = .string (P ++ jt ((wT zs).take k)) ∧ Ext (w.alloc (.cells #[.int .i64 (m : Int), .slice a zs.length cap] 34)) wr) (fun _ i _ => zs.length - (intOf i).toNat)
  case atStart => exact ⟨0, Nat.zero_le _, rfl, by show Value.string P = Value.string (P ++ (⟨#[]⟩ : ByteArray)); congr 1; apply ByteArray.ext; simp, XA1.out⟩
  case round =>
    obtain ⟨k, hk, rfl, rfl, hx⟩ := hrel
    have hjz := HJZ.out k
    obtain ⟨a1, a2⟩ := sc_cells hx
    by_cases hlt : k < zs.length
    · obtain ⟨b, off, ha, _, e1⟩ := (H.out.ext (X0.out.trans hx)).get2 k hlt
      have hbd := HB.out.at_ k hlt
      have hwk := wT_at zs k hlt
      have hkW : k < (wT zs).length := by rw [HLN.out]; exact hlt
      obtain ⟨z, hz⟩ : ∃ z : Nat, zs[k] = z := ⟨zs[k].toNat, by omega⟩
      rw [hz] at e1 hbd hwk
      rw [Int.toNat_natCast] at hwk
      have HZ := Lib.hid (fun w => l1NumT_any z w (by omega))
      have hnz2 := numT_size z
      obtain ⟨t, ht⟩ : ∃ t, t = numT z := ⟨_, rfl⟩
      rw [← ht] at hwk hnz2
      simp only [← ht] at HZ
      subst ha
      obtain ⟨J, hJ⟩ : ∃ J, J = jt ((wT zs).take k) := ⟨_, rfl⟩
      have HJ := Lib.hid hJ
      rw [← hJ] at hjz ⊢
      have hPJ : (P ++ J).size ≤ 87 := by rw [ByteArray.size_append]; omega
      by_cases h0 : k = 0
      · have HN := Lib.hid (show (P ++ J) ++ t = P ++ jt ((wT zs).take (k + 1)) by
          have hj0 : J = ⟨#[]⟩ := by rw [hJ, h0]; rfl
          rw [← jt_first hkW h0, ByteArray.append_assoc, hj0, hwk])
        have hn0 : ¬ 0 < k := by omega
        clear h0 hz ht hJ hwk hkW
        go_wp2_with (go_at_call 45; refine (HZ.out _).mono ?_; rintro e w5 ⟨rfl, x5⟩)
        go_roundw
        case rel => exact ⟨k + 1, by omega, by go_num, by rw [HN.out], hx.trans x5⟩
        case measure => simp [intOf]; omega
      · have HN := Lib.hid (show (P ++ J) ++ (⟨#[44]⟩ : ByteArray) ++ t = P ++ jt ((wT zs).take (k + 1)) by
          rw [← jt_next hkW h0, hwk, hJ, ByteArray.append_assoc, ByteArray.append_assoc, ByteArray.append_assoc])
        have hn0 : 0 < k := by omega
        have hz3 : ((P ++ J) ++ (⟨#[44]⟩ : ByteArray)).size ≤ 88 := by rw [ByteArray.size_append]; exact Nat.add_le_add_right hPJ 1
        clear h0 hz ht hJ hwk hkW
        go_wp2_with (go_at_call 45; refine (HZ.out _).mono ?_; rintro e w5 ⟨rfl, x5⟩)
        go_roundw
        case rel => exact ⟨k + 1, by omega, by go_num, by rw [← HN.out], hx.trans x5⟩
        case measure => simp [intOf]; omega
    · have HT := Lib.hid (show (wT zs).take k = wT zs from List.take_of_length_le (by rw [HLN.out]; omega))
      go_wp2
      go_ret
      exact ⟨by rw [HT.out]; rfl, X0.out.trans hx⟩

end Go.Proofs.YthooedmlnonadaaDoor
