/- Texts that open all locks: the model's ring. No conditions. -/
import Derived.Test.YtdhcknknmloopabOaM
namespace Go.Proofs.Ytdhcknknmloopab
open Go.RowKit

/-- Block C holds the text s. -/
def AtS (C : Nat) (s : ByteArray) (w : World) : Prop := w.heap[C]? = some (.cells #[.string s] 9 (0, 0))
theorem AtS.cell {C : Nat} {s : ByteArray} {w : World} (h : AtS C s w) : w.cell? ⟨C, 0, none⟩ = some (.string s) := by
  rw [cell_of_row w C 0 _ _ (0, 0) h]; rfl
theorem AtS.fr {C : Nat} {s : ByteArray} {w : World} (h : AtS C s w) : w.frozen? ⟨C, 0, none⟩ = false := frozen_of_row w C 0 _ _ h
theorem AtS.put {C : Nat} {s : ByteArray} {w : World} (h : AtS C s w) (u : ByteArray) : AtS C u (w.setCell ⟨C, 0, none⟩ (.string u)) := heap_setCell_same w C 0 _ _ _ h
theorem AtS.lt {C : Nat} {s : ByteArray} {w : World} (h : AtS C s w) : C < w.heap.size := heapLt h
theorem AtS.ext {C : Nat} {s : ByteArray} {w w' : World} (h : AtS C s w) (hx : Ext w w') : AtS C s w' := (hx.block _ h.lt).trans h
theorem grC_put {C : Nat} {w : World} (u : Value) : w.grownBy (w.setCell ⟨C, 0, none⟩ u) (some C) :=
  ⟨rfl, rfl, rfl, by simp [World.setCell], fun k _ hk => Below.heap_setCell _ _ _ _ (by intro e; exact hk (by rw [e]))⟩
theorem grC_refl (C : Nat) (w : World) : w.grownBy w (some C) := ⟨rfl, rfl, rfl, Nat.le_refl _, fun _ _ _ => rfl⟩
theorem grC_trans {C : Nat} {u v w : World} (h : u.grownBy v (some C)) (k : v.grownBy w (some C)) : u.grownBy w (some C) :=
  ⟨k.os.trans h.os, k.tape.trans h.tape, k.output.trans h.output, Nat.le_trans h.size k.size, fun i h1 h2 => (k.block i (Nat.lt_of_lt_of_le h1 h.size) h2).trans (h.block i h1 h2)⟩
theorem grC_ext {C : Nat} {v w : World} (k : Ext v w) : v.grownBy w (some C) := ⟨k.os, k.tape, k.output, k.size, fun i h1 _ => k.block i h1⟩

theorem dT_app (a b : List Nat) : dT (a ++ b) = dT a ++ dT b := by
  apply ByteArray.ext
  rw [ByteArray.data_append]
  unfold dT dA
  simp
theorem dT_take (b : List Nat) (p : Nat) : (dT b).extract 0 p = dT (b.take p) := by
  apply ByteArray.ext
  rw [ByteArray.data_extract]
  unfold dT dA
  apply Array.ext'
  simp

set_option maxRecDepth 100000 in
set_option maxHeartbeats 2000000 in
theorem leaf_any (d l C : Nat) (b : List Nat) (p : Nat) (s : ByteArray) (w : World) (hl : 2 ≤ l ∧ l ≤ 4) (hb : b.length = l) (hp : 1 ≤ p) (hpb : p ≤ b.length) (hs : s.size ≤ 1000000) (h : AtS C s w) : Calls Try.prog 79 #[.int .i64 (d : Int), .int .i64 (l : Int), .string (dT b), .int .i64 (p : Int), .pointer (some ⟨C, 0, none⟩)] w fun e w' => e = .returned (.tuple #[]) ∧ AtS C (s ++ dT (rgF d l 0 b p)) w' ∧ w.grownBy w' (some C) := by
  have HT := Lib.hid (dT_take b p)
  have HR := Lib.hid (show rgF d l 0 b p = if l % p = 0 then b.take p else [] from rfl)
  have HA := Lib.hid h
  have hc := h.cell
  have hf := h.fr
  have hsz : (dT b).size = l := by rw [dT_size]; exact hb
  have hps : p ≤ (dT b).size := by omega
  have hml := fun w => rem_nat l p hp w
  obtain ⟨T, hT⟩ : ∃ T, T = dT b := ⟨_, rfl⟩
  rw [← hT] at HT hsz hps ⊢
  obtain rfl : l = T.size := hsz.symm
  clear hT h hb hpb
  by_cases hm : T.size % p = 0
  · have hmi : ((T.size % p : Nat) : Int) = 0 := by omega
    rw [if_pos hm] at HR
    go_enter Try.func79, Try.ntmps79
    go_wp2
    go_region_with (fail)
    all_goals go_wp2
    all_goals ((try simp only [Exit.inBlock, Exit.then]); refine bodyPost_ret (results_none rfl _ _ _) rfl ?_)
    all_goals rw [HR.out, ← HT.out]
    all_goals exact ⟨rfl, HA.out.put _, have g := grC_put (C := C) (w := w) (.string (s ++ T.extract 0 p)); ⟨g.os, g.tape, g.output, g.size, g.block⟩⟩
  · have hmi : ¬ ((T.size % p : Nat) : Int) = 0 := by omega
    rw [if_neg hm] at HR
    go_enter Try.func79, Try.ntmps79
    go_wp2
    (try simp only [Exit.inBlock, Exit.then])
    refine bodyPost_ret (results_none rfl _ _ _) rfl ?_
    rw [HR.out]
    exact ⟨rfl, by rw [show s ++ dT [] = s from ByteArray.append_empty]; exact HA.out, grC_refl C _⟩

/-- What so many rounds put behind the ring. -/
def fl (g : Nat → List Nat) (k : Nat) : List Nat := (List.range k).flatMap g
theorem fl_succ (g : Nat → List Nat) (k : Nat) : fl g (k + 1) = fl g k ++ g k := by unfold fl; rw [List.range_succ, List.flatMap_append]; simp
theorem fl_le (g : Nat → List Nat) (k : Nat) : ∀ n, k ≤ n → (fl g k).length ≤ (fl g n).length := by
  intro n h
  induction n with
  | zero => have : k = 0 := by omega
            rw [this]; exact Nat.le_refl _
  | succ n ih =>
    by_cases e : k = n + 1
    · rw [e]; exact Nat.le_refl _
    · rw [fl_succ, List.length_append]; have := ih (by omega); omega
def RingAt (d l C f : Nat) : Prop := ∀ (b : List Nat) (p : Nat) (s : ByteArray) (w : World), b.length + f = l → 1 ≤ p → p ≤ b.length → (∀ q ∈ b, q < d) → s.size + (rgF d l f b p).length ≤ 1000000 → AtS C s w → Calls Try.prog 79 #[.int .i64 (d : Int), .int .i64 (l : Int), .string (dT b), .int .i64 (p : Int), .pointer (some ⟨C, 0, none⟩)] w fun e w' => e = .returned (.tuple #[]) ∧ AtS C (s ++ dT (rgF d l f b p)) w' ∧ w.grownBy w' (some C)
theorem dT_one (b : List Nat) (x : Nat) : dT b ++ dg1T x = dT (b ++ [x]) := by rw [dT_app]; rfl
theorem dT_low (b : List Nat) (k : Nat) (hk : k < b.length) (hq : ∀ q ∈ b, q < 10) (hs : k < (dT b).size) : (((dT b)[k].toNat : Int) - 48) % 256 = (b.getD k 0 : Int) := by
  have e : (dT b)[k] = (48 + b.getD k 0).toUInt8 := by
    show (dA b).toArray[k]'_ = _
    unfold dA
    simp [List.getD_eq_getElem?_getD, List.getElem?_eq_getElem hk]
  have h10 : b.getD k 0 < 10 := by rw [List.getD_eq_getElem?_getD, List.getElem?_eq_getElem hk]; exact hq _ (List.getElem_mem _)
  rw [e, digBn _ h10]
  omega

set_option maxRecDepth 100000 in
set_option maxHeartbeats 2000000 in
theorem step_any (d l C f : Nat) (hd : d ≤ 10) (hl : 2 ≤ l ∧ l ≤ 4) (ih : RingAt d l C f) : RingAt d l C (f + 1) := by
  intro b p s w hb hp hpb hq hs h
  have HA := Lib.hid h
  have hc := h.cell
  have hf := h.fr
  have hsz : (dT b).size = b.length := dT_size b
  obtain ⟨low, hlow⟩ : ∃ low, low = b.getD (b.length - p) 0 := ⟨_, rfl⟩
  have hlowd : low < d := by rw [hlow, List.getD_eq_getElem?_getD, List.getElem?_eq_getElem (by omega)]; exact hq _ (List.getElem_mem _)
  have HG := Lib.hid (show rgF d l (f + 1) b p = rgF d l f (b ++ [low]) p ++ fl (fun x => rgF d l f (b ++ [low + 1 + x]) (b.length + 1)) (d - (low + 1)) from by rw [hlow]; rfl)
  rw [HG.out, List.length_append] at hs
  have HFL := Lib.hid (fun k h => fl_le (fun x => rgF d l f (b ++ [low + 1 + x]) (b.length + 1)) k (d - (low + 1)) h)
  have HFS := Lib.hid (fun k => fl_succ (fun x => rgF d l f (b ++ [low + 1 + x]) (b.length + 1)) k)
  have hix := fun hs => dT_low b (b.length - p) (by omega) (fun q h => by have := hq q h; omega) hs
  rw [← hlow] at hix
  have HC1 := Lib.hid (fun (w : World) (h : AtS C s w) => ih (b ++ [low]) p s w (by rw [List.length_append]; simp; omega) hp (by rw [List.length_append]; omega) (by intro q hqq; rcases List.mem_append.1 hqq with h1 | h1; exact hq q h1; simp at h1; omega) (by omega) h)
  have HC2 := Lib.hid (fun (k : Nat) (hk : k < d - (low + 1)) (s' : ByteArray) (w : World) (hs' : s'.size + (rgF d l f (b ++ [low + 1 + k]) (b.length + 1)).length ≤ 1000000) (h : AtS C s' w) => ih (b ++ [low + 1 + k]) (b.length + 1) s' w (by rw [List.length_append]; simp; omega) (by omega) (by rw [List.length_append]; simp) (by intro q hqq; rcases List.mem_append.1 hqq with h1 | h1; exact hq q h1; simp at h1; omega) hs' h)
  rw [← dT_one] at HC1
  have HN1 := Lib.hid (fun w => l1NumD_any low w (by omega))
  have HN2 := Lib.hid (fun k (hk : k < d - (low + 1)) w => l1NumD_any (low + 1 + k) w (by omega))
  obtain ⟨T, hT⟩ : ∃ T, T = dT b := ⟨_, rfl⟩
  rw [← hT] at HC1 hix hsz ⊢
  have HC3 := Lib.hid (show ∀ (k : Nat), dT (b ++ [low + 1 + k]) = T ++ dg1T (low + 1 + k) from fun k => by rw [hT, dT_one])
  obtain ⟨U, hU⟩ : ∃ U, U = dg1T low := ⟨_, rfl⟩
  have hUz : U.size = 1 := by rw [hU]; rfl
  rw [← hU] at HC1 HN1
  have hmi : (T.size : Int) - (p : Int) = ((b.length - p : Nat) : Int) := by omega
  have hTl : ¬ (T.size : Int) = (l : Int) := by omega
  have hTz : ¬ (T.size : Int) = 0 := by omega
  have hT4 : T.size ≤ 4 := by omega
  rw [HG.out]
  have hpz : p ≤ T.size := by omega
  clear hU hT hlow HG ih hq h hb
  obtain ⟨A1, hA1⟩ : ∃ A, A = rgF d l f (b ++ [low]) p := ⟨_, rfl⟩
  obtain ⟨gg, hgg⟩ : ∃ g, g = (fun x => rgF d l f (b ++ [low + 1 + x]) (b.length + 1)) := ⟨_, rfl⟩
  rw [← hgg] at HFL HFS hs ⊢
  rw [← hA1] at HC1 hs ⊢
  clear hA1 hgg
  obtain ⟨N, hN⟩ : ∃ N, N = d - (low + 1) := ⟨_, rfl⟩
  rw [← hN] at HFL HC2 HN2 hs ⊢
  have hNd : low + 1 + N = d := by omega
  clear hN
  go_enter Try.func79, Try.ntmps79
  go_wp2_with (fail)
  rw [hix]
  refine (HN1.out _).mono ?_
  rintro e w1 ⟨rfl, x1⟩
  go_wp2_with (fail)
  refine (HC1.out _ (HA.out.ext x1)).mono ?_
  rintro e w2 ⟨rfl, h2, g2⟩
  have HA2 := Lib.hid h2
  have HGR2 := Lib.hid (grC_trans (grC_ext (C := C) x1) g2)
  clear h2 g2 x1 HC1 HN1 hix
  go_wp2_with (fail)
  go_loopw [12] (fun i wr => ∃ k : Nat, k ≤ N ∧ i = .int .i64 ((low + 1 + k : Nat) : Int) ∧ AtS C (s ++ dT (A1 ++ fl gg k)) wr ∧ w.grownBy wr (some C)) (fun i _ => d - (intOf i).toNat)
  case atStart => exact ⟨0, Nat.zero_le _, by go_num, by rw [show fl gg 0 = [] from rfl, List.append_nil]; exact HA2.out, HGR2.out⟩
  case round =>
    obtain ⟨k, hk, rfl, hA, hG⟩ := hrel
    have HA3 := Lib.hid hA
    have HG3 := Lib.hid hG
    have hc3 := hA.cell
    have hf3 := hA.fr
    clear hA hG hc hf
    by_cases hlt : k < N
    · have hki : ((low + 1 + k : Nat) : Int) < (d : Int) := by omega
      have HE := Lib.hid (show s ++ dT (A1 ++ fl gg (k + 1)) = (s ++ dT (A1 ++ fl gg k)) ++ dT (rgF d l f (b ++ [low + 1 + k]) (b.length + 1)) by
        rw [HFS.out, ← List.append_assoc, dT_app (A1 ++ fl gg k), ByteArray.append_assoc])
      have HCk := HC2.out k hlt (s ++ dT (A1 ++ fl gg k))
      have hsk : (s ++ dT (A1 ++ fl gg k)).size + (rgF d l f (b ++ [low + 1 + k]) (b.length + 1)).length ≤ 1000000 := by
        have h1 := HFL.out (k + 1) (by omega)
        rw [HFS.out, List.length_append] at h1
        rw [ByteArray.size_append, dT_size, List.length_append]
        omega
      have HCK := Lib.hid (fun w h => HCk w hsk h)
      rw [HC3.out, show ((b.length + 1 : Nat) : Int) = (b.length : Int) + 1 by omega] at HCK
      have HNK := Lib.hid (HN2.out k hlt)
      obtain ⟨U2, hU2⟩ : ∃ U, U = dg1T (low + 1 + k) := ⟨_, rfl⟩
      have hUz2 : U2.size = 1 := by rw [hU2]; rfl
      rw [← hU2] at HCK HNK
      obtain ⟨S3, hS3⟩ : ∃ S3, S3 = s ++ dT (A1 ++ fl gg k) := ⟨_, rfl⟩
      rw [← hS3] at HA3 HCK HE hc3
      obtain ⟨x, hx⟩ : ∃ x, x = low + 1 + k := ⟨_, rfl⟩
      rw [← hx] at HNK hki ⊢
      have hxk : x + 1 = low + 1 + (k + 1) := by omega
      clear hx hS3 hU2 hsk HCk hs hUz
      go_wp2_with (fail)
      refine (HNK.out _).mono ?_
      rintro e w3 ⟨rfl, x3⟩
      go_wp2_with (fail)
      refine (HCK.out _ (HA3.out.ext x3)).mono ?_
      rintro e w4 ⟨rfl, h4, g4⟩
      have HA4 := Lib.hid h4
      have HGR4 := Lib.hid (grC_trans HG3.out (grC_trans (grC_ext (C := C) x3) g4))
      clear h4 g4 x3
      go_wp2
      go_roundw
      case rel => exact ⟨k + 1, by omega, by rw [← hxk]; go_num, by rw [HE.out]; exact HA4.out, HGR4.out⟩
      case measure => simp [intOf]; omega
    · obtain rfl : k = N := by omega
      have hki : ¬ ((low + 1 + k : Nat) : Int) < (d : Int) := by omega
      go_wp2_with (fail)
      (try simp only [Exit.inBlock, Exit.then])
      refine bodyPost_end (results_none rfl _ _ _) rfl ?_
      exact ⟨rfl, HA3.out, HG3.out⟩
end Go.Proofs.Ytdhcknknmloopab
