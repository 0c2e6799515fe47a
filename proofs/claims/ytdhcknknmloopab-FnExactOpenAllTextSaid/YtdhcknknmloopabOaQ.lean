/- Texts that open all locks: the model's text. No conditions. -/
import Derived.Test.YtdhcknknmloopabOaP
import Derived.Deep.LoopGhost
namespace Go.Proofs.Ytdhcknknmloopab
open Go.RowKit

theorem ring_all (d l C : Nat) (hd : d ≤ 10) (hl : 2 ≤ l ∧ l ≤ 4) : ∀ f, RingAt d l C f := by
  intro f
  induction f with
  | zero => exact fun b p s w hb hp hpb _ hs h => leaf_any d l C b p s w hl (by omega) hp hpb (by omega) h
  | succ f ih => exact step_any d l C f hd hl ih

set_option maxRecDepth 100000 in
set_option maxHeartbeats 2000000 in
theorem top_any (d l C : Nat) (s : ByteArray) (w : World) (hd : 1 ≤ d ∧ d ≤ 10) (hl : 2 ≤ l ∧ l ≤ 4) (hs : s.size + (rgA d l).length ≤ 1000000) (h : AtS C s w) : Calls Try.prog 79 #[.int .i64 (d : Int), .int .i64 (l : Int), .string ⟨#[]⟩, .int .i64 0, .pointer (some ⟨C, 0, none⟩)] w fun e w' => e = .returned (.tuple #[]) ∧ AtS C (s ++ dT (rgA d l)) w' ∧ w.grownBy w' (some C) := by
  obtain ⟨gg, hgg⟩ : ∃ g, g = (fun x => rgF d l (l - 1) [x] 1) := ⟨_, rfl⟩
  have HG := Lib.hid (show rgA d l = fl gg d by rw [hgg]; rfl)
  have HR := Lib.hid (fun (k : Nat) (hk : k < d) (s' : ByteArray) (w : World) (hs' : s'.size + (gg k).length ≤ 1000000) (h : AtS C s' w) => (show Calls Try.prog 79 #[.int .i64 (d : Int), .int .i64 (l : Int), .string (dg1T k), .int .i64 1, .pointer (some ⟨C, 0, none⟩)] w fun e w' => e = .returned (.tuple #[]) ∧ AtS C (s' ++ dT (gg k)) w' ∧ w.grownBy w' (some C) from by
    rw [hgg] at hs' ⊢
    exact ring_all d l C hd.2 hl (l - 1) [k] 1 s' w (by simp; omega) (Nat.le_refl _) (Nat.le_refl _) (by intro q hq; simp at hq; omega) hs' h))
  have HFL := Lib.hid (fun k h => fl_le gg k d h)
  have HN := Lib.hid (fun k (hk : k < d) w => l1NumD_any k w (by omega))
  have HA := Lib.hid h
  have hlz : ¬ (0 : Int) = (l : Int) := by omega
  have hlb : ((0 : Int) == (l : Int)) = false := by simpa using hlz
  rw [HG.out] at hs ⊢
  clear h hgg HG
  go_enter Try.func79, Try.ntmps79
  go_wp2_with (fail)
  go_loopw [10] (fun i wr => ∃ k : Nat, k ≤ d ∧ i = .int .i64 (k : Int) ∧ AtS C (s ++ dT (fl gg k)) wr ∧ w.grownBy wr (some C)) (fun i _ => d - (intOf i).toNat)
  case atStart => exact ⟨0, Nat.zero_le _, rfl, by rw [show s ++ dT (fl gg 0) = s from ByteArray.append_empty]; exact HA.out, grC_refl C _⟩
  case round =>
    obtain ⟨k, hk, rfl, hA, hG⟩ := hrel
    have HA3 := Lib.hid hA
    have HG3 := Lib.hid hG
    clear hA hG
    by_cases hlt : k < d
    · have hki : (k : Int) < (d : Int) := by omega
      have HE := Lib.hid (show s ++ dT (fl gg (k + 1)) = (s ++ dT (fl gg k)) ++ dT (gg k) by rw [fl_succ, dT_app, ByteArray.append_assoc])
      have hsk : (s ++ dT (fl gg k)).size + (gg k).length ≤ 1000000 := by
        have h1 := HFL.out (k + 1) (by omega)
        rw [fl_succ, List.length_append] at h1
        rw [ByteArray.size_append, dT_size]
        omega
      have HCK := Lib.hid (fun w h => HR.out k hlt (s ++ dT (fl gg k)) w hsk h)
      have HNK := Lib.hid (HN.out k hlt)
      obtain ⟨S3, hS3⟩ : ∃ S3, S3 = s ++ dT (fl gg k) := ⟨_, rfl⟩
      rw [← hS3] at HA3 HCK HE
      obtain ⟨U, hU⟩ : ∃ U, U = dg1T k := ⟨_, rfl⟩
      rw [← hU] at HCK HNK
      clear hS3 hU hsk hs
      go_wp2_with (fail)
      refine (HNK.out _).mono ?_
      rintro e w3 ⟨rfl, x3⟩
      go_wp2_with (fail)
      refine (HCK.out _ (HA3.out.ext x3)).mono ?_
      rintro e w4 ⟨rfl, h4, g4⟩
      have HA4 := Lib.hid h4
      have HGR4 := Lib.hid (grC_trans HG3.out (grC_trans (grC_ext (C := C) x3) g4))
      clear h4 g4 x3
      go_wp2
      go_roundw
      case rel =>
        have HF := Lib.hid (show ∃ k_1 : Nat, k_1 ≤ d ∧ Value.int .i64 ((k : Int) + 1) = .int .i64 (k_1 : Int) ∧ AtS C (s ++ dT (fl gg k_1)) w4 ∧ w.grownBy w4 (some C) from ⟨k + 1, by omega, by go_num, by rw [HE.out]; exact HA4.out, HGR4.out⟩)
        exact HF.out
      case measure => simp [intOf]; omega
    · obtain rfl : k = d := by omega
      have hki : ¬ (k : Int) < (k : Int) := by omega
      go_wp2_with (fail)
      (try simp only [Exit.inBlock, Exit.then])
      refine bodyPost_ret (results_none rfl _ _ _) rfl ?_
      exact ⟨rfl, HA3.out, HG3.out⟩

theorem dT_mid (a : List Nat) (i j : Nat) (h : i ≤ j) : (dT a).extract i j = dT ((a.take j).drop i) := by
  apply ByteArray.ext
  rw [ByteArray.data_extract]
  unfold dT dA
  apply Array.ext'
  simp only [List.extract_toArray, List.map_drop, List.map_take]
  rw [List.extract_eq_take_drop, List.take_drop, show i + (j - i) = j by omega]

set_option maxRecDepth 100000 in
set_option maxHeartbeats 2000000 in
theorem more_any (l : Nat) (g : List Nat) (w : World) (hl : 2 ≤ l ∧ l ≤ 4) (hg : 1 ≤ g.length ∧ g.length ≤ 400) : Calls Try.prog 80 #[.string (dT g), .int .i64 (l : Int)] w fun e w' => e = .returned (.string (dT (moreT l g))) ∧ w = w' := by
  obtain ⟨A, hA⟩ : ∃ A, A = arF l g 4 g := ⟨_, rfl⟩
  have HM := Lib.hid (show moreT l g = (A.take (l - 1)).drop 1 by rw [hA]; rfl)
  have HZ := Lib.hid (dT_size g)
  have hgz : (dT g).size ≤ 400 := by rw [dT_size]; exact hg.2
  have HAP := Lib.hid (fun a => dT_app a g)
  have HA := Lib.hid hA
  obtain ⟨T, hT⟩ : ∃ T, T = dT g := ⟨_, rfl⟩
  rw [← hT] at HZ hgz HAP ⊢
  have HT := Lib.hid hT
  rw [HM.out]
  clear hT hA
  go_enter Try.func80, Try.ntmps80
  go_wp2_with (fail)
  go_loopg [5] 4 (fun gk v wr => ∃ a, v = .string (dT a) ∧ arF l g gk a = A ∧ l ≤ a.length + gk ∧ a.length ≤ 404 ∧ w = wr)
  case atStart => exact ⟨g, by rw [HT.out], HA.out.symm, by omega, by omega, rfl⟩
  case round =>
    obtain ⟨a, rfl, hA, hla, ha4, rfl⟩ := hrel
    have hsz := dT_size a
    have HAA := Lib.hid (HAP.out a)
    have HDM := Lib.hid (dT_mid a 1 (l - 1) (by omega))
    have HGA := Lib.hid hA
    obtain ⟨V, hV⟩ : ∃ V, V = dT a := ⟨_, rfl⟩
    rw [← hV] at hsz HAA HDM ⊢
    clear hV hA
    by_cases hlt : a.length < l
    · have hli : (V.size : Int) < (l : Int) := by omega
      obtain ⟨gk, rfl⟩ : ∃ k, gk = k + 1 := ⟨gk - 1, by omega⟩
      have HS := Lib.hid (show arF l g gk (a ++ g) = A from by rw [← HGA.out, arF, if_pos hlt])
      go_wp2_with (fail)
      go_roundg gk
      case measure => omega
      case rel => exact ⟨a ++ g, by rw [HAA.out], HS.out, by rw [List.length_append]; omega, by rw [List.length_append]; omega, rfl⟩
    · have hli : ¬ (V.size : Int) < (l : Int) := by omega
      have HS := Lib.hid (show a = A from by
        rw [← HGA.out]
        cases gk with
        | zero => rfl
        | succ k => rw [arF, if_neg hlt])
      have h1l : (1 : Int) ≤ (l : Int) - 1 := by omega
      have h2l : (l : Int) - 1 = ((l - 1 : Nat) : Int) := by omega
      go_wp2_with (fail)
      go_ret
      exact ⟨by rw [HDM.out, HS.out, List.drop_one]; rfl, rfl⟩

def oaL (d l : Nat) : List Nat := rgA d l ++ (rgA d l).take 1 ++ moreT l (rgA d l)
def otV (D n : Int) : ByteArray := if coG D n then dT (oaL D.toNat n.toNat) else ⟨#[]⟩
theorem otV_no {D n : Int} (h : coG D n = false) : otV D n = ⟨#[]⟩ := by unfold otV; rw [h]; rfl
theorem otV_yes {D n : Nat} (h : coG D n = true) : otV D n = dT (oaL D n) := by unfold otV; rw [h]; rfl
theorem okDL_of {d l : Nat} (h1 : 1 ≤ d) (h2 : d ≤ 10) (h3 : 2 ≤ l) (h4 : l ≤ 4) (h5 : d ^ l ≤ 300) : okDL d l = true := by
  unfold okDL
  simp [h1, h2, h3, h4, h5]
theorem same_of {d l : Nat} (h : okDL d l = true) : ∃ r, goF d l 400 [0] [] = some r ∧ r ++ List.replicate (l - 1) 0 = oaL d l ∧ r.length ≤ 400 ∧ (∀ q ∈ r, q < 10) ∧ 1 ≤ (rgA d l).length ∧ (rgA d l).length ≤ 400 := by
  have hb : d < 11 ∧ l < 5 := by unfold okDL at h; simp at h; omega
  have h2 := same_all d hb.1 l hb.2 h
  unfold sameB at h2
  cases hg : goF d l 400 [0] [] with
  | none => rw [hg] at h2; cases h2
  | some r =>
    rw [hg] at h2
    simp only [Bool.and_eq_true, decide_eq_true_eq, List.all_eq_true] at h2
    exact ⟨r, rfl, h2.1.1.1, h2.1.1.2, h2.1.2.1, h2.1.2.2, h2.2⟩

set_option maxRecDepth 100000 in
set_option maxHeartbeats 2000000 in
theorem oaS_txt (D n : Int) (w : World) : Calls Try.prog 41 #[.int .i64 D, .int .i64 n] w fun e w' => e = .returned (.tuple #[.string (otV D n), .bool (coG D n)]) ∧ Ext w w' := by
  have HP := Lib.hid (fun w => piAll_any D n w)
  cases hc : coG D n
  · rw [otV_no hc]
    rw [paV_no hc] at HP
    go_enter Try.func41, Try.ntmps41
    go_wp2_with (fail)
    refine (HP.out _).mono ?_
    rintro e w' ⟨rfl, rfl⟩
    go_wp2
    go_ret2
    exact ⟨rfl, Ext.refl _⟩
  · obtain ⟨d, l, rfl, rfl, hd1, hd2, hl1, hl2, h300⟩ := coG_parts hc
    obtain ⟨r, _, _, _, _, hg1, hg2⟩ := same_of (okDL_of hd1 hd2 hl1 hl2 h300)
    rw [otV_yes hc]
    rw [paV_yes hc] at HP
    have HV := Lib.hid (show oaL d l = rgA d l ++ (rgA d l).take 1 ++ moreT l (rgA d l) from rfl)
    have HTOP := Lib.hid (fun C w (h : AtS C ⟨#[]⟩ w) => top_any d l C ⟨#[]⟩ w ⟨hd1, hd2⟩ ⟨hl1, hl2⟩ (by have : (⟨#[]⟩ : ByteArray).size = 0 := rfl; omega) h)
    have HMO := Lib.hid (fun w => more_any l (rgA d l) w ⟨hl1, hl2⟩ ⟨hg1, hg2⟩)
    obtain ⟨G, hG⟩ : ∃ G, G = rgA d l := ⟨_, rfl⟩
    rw [← hG] at HV HTOP HMO hg1 hg2
    have hpos : ((d ^ l : Nat) : Int) ≥ 0 := by omega
    obtain ⟨N, hN⟩ : ∃ N, N = d ^ l := ⟨_, rfl⟩
    rw [← hN] at HP hpos
    clear hG hN hc
    go_enter Try.func41, Try.ntmps41
    go_wp2_with (fail)
    refine (HP.out _).mono ?_
    rintro e w' ⟨rfl, rfl⟩
    go_wp2_with (fail)
    refine (HTOP.out w.heap.size _ (heap_alloc_new w _)).mono ?_
    rintro e w2 ⟨rfl, h2, g2⟩
    have hx : Ext w w2 := ext_grown (Below.alloc (Ext.refl _) (Nat.le_refl _) _) g2 (fun k hk => by injection hk; omega)
    have hE : (⟨#[]⟩ : ByteArray) ++ dT G = dT G := ByteArray.empty_append
    rw [hE] at h2
    have HV2 := Lib.hid (show dT (oaL d l) = dT G ++ (dT G).extract 0 1 ++ dT (moreT l G) by rw [HV.out, dT_app, dT_app, dT_mid G 0 1 (by omega), List.drop_zero])
    have hc := h2.cell
    have hgz : (dT G).size = G.length := dT_size G
    have hmz : (dT (moreT l G)).size ≤ 4 := by
      rw [dT_size]; unfold moreT
      rw [List.length_drop, List.length_take]; omega
    obtain ⟨T, hT⟩ : ∃ T, T = dT G := ⟨_, rfl⟩
    obtain ⟨M, hM⟩ : ∃ M, M = dT (moreT l G) := ⟨_, rfl⟩
    rw [← hT] at HMO hc hgz HV2
    rw [← hM] at HMO hmz HV2
    have hT1 : 1 ≤ T.size := by omega
    have hT400 : T.size ≤ 400 := by omega
    have HX := Lib.hid hx
    clear hT hM HV hE h2 g2 hg1 hg2 hgz HTOP HP hx
    go_wp2_with (fail)
    go_quiet (exact Calls.quiet_of_same ((HMO.out _).mono fun e w' h => ⟨h.1, h.2.symm⟩))
    all_goals go_wp2
    all_goals go_ret2
    all_goals rw [HV2.out]
    all_goals exact ⟨rfl, ext_drewN HX.out _⟩
end Go.Proofs.Ytdhcknknmloopab
