/- The steps of one thumb: the program's closure and the model's sum. No conditions. -/
import Derived.Test.YtmpajijnpoekgadSeq
import Derived.Lib.OthersKept
namespace Go.Proofs.Ytmpajijnpoekgad
open Go.RowKit

/-- The steps from a place along a path. -/
def wlk (c : Bool) (p : Nat) : List Nat → Nat
  | [] => 0
  | q :: l => far c p q + wlk c q l
/-- The place before the step with a number. -/
def bef (p : Nat) (ps : List Nat) (k : Nat) : Nat := (p :: ps).getD k 0
theorem bef_zero (p : Nat) (ps : List Nat) : bef p ps 0 = p := rfl
theorem bef_succ (p : Nat) (ps : List Nat) (k : Nat) (h : k < ps.length) : bef p ps (k + 1) = ps[k] := by
  unfold bef
  rw [List.getD_cons_succ, List.getD_eq_getElem?_getD, List.getElem?_eq_getElem h]; rfl
theorem bef_lt {p : Nat} {ps : List Nat} (hp : p < 12) (h : ∀ q ∈ ps, q < 12) (k : Nat) : bef p ps k < 12 := by
  unfold bef
  rw [List.getD_eq_getElem?_getD]
  by_cases hk : k < (p :: ps).length
  · rw [List.getElem?_eq_getElem hk]
    have := List.getElem_mem hk
    rcases List.mem_cons.1 this with e | e
    · show (p :: ps)[k] < 12
      omega
    · exact h _ e
  · rw [List.getElem?_eq_none (by omega)]; decide
theorem wlk_take (c : Bool) : ∀ (ps : List Nat) (p : Nat) (k : Nat) (h : k < ps.length), wlk c p (ps.take (k + 1)) = wlk c p (ps.take k) + far c (bef p ps k) ps[k]
  | [], p, k, h => absurd h (Nat.not_lt_zero _)
  | q :: l, p, 0, _ => by simp [wlk, bef]
  | q :: l, p, k + 1, h => by
    have h2 : k < l.length := by simpa using h
    have := wlk_take c l q k h2
    rw [List.take_succ_cons, List.take_succ_cons]
    show far c p q + wlk c q (l.take (k + 1)) = far c p q + wlk c q (l.take k) + far c (bef p (q :: l) (k + 1)) l[k]
    have e : bef p (q :: l) (k + 1) = bef q l k := rfl
    rw [this, e]
    omega
theorem wlk_le (c : Bool) : ∀ (ps : List Nat) (p : Nat), p < 12 → (∀ q ∈ ps, q < 12) → wlk c p ps ≤ 5 * ps.length
  | [], _, _, _ => Nat.zero_le _
  | q :: l, p, hp, h => by
    have h1 := far_le c p q hp (h q (by simp))
    have h2 := wlk_le c l q (h q (by simp)) (fun x hx => h x (List.mem_cons_of_mem _ hx))
    show far c p q + wlk c q l ≤ 5 * (l.length + 1)
    omega
theorem mem_takeN {ps : List Nat} {k : Nat} (h : ∀ q ∈ ps, q < 12) : ∀ q ∈ ps.take k, q < 12 := fun q hq => h q (List.mem_of_mem_take hq)

/-- v is the closure that knows the kind of distance. -/
def Walk (w : World) (v : Value) (c : Bool) : Prop := ∃ C, v = .func (.func 88) #[] #[.pointer (some ⟨C, 0, none⟩)] ∧ C < w.heap.size ∧ w.cell? ⟨C, 0, none⟩ = some (.bool c)
theorem Walk.ext {w w' : World} {v : Value} {c : Bool} (h : Walk w v c) (hx : Ext w w') : Walk w' v c := by
  obtain ⟨C, h1, h2, h3⟩ := h
  exact ⟨C, h1, Nat.lt_of_lt_of_le h2 hx.size, (hx.cell (p := ⟨C, 0, none⟩) h2).trans h3⟩

def GotWalk (c : Bool) (w : World) (e : Ending) (w' : World) : Prop := ∃ v, e = .returned v ∧ Walk w' v c ∧ Ext w w'

set_option maxHeartbeats 1000000 in
theorem walkWith_any (c : Bool) (w : World) : Calls Try.prog 65 #[.bool c] w (GotWalk c w) := by
  have hmf : ∀ (fn : Fn) (first cap : Array Value) (w : World), (Instr.makeFunc fn first cap).run Try.prog w = .ok (.func fn first cap) w := fun _ _ _ _ => rfl
  go_enter Try.func65, Try.ntmps65
  go_wp2
  go_ret
  refine ⟨_, rfl, ⟨w.heap.size, rfl, ?_, ?_⟩, ?_⟩
  · simp [go_sem]
  · simp [go_sem]
  · exact Below.alloc (Ext.refl _) (Nat.le_refl _) _

set_option maxHeartbeats 1000000 in
theorem wlk_any (p : Nat) (v : Value) (ps : List Nat) (C : Nat) (c : Bool) (w : World) (h : Ps w v ps) (hC : C < w.heap.size) (hc : w.cell? ⟨C, 0, none⟩ = some (.bool c)) (hp : p < 12) (hps : ∀ q ∈ ps, q < 12) (hl : ps.length ≤ 1000) : Calls Try.prog 88 #[.int .i64 p, v, .pointer (some ⟨C, 0, none⟩)] w fun e w' => e = .returned (.int .i64 (wlk c p ps : Nat)) ∧ Ext w w' := by
  have H := Lib.hid h
  have HP := Lib.hid hps
  obtain ⟨a, cap, hv⟩ := h.at
  rw [hv] at H ⊢
  clear hv h hps
  go_enter Try.func88, Try.ntmps88
  go_wp2
  go_loopw [0, 6, 11] (fun f t i wr => ∃ k : Nat, k ≤ ps.length ∧ i = .int .i64 k ∧ f = .int .i64 (bef p ps k : Nat) ∧ t = .int .i64 (wlk c p (ps.take k) : Nat) ∧ Ext w wr) (fun _ _ i _ => ps.length - (intOf i).toNat)
  case atStart => exact ⟨0, Nat.zero_le _, rfl, rfl, rfl, Ext.refl _⟩
  case round =>
    obtain ⟨k, hk, rfl, rfl, rfl, hx⟩ := hrel
    by_cases hlt : k < ps.length
    · obtain ⟨b, off, ha, hb, hcell⟩ := (H.out.ext hx).get k hlt
      have hcC := (hx.cell (p := ⟨C, 0, none⟩) hC).trans hc
      have hq : ps[k] < 12 := HP.out _ (List.getElem_mem hlt)
      have hf := bef_lt hp HP.out k
      have hle := wlk_le c (ps.take k) p hp (mem_takeN HP.out)
      have hle2 : wlk c p (ps.take k) ≤ 5000 := by
        rw [List.length_take] at hle
        omega
      have hfar := far_le c (bef p ps k) ps[k] hf hq
      have HT := Lib.hid (wlk_take c ps p k hlt)
      have HB := Lib.hid (bef_succ p ps k hlt)
      obtain ⟨f, hfe⟩ : ∃ f, f = bef p ps k := ⟨_, rfl⟩
      obtain ⟨t, hte⟩ : ∃ t, t = wlk c p (ps.take k) := ⟨_, rfl⟩
      rw [← hfe] at hf hfar HT ⊢
      rw [← hte] at hle2 HT ⊢
      clear hle hfe hte
      subst ha
      go_wp2_with (go_at_call 89; refine (pdist_any _ _ _ _ (by assumption) (by assumption)).mono ?_; rintro e w' ⟨rfl, rfl⟩)
      go_roundw
      case rel => exact ⟨k + 1, by omega, by go_num, by rw [HB.out], by rw [HT.out]; go_num, hx⟩
      case measure => simp [intOf]; omega
    · have HE := Lib.hid (show ps.take k = ps from List.take_of_length_le (by omega))
      go_wp2
      go_ret
      exact ⟨by rw [HE.out]; rfl, hx⟩

theorem strs1 (w : World) (s : ByteArray) (t : TypeId) (hs : s.size ≤ maxLen) : Strs (w.alloc (.cells #[.string s] t)) (.slice (some ⟨w.heap.size, 0, none⟩) 1 1) [s] := by
  refine ⟨by unfold maxLen; simp, by simpa using hs, .inr ⟨w.heap.size, 0, 1, rfl, by simp [go_sem], fun j hj => ?_⟩⟩
  have : j = 0 := by simpa using hj
  subst this
  simp [go_sem]
theorem strs2 (w : World) (s u : ByteArray) (t : TypeId) (hs : s.size ≤ maxLen) (hu : u.size ≤ maxLen) : Strs (w.alloc (.cells #[.string s, .string u] t)) (.slice (some ⟨w.heap.size, 0, none⟩) 2 2) [s, u] := by
  refine ⟨by unfold maxLen; simp, by simpa using ⟨hs, hu⟩, .inr ⟨w.heap.size, 0, 2, rfl, by simp [go_sem], fun j hj => ?_⟩⟩
  have : j = 0 ∨ j = 1 := by have : j < 2 := hj; omega
  rcases this with rfl | rfl <;> simp [go_sem]

/-- Single keys to begin at, and keys. -/
def dlB (s : ByteArray) (ss : List ByteArray) : Bool := (ss.all oneD) && isD s
set_option maxHeartbeats 1000000 in
theorem canDial_any (s : ByteArray) (v : Value) (ss : List ByteArray) (w : World) (h : Strs w v ss) (hs : s.size ≤ maxLen) : Calls Try.prog 49 #[.string s, v] w fun e w' => e = .returned (.bool (dlB s ss)) ∧ Ext w w' := by
  have HS := Lib.hid h
  have HM := Lib.hid h.2.1
  have hl := h.1
  unfold maxLen at hl
  obtain ⟨a, cap, hv, _⟩ := h.at
  rw [hv] at HS ⊢
  clear hv h
  go_enter Try.func49, Try.ntmps49
  go_wp2
  go_loopw [9] (fun i wr => ∃ k : Nat, k ≤ ss.length ∧ i = .int .i64 k ∧ (ss.take k).all oneD = true ∧ Ext w wr) (fun i _ => ss.length - (intOf i).toNat)
  case atStart => exact ⟨0, Nat.zero_le _, rfl, rfl, Ext.refl _⟩
  case round =>
    obtain ⟨k, hk, rfl, hall, hx⟩ := hrel
    have HA := Lib.hid hall
    clear hall
    by_cases hlt : k < ss.length
    · rcases (HS.out.ext hx).2.2 with ⟨h3, _⟩ | ⟨b, off, cap', h1, hb, hc⟩
      · rw [h3] at hlt; exact absurd hlt (by simp)
      have ha : a = some ⟨b, off, none⟩ := by injection h1
      have e1 := hc k hlt
      have hz := HM.out ss[k] (List.getElem_mem hlt)
      have HT := Lib.hid (takeS ss k hlt)
      have HG := Lib.hid (show ss[k] ∈ ss from List.getElem_mem hlt)
      clear hc h1 hb
      subst ha
      obtain ⟨u, hu⟩ : ∃ u, u = ss[k] := ⟨_, rfl⟩
      rw [← hu] at e1 hz HT HG
      clear hu
      cases h1 : oneD u
      · have HN := Lib.hid (show dlB s ss = false by
          unfold dlB
          have : ss.all oneD = false := by rw [List.all_eq_false]; exact ⟨u, HG.out, by rw [h1]; decide⟩
          rw [this]; rfl)
        go_wp2_with (go_at_call 78; refine (dialKey_any _ _ (by assumption)).mono ?_; rintro e w' ⟨rfl, rfl⟩; rw [h1])
        go_ret
        exact ⟨ret_bool HN.out.symm, hx⟩
      · have HN := Lib.hid (show (ss.take (k + 1)).all oneD = true by rw [HT.out, List.all_append, HA.out]; simp [h1])
        go_wp2_with (go_at_call 78; refine (dialKey_any _ _ (by assumption)).mono ?_; rintro e w' ⟨rfl, rfl⟩; rw [h1])
        go_roundw
        case rel => exact ⟨k + 1, by omega, by go_num, HN.out, hx⟩
        case measure => simp [intOf]; omega
    · have HN := Lib.hid (show dlB s ss = isD s by
        unfold dlB
        rw [List.take_of_length_le (by omega)] at HA
        rw [HA.out]; rfl)
      go_wp2_with (go_at_call 56; refine (isD_any _ _ hs).mono ?_; rintro e w' ⟨rfl, rfl⟩)
      go_ret
      exact ⟨ret_bool HN.out.symm, hx⟩

theorem padK0 : ∀ p : Fin 12, isK (padL.getD p.1 0).toNat = true ∧ pn (padL.getD p.1 0) = p.1 := by decide
theorem padK (p : Nat) (h : p < (⟨#[49, 50, 51, 52, 53, 54, 55, 56, 57, 42, 48, 35]⟩ : ByteArray).size) : isK ((⟨#[49, 50, 51, 52, 53, 54, 55, 56, 57, 42, 48, 35]⟩ : ByteArray)[p]'h).toNat = true ∧ pn ((⟨#[49, 50, 51, 52, 53, 54, 55, 56, 57, 42, 48, 35]⟩ : ByteArray)[p]'h) = p := by
  have h12 : p < 12 := h
  have := padK0 ⟨p, h12⟩
  have e : padL.getD p 0 = (⟨#[49, 50, 51, 52, 53, 54, 55, 56, 57, 42, 48, 35]⟩ : ByteArray)[p]'h := by
    rw [List.getD_eq_getElem?_getD, List.getElem?_eq_getElem (show p < padL.length from h12)]
    rfl
  rw [← e]
  exact this
/-- The key at a place. -/
def kB (p : Nat) : ByteArray := (⟨#[49, 50, 51, 52, 53, 54, 55, 56, 57, 42, 48, 35]⟩ : ByteArray).extract p (p + 1)
theorem kB_eq (p : Nat) : (⟨#[49, 50, 51, 52, 53, 54, 55, 56, 57, 42, 48, 35]⟩ : ByteArray).extract p (p + 1) = kB p := rfl
theorem kB_size (p : Nat) (h : p < 12) : (kB p).size = 1 := by
  unfold kB
  rw [ext1 ⟨#[49, 50, 51, 52, 53, 54, 55, 56, 57, 42, 48, 35]⟩ p (show p < 12 from h)]
  rfl
theorem padAscii (p : Nat) (h : p < (⟨#[49, 50, 51, 52, 53, 54, 55, 56, 57, 42, 48, 35]⟩ : ByteArray).size) : ((⟨#[49, 50, 51, 52, 53, 54, 55, 56, 57, 42, 48, 35]⟩ : ByteArray)[p]'h).toNat < 128 := by
  have h2 := (padK p h).1
  obtain ⟨k, hk⟩ : ∃ k, k = (⟨#[49, 50, 51, 52, 53, 54, 55, 56, 57, 42, 48, 35]⟩ : ByteArray)[p]'h := ⟨_, rfl⟩
  have h3 : k ∈ padL := by rw [hk]; exact List.getElem_mem (show p < padL.length from h)
  have : ∀ x ∈ padL, x.toNat < 128 := by decide
  rw [← hk]
  exact this k h3
theorem keyAt_any (p : Nat) (w : World) (h : p < 12) : Calls Try.prog 58 #[.int .i64 p] w fun e w' => e = .returned (.string (kB p)) ∧ w = w' := by
  have hp1 : p + 1 ≤ (⟨#[49, 50, 51, 52, 53, 54, 55, 56, 57, 42, 48, 35]⟩ : ByteArray).size := h
  have h0 : p ≤ 12 := by omega
  go_enter Try.func58, Try.ntmps58
  go_wp2
  go_ret
  exact ⟨by rw [← kB_eq]; rfl, rfl⟩

theorem far_self (c : Bool) (p : Nat) : far c p p = 0 := by
  cases c
  · rw [far_no]; unfold absd; omega
  · rw [far_yes]; unfold absd; omega
theorem far_pos (c : Bool) (p q : Nat) (h : p ≠ q) : 0 < far c p q := by
  cases c
  · rw [far_no]; unfold absd; omega
  · rw [far_yes]; unfold absd; omega
/-- The place to begin at. -/
def stP (ps : List Nat) : Nat := ps.headD 0
theorem wlk_start (c : Bool) (ps : List Nat) (x : Nat) : wlk c (stP ps) ps ≤ wlk c x ps := by
  cases ps with
  | nil => exact Nat.le_refl _
  | cons q l =>
    show far c q q + wlk c q l ≤ far c x q + wlk c q l
    rw [far_self]; omega
theorem wlk_start_lt (c : Bool) (ps : List Nat) (x : Nat) (h0 : ps ≠ []) (h : x ≠ stP ps) : wlk c (stP ps) ps < wlk c x ps := by
  cases ps with
  | nil => exact absurd rfl h0
  | cons q l =>
    show far c q q + wlk c q l < far c x q + wlk c q l
    have := far_pos c x q h
    rw [far_self]; omega
theorem wlk_nil (c : Bool) (x : Nat) : wlk c x [] = 0 := rfl

theorem iter_extP {w w' : World} {k : Nat} {q : ByteArray} {p : Nat} (h : w.heap[k]? = some (.stringIter q p)) (hx : Ext w w') : w'.heap[k]? = some (.stringIter q p) := (hx.block k (Array.getElem?_eq_some_iff.1 h).1).trans h
theorem ext_iterP {a w : World} (h : Ext a w) {k : Nat} (hk : a.heap.size ≤ k) (q : ByteArray) (p : Nat) : Ext a (w.iterAt k q p) := Lib.below_iterAt h hk q p
end Go.Proofs.Ytmpajijnpoekgad
