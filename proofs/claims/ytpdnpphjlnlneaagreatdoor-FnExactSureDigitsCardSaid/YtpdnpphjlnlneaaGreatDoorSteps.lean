/- The steps of one thumb: the program's closure and the model's sum. No conditions. -/
import Derived.Test.YtpdnpphjlnlneaaGreatDoorSeq
import Derived.Lib.OthersKept
namespace Go.Proofs.YtpdnpphjlnlneaaGreatDoor
open Go.RowKit

/-- The steps from a place along a path. -/
def wlk (c : Bool) (p : Nat) : List Nat → Nat
  | [] => 0
  | q :: l => far c p q + wlk c q l
/-- The place before the step with a number. -/
def bef (p : Nat) (ps : List Nat) (k : Nat) : Nat := (p :: ps).getD k 0
theorem bef_zero (p : Nat) (ps : List Nat) : bef p ps 0 = p := rfl
theorem bef_succ (p : Nat) (ps : List Nat) (k : Nat) (h : k < ps.length) : bef p ps (k + 1) = ps[k] := by
  unfold bef
  rw [List.getD_cons_succ, List.getD_eq_getElem?_getD, List.getElem?_eq_getElem h]; rfl
theorem bef_lt {p : Nat} {ps : List Nat} (hp : p < 12) (h : ∀ q ∈ ps, q < 12) (k : Nat) : bef p ps k < 12 := by
  unfold bef
  rw [List.getD_eq_getElem?_getD]
  by_cases hk : k < (p :: ps).length
  · rw [List.getElem?_eq_getElem hk]
    have := List.getElem_mem hk
    rcases List.mem_cons.1 this with e | e
    · show (p :: ps)[k] < 12
      omega
    · exact h _ e
  · rw [List.getElem?_eq_none (by omega)]; decide
theorem wlk_take (c : Bool) : ∀ (ps : List Nat) (p : Nat) (k : Nat) (h : k < ps.length), wlk c p (ps.take (k + 1)) = wlk c p (ps.take k) + far c (bef p ps k) ps[k]
  | [], p, k, h => absurd h (Nat.not_lt_zero _)
  | q :: l, p, 0, _ => by simp [wlk, bef]
  | q :: l, p, k + 1, h => by
    have h2 : k < l.length := by simpa using h
    have := wlk_take c l q k h2
    rw [List.take_succ_cons, List.take_succ_cons]
    show far c p q + wlk c q (l.take (k + 1)) = far c p q + wlk c q (l.take k) + far c (bef p (q :: l) (k + 1)) l[k]
    have e : bef p (q :: l) (k + 1) = bef q l k := rfl
    rw [this, e]
    omega
theorem wlk_le (c : Bool) : ∀ (ps : List Nat) (p : Nat), p < 12 → (∀ q ∈ ps, q < 12) → wlk c p ps ≤ 5 * ps.length
  | [], _, _, _ => Nat.zero_le _
  | q :: l, p, hp, h => by
    have h1 := far_le c p q hp (h q (by simp))
    have h2 := wlk_le c l q (h q (by simp)) (fun x hx => h x (List.mem_cons_of_mem _ hx))
    show far c p q + wlk c q l ≤ 5 * (l.length + 1)
    omega
theorem mem_takeN {ps : List Nat} {k : Nat} (h : ∀ q ∈ ps, q < 12) : ∀ q ∈ ps.take k, q < 12 := fun q hq => h q (List.mem_of_mem_take hq)

/-- v is the closure that knows the kind of distance. -/
def Walk (w : World) (v : Value) (c : Bool) : Prop := ∃ C, v = .func (.func 123) #[] #[.pointer (some ⟨C, 0, none⟩)] ∧ C < w.heap.size ∧ w.cell? ⟨C, 0, none⟩ = some (.bool c)
theorem Walk.ext {w w' : World} {v : Value} {c : Bool} (h : Walk w v c) (hx : Ext w w') : Walk w' v c := by
  obtain ⟨C, h1, h2, h3⟩ := h
  exact ⟨C, h1, Nat.lt_of_lt_of_le h2 hx.size, (hx.cell (p := ⟨C, 0, none⟩) h2).trans h3⟩

def GotWalk (c : Bool) (w : World) (e : Ending) (w' : World) : Prop := ∃ v, e = .returned v ∧ Walk w' v c ∧ Ext w w'

set_option maxHeartbeats 1000000 in
theorem walkWith_any (c : Bool) (w : World) : Calls Tryz.prog 101 #[.bool c] w (GotWalk c w) := by
  have hmf : ∀ (fn : Fn) (first cap : Array Value) (w : World), (Instr.makeFunc fn first cap).run Tryz.prog w = .ok (.func fn first cap) w := fun _ _ _ _ => rfl
  go_enter Tryz.func101, Tryz.ntmps101
  go_wp2
  go_ret
  refine ⟨_, rfl, ⟨w.heap.size, rfl, ?_, ?_⟩, ?_⟩
  · simp [go_sem]
  · simp [go_sem]
  · exact Below.alloc (Ext.refl _) (Nat.le_refl _) _

set_option maxHeartbeats 1000000 in
theorem wlk_any (p : Nat) (v : Value) (ps : List Nat) (C : Nat) (c : Bool) (w : World) (h : Ps w v ps) (hC : C < w.heap.size) (hc : w.cell? ⟨C, 0, none⟩ = some (.bool c)) (hp : p < 12) (hps : ∀ q ∈ ps, q < 12) (hl : ps.length ≤ 1000) : Calls Tryz.prog 123 #[.int .i64 p, v, .pointer (some ⟨C, 0, none⟩)] w fun e w' => e = .returned (.int .i64 (wlk c p ps : Nat)) ∧ Ext w w' := by
  have H := Lib.hid h
  have HP := Lib.hid hps
  obtain ⟨a, cap, hv⟩ := h.at
  rw [hv] at H ⊢
  clear hv h hps
  go_enter Tryz.func123, Tryz.ntmps123
  go_wp2
  go_loopw [0, 6, 11] (fun f t i wr => ∃ k : Nat, k ≤ ps.length ∧ i = .int .i64 k ∧ f = .int .i64 (bef p ps k : Nat) ∧ t = .int .i64 (wlk c p (ps.take k) : Nat) ∧ Ext w wr) (fun _ _ i _ => ps.length - (intOf i).toNat)
  case atStart => exact ⟨0, Nat.zero_le _, rfl, rfl, rfl, Ext.refl _⟩
  case round =>
    obtain ⟨k, hk, rfl, rfl, rfl, hx⟩ := hrel
    by_cases hlt : k < ps.length
    · obtain ⟨b, off, ha, hb, hcell⟩ := (H.out.ext hx).get k hlt
      have hcC := (hx.cell (p := ⟨C, 0, none⟩) hC).trans hc
      have hq : ps[k] < 12 := HP.out _ (List.getElem_mem hlt)
      have hf := bef_lt hp HP.out k
      have hle := wlk_le c (ps.take k) p hp (mem_takeN HP.out)
      have hle2 : wlk c p (ps.take k) ≤ 5000 := by
        rw [List.length_take] at hle
        omega
      have hfar := far_le c (bef p ps k) ps[k] hf hq
      have HT := Lib.hid (wlk_take c ps p k hlt)
      have HB := Lib.hid (bef_succ p ps k hlt)
      obtain ⟨f, hfe⟩ : ∃ f, f = bef p ps k := ⟨_, rfl⟩
      obtain ⟨t, hte⟩ : ∃ t, t = wlk c p (ps.take k) := ⟨_, rfl⟩
      rw [← hfe] at hf hfar HT ⊢
      rw [← hte] at hle2 HT ⊢
      clear hle hfe hte
      subst ha
      go_wp2_with (go_at_call 124; refine (pdist_any _ _ _ _ (by assumption) (by assumption)).mono ?_; rintro e w' ⟨rfl, rfl⟩)
      go_roundw
      case rel => exact ⟨k + 1, by omega, by go_num, by rw [HB.out], by rw [HT.out]; go_num, hx⟩
      case measure => simp [intOf]; omega
    · have HE := Lib.hid (show ps.take k = ps from List.take_of_length_le (by omega))
      go_wp2
      go_ret
      exact ⟨by rw [HE.out]; rfl, hx⟩

theorem strs1 (w : World) (s : ByteArray) (t : TypeId) (hs : s.size ≤ maxLen) : Strs (w.alloc (.cells #[.string s] t)) (.slice (some ⟨w.heap.size, 0, none⟩) 1 1) [s] := by
  refine ⟨by unfold maxLen; simp, by simpa using hs, .inr ⟨w.heap.size, 0, 1, rfl, by simp [go_sem], fun j hj => ?_⟩⟩
  have : j = 0 := by simpa using hj
  subst this
  simp [go_sem]
theorem strs2 (w : World) (s u : ByteArray) (t : TypeId) (hs : s.size ≤ maxLen) (hu : u.size ≤ maxLen) : Strs (w.alloc (.cells #[.string s, .string u] t)) (.slice (some ⟨w.heap.size, 0, none⟩) 2 2) [s, u] := by
  refine ⟨by unfold maxLen; simp, by simpa using ⟨hs, hu⟩, .inr ⟨w.heap.size, 0, 2, rfl, by simp [go_sem], fun j hj => ?_⟩⟩
  have : j = 0 ∨ j = 1 := by have : j < 2 := hj; omega
  rcases this with rfl | rfl <;> simp [go_sem]

set_option maxHeartbeats 1000000 in
theorem thWalk0_any (s : ByteArray) (b : UInt8) (c : Bool) (w : World) (h : isD s = true) (hb : isK b.toNat = true) : Calls Tryz.prog 116 #[.string s, .int .u8 b.toNat, .bool c] w fun e w' => e = .returned (.int .i64 (wlk c (pn b) (plcs s) : Nat)) ∧ w = w' := by
  have HD := Lib.hid h
  have h30 := isD_size h
  have HL := Lib.hid (plcs_len s)
  have hp := pn_lt b
  have HPL := Lib.hid (plcs_lt s)
  clear h
  go_enter Tryz.func116, Tryz.ntmps116
  go_wp2
  go_loop [1, 7, 8] (fun f t i => ∃ k : Nat, k ≤ s.size ∧ i = .int .i64 k ∧ (∃ x : UInt8, f = .int .u8 x.toNat ∧ isK x.toNat = true ∧ pn x = bef (pn b) (plcs s) k) ∧ t = .int .i64 (wlk c (pn b) ((plcs s).take k) : Nat)) (fun _ _ i => s.size - (intOf i).toNat)
  case atStart => exact ⟨0, Nat.zero_le _, rfl, ⟨b, rfl, hb, rfl⟩, rfl⟩
  case round =>
    obtain ⟨k, hk, rfl, ⟨x, rfl, hx1, hx2⟩, rfl⟩ := hrel
    by_cases hlt : k < s.size
    · have hlt' : k < (plcs s).length := by rw [HL.out]; exact hlt
      have hK := isD_get HD.out k hlt
      have hle := wlk_le c ((plcs s).take k) (pn b) hp (mem_takeN HPL.out)
      have hle2 : wlk c (pn b) ((plcs s).take k) ≤ 5000 := by
        rw [List.length_take, HL.out] at hle
        omega
      have hfar := far_le c (pn x) (pn s[k]) (pn_lt _) (pn_lt _)
      have HT := Lib.hid (show wlk c (pn b) ((plcs s).take (k + 1)) = wlk c (pn b) ((plcs s).take k) + far c (pn x) (pn s[k]) by rw [wlk_take c _ _ k hlt', ← hx2, plcs_at])
      have HB := Lib.hid (show pn s[k] = bef (pn b) (plcs s) (k + 1) by rw [bef_succ _ _ k hlt', plcs_at])
      obtain ⟨t, hte⟩ : ∃ t, t = wlk c (pn b) ((plcs s).take k) := ⟨_, rfl⟩
      rw [← hte] at hle2 HT ⊢
      clear hle hte hx2
      go_wp2_with (go_at_call 134; refine (thFar_any _ _ _ _ (by assumption) (by assumption)).mono ?_; rintro e w' ⟨rfl, rfl⟩)
      go_round
      case rel => exact ⟨k + 1, by omega, by go_num, ⟨s[k], rfl, hK, HB.out⟩, by rw [HT.out]; go_num⟩
      case measure => simp [intOf]; omega
    · have HE := Lib.hid (show (plcs s).take k = plcs s from List.take_of_length_le (by rw [HL.out]; omega))
      go_wp2
      go_ret
      exact ⟨by rw [HE.out]; rfl, rfl⟩
theorem thWalk_any (s : ByteArray) (b : UInt8) (c : Bool) (w : World) (h : isD s = true) (hb : isK b.toNat = true) : Calls Tryz.prog 116 #[.string s, .int .u8 b.toNat, .bool c] w fun e w' => e = .returned (.int .i64 (wlk c (pn b) (plcs s) : Nat)) ∧ Ext w w' :=
  (thWalk0_any s b c w h hb).mono fun _ _ ⟨h, k⟩ => ⟨h, k ▸ Ext.refl _⟩

theorem far_self (c : Bool) (p : Nat) : far c p p = 0 := by
  cases c
  · rw [far_no]; unfold absd; omega
  · rw [far_yes]; unfold absd; omega
theorem far_pos (c : Bool) (p q : Nat) (h : p ≠ q) : 0 < far c p q := by
  cases c
  · rw [far_no]; unfold absd; omega
  · rw [far_yes]; unfold absd; omega
/-- The place to begin at. -/
def stP (ps : List Nat) : Nat := ps.headD 0
theorem wlk_start (c : Bool) (ps : List Nat) (x : Nat) : wlk c (stP ps) ps ≤ wlk c x ps := by
  cases ps with
  | nil => exact Nat.le_refl _
  | cons q l =>
    show far c q q + wlk c q l ≤ far c x q + wlk c q l
    rw [far_self]; omega
theorem wlk_start_lt (c : Bool) (ps : List Nat) (x : Nat) (h0 : ps ≠ []) (h : x ≠ stP ps) : wlk c (stP ps) ps < wlk c x ps := by
  cases ps with
  | nil => exact absurd rfl h0
  | cons q l =>
    show far c q q + wlk c q l < far c x q + wlk c q l
    have := far_pos c x q h
    rw [far_self]; omega
theorem wlk_nil (c : Bool) (x : Nat) : wlk c x [] = 0 := rfl

theorem iter_extP {w w' : World} {k : Nat} {q : ByteArray} {p : Nat} (h : w.heap[k]? = some (.stringIter q p)) (hx : Ext w w') : w'.heap[k]? = some (.stringIter q p) := (hx.block k (Array.getElem?_eq_some_iff.1 h).1).trans h
theorem ext_iterP {a w : World} (h : Ext a w) {k : Nat} (hk : a.heap.size ≤ k) (q : ByteArray) (p : Nat) : Ext a (w.iterAt k q p) := Lib.below_iterAt h hk q p
end Go.Proofs.YtpdnpphjlnlneaaGreatDoor
