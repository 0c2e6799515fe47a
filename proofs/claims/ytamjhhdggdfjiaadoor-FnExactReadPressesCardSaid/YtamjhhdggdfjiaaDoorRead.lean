/- The presses of a word read back: what a text of presses tells of the word. No program here. No conditions. -/
import Derived.Test.YtamjhhdggdfjiaaDoorText
namespace Go.Proofs.YtamjhhdggdfjiaaDoor
open Go.RowKit

/-- The presses of letters after a letter of the key d (0: of none). -/
def tx (d : UInt8) : List UInt8 → List UInt8
  | [] => []
  | c :: y => (if d = dgB8 c then [32] else []) ++ prL c ++ tx (dgB8 c) y
theorem tx_cons (d c : UInt8) (y : List UInt8) : tx d (c :: y) = (if d = dgB8 c then [32] else []) ++ prL c ++ tx (dgB8 c) y := by rw [tx]
/-- The key of the last letter, d if there is none. -/
def endD (d : UInt8) (o : List UInt8) : UInt8 := (o.getLast?.map dgB8).getD d
theorem endD_nil (d : UInt8) : endD d [] = d := by simp [endD]
theorem endD_snoc (o : List UInt8) (c d : UInt8) : endD d (o ++ [c]) = dgB8 c := by simp [endD]
theorem endD_cons (d c : UInt8) (y : List UInt8) : endD d (c :: y) = endD (dgB8 c) y := by
  unfold endD
  rw [List.getLast?_cons]
  cases y.getLast? <;> simp
theorem tx_app (y : List UInt8) : ∀ (o : List UInt8) (d : UInt8), tx d (o ++ y) = tx d o ++ tx (endD d o) y
  | [], d => by rw [List.nil_append, tx, endD_nil, List.nil_append]
  | a :: o, d => by
    have ih := tx_app y o (dgB8 a)
    rw [List.cons_append, tx_cons, tx_cons, endD_cons, ih]
    simp only [List.append_assoc]
theorem tx_snoc (o : List UInt8) (c d : UInt8) : tx d (o ++ [c]) = tx d o ++ (if endD d o = dgB8 c then [32] else []) ++ prL c := by
  rw [tx_app]
  simp only [tx, List.append_nil, List.append_assoc]
theorem dgB8_bd (c : UInt8) : 50 ≤ (dgB8 c).toNat ∧ (dgB8 c).toNat ≤ 57 := by
  have h1 := dgB c
  have h2 := dg_bd c.toNat
  unfold dgB8
  omega
theorem dgB8_ne (c : UInt8) : dgB8 c ≠ 32 := by
  intro h
  have := dgB8_bd c
  rw [h] at this
  simp at this
theorem prL_cons (c : UInt8) (h : isL c.toNat = true) : prL c = dgB8 c :: List.replicate (pl c.toNat).toNat (dgB8 c) := by
  have := pl_bd c.toNat h
  unfold prL
  rw [show (pl c.toNat + 1).toNat = (pl c.toNat).toNat + 1 by omega, List.replicate_succ]
/-- What comes after a letter's presses begins with no press of its key. -/
theorem tx_head (c : UInt8) (y : List UInt8) (hy : ∀ b ∈ y, isL b.toNat = true) : ∀ x, (tx (dgB8 c) y).head? = some x → x ≠ dgB8 c := by
  intro x hx
  cases y with
  | nil => simp [tx] at hx
  | cons b y =>
    rw [tx, prL_cons b (hy b (by simp))] at hx
    by_cases e : dgB8 c = dgB8 b
    · rw [if_pos e] at hx
      simp at hx
      rw [← hx]
      exact (dgB8_ne c).symm
    · rw [if_neg e] at hx
      simp at hx
      rw [← hx]
      exact fun h => e h.symm
/-- Letters are told by their key and their place. -/
theorem letter_eq (a b : UInt8) (h1 : dgB8 a = dgB8 b) (h2 : pl a.toNat = pl b.toNat) : a = b := by
  have e := dgB a
  have e2 := dgB b
  rw [show (dg a.toNat).toNat.toUInt8 = dgB8 a from rfl, h1] at e
  rw [show (dg b.toNat).toNat.toUInt8 = dgB8 b from rfl] at e2
  have hg : grp a.toNat = grp b.toNat := by
    have : dg a.toNat = dg b.toNat := by rw [← e, ← e2]
    unfold dg at this
    omega
  unfold pl at h2
  rw [hg] at h2
  have : (a.toNat : Int) = b.toNat := by omega
  exact UInt8.toNat_inj.mp (by omega)
/-- The presses as they are built from the front and from the back. -/
theorem endD_take (s : ByteArray) (k : Nat) (h : k < s.size) : endD 0 (s.data.toList.take (k + 1)) = dgB8 s[k] := by
  rw [List.take_succ_eq_append_getElem (by simpa using h), endD_snoc]
  rfl
theorem dgB8_eq (a b : UInt8) : (dgB8 a = dgB8 b) ↔ dg a.toNat = dg b.toNat := by
  have e := dgB a
  have e2 := dgB b
  constructor
  · intro h
    rw [← e, ← e2]
    exact congrArg (fun x : UInt8 => (x.toNat : Int)) h
  · intro h
    unfold dgB8
    rw [h]
theorem zero_ne (c : UInt8) : (0 : UInt8) ≠ dgB8 c := by
  intro h
  have := dgB8_bd c
  rw [← h] at this
  simp at this
theorem tx_txTo (s : ByteArray) : ∀ k, k ≤ s.size → tx 0 (s.data.toList.take k) = txTo s k
  | 0, _ => by simp [tx, txTo]
  | k + 1, h => by
    rw [List.take_succ_eq_append_getElem (by simp; omega), tx_snoc, tx_txTo s k (by omega), txTo_succ s k (by omega)]
    congr 2
    match k, h with
    | 0, h => 
      rw [show s.data.toList.take 0 = [] from rfl]
      show (if (0 : UInt8) = _ then [32] else []) = _
      rw [if_neg (zero_ne _)]
      rfl
    | k + 1, h =>
      rw [endD_take s k (by omega)]
      unfold preL
      show _ = if waitB s k then _ else _
      rw [waitB_at (by omega)]
      show (if dgB8 s[k] = dgB8 s[k+1] then [32] else []) = _
      by_cases e : dg s[k].toNat = dg s[k+1].toNat
      · rw [if_pos ((dgB8_eq _ _).2 e), if_pos (by simpa using e)]
      · rw [if_neg (fun h => e ((dgB8_eq _ _).1 h)), if_neg (by simpa using e)]

/-! ### Runs -/
/-- e is where the run of one sign ends that begins at i. -/
def IsEnd (P : List UInt8) (i e : Nat) : Prop := i < e ∧ e ≤ P.length ∧ (∀ j, i ≤ j → j < e → P[j]? = P[i]?) ∧ P[e]? ≠ P[i]?
theorem IsEnd.eq {P R : List UInt8} {i e m : Nat} {d : UInt8} (h : IsEnd P i e) (hm : 1 ≤ m) (hd : P.drop i = List.replicate m d ++ R) (hR : R.head? ≠ some d) : e = i + m := by
  have h0 : ∀ j, P[i + j]? = (List.replicate m d ++ R)[j]? := fun j => by rw [← hd, List.getElem?_drop]
  have hlt : ∀ j, j < m → P[i + j]? = some d := fun j hj => by
    rw [h0 j, List.getElem?_append_left (by simpa using hj)]
    simp [hj]
  have hi : P[i]? = some d := hlt 0 hm
  have hend : P[i + m]? ≠ some d := by
    rw [h0 m, List.getElem?_append_right (by simp)]
    simp only [List.length_replicate, Nat.sub_self]
    rw [← List.head?_eq_getElem?]
    exact hR
  obtain ⟨h1, h2, h3, h4⟩ := h
  rcases Nat.lt_trichotomy e (i + m) with h5 | h5 | h5
  · exfalso
    apply h4
    rw [hi, show e = i + (e - i) by omega]
    exact hlt _ (by omega)
  · exact h5
  · exfalso
    apply hend
    rw [h3 (i + m) (by omega) h5, hi]
theorem IsEnd.take {P : List UInt8} {i e : Nat} (h : IsEnd P i e) (c : UInt8) (hc : P[i]? = some c) : P.take e = P.take i ++ List.replicate (e - i) c := by
  obtain ⟨h1, h2, h3, h4⟩ := h
  apply List.ext_getElem?
  intro j
  by_cases hj : j < e
  · rw [List.getElem?_take_of_lt hj]
    by_cases hji : j < i
    · rw [List.getElem?_append_left (by rw [List.length_take]; omega), List.getElem?_take_of_lt hji]
    · rw [List.getElem?_append_right (by rw [List.length_take]; omega), h3 j (by omega) hj, hc, List.length_take, List.getElem?_replicate, if_pos (by omega)]
  · rw [List.getElem?_eq_none (by rw [List.length_take]; omega), List.getElem?_eq_none (by rw [List.length_append, List.length_take, List.length_replicate]; omega)]

/-! ### Letters of keys -/
theorem lt8_letter (c : UInt8) (m : Nat) (h1 : 1 ≤ m) (h2 : m ≤ (lt8 (c.toNat : Int)).size) : isL ((lt8 (c.toNat : Int))[m - 1]'(by omega)).toNat = true ∧ dgB8 ((lt8 (c.toNat : Int))[m - 1]'(by omega)) = c ∧ pl ((lt8 (c.toNat : Int))[m - 1]'(by omega)).toNat = (m : Int) - 1 := by
  have hr : 50 ≤ (c.toNat : Int) ∧ (c.toNat : Int) ≤ 57 := by
    by_cases h : 50 ≤ (c.toNat : Int) ∧ (c.toNat : Int) ≤ 57
    · exact h
    · exfalso
      unfold lt8 at h2
      rw [if_neg h, show (⟨#[]⟩ : ByteArray).size = 0 from rfl] at h2
      omega
  obtain ⟨k, hk⟩ : ∃ k : Nat, (c.toNat : Int) = 50 + k := ⟨c.toNat - 50, by omega⟩
  have hk8 : k < 8 := by omega
  have hl : lt8 (c.toNat : Int) = lt k := by rw [hk]; exact lt8_at k hk8
  have hm : m ≤ (lt k).size := by rw [← hl]; exact h2
  have e1 : (lt8 (c.toNat : Int))[m - 1]'(by omega) = (lt k)[m - 1]'(by omega) := by simp only [hl]
  rw [e1]
  have hg := lt_get k hk8 (m - 1) (by omega)
  have hsz := lt_size k hk8
  have b1 := lo_bd k (by omega)
  have b2 := lo_bd (k + 1) (by omega)
  have hgrp : grp (((lt k)[m - 1]'(by omega)).toNat : Int) = k := grp_of _ k hk8 (by omega) (by omega)
  refine ⟨?_, ?_, ?_⟩
  · unfold isL
    simp only [Bool.and_eq_true, decide_eq_true_eq]
    omega
  · apply UInt8.toNat_inj.mp
    have := dgB ((lt k)[m - 1]'(by omega))
    rw [show (dg (((lt k)[m - 1]'(by omega)).toNat : Int)).toNat.toUInt8 = dgB8 ((lt k)[m - 1]'(by omega)) from rfl] at this
    unfold dg at this
    rw [hgrp] at this
    omega
  · unfold pl
    rw [hgrp]
    omega

/-! ### One step of reading -/
/-- Where the reading stands: the letters so far, whether a wait was read behind them. -/
structure At (P : List UInt8) (i : Nat) (o : List UInt8) (fl : Bool) : Prop where
  le : i ≤ P.length
  ls : ∀ b ∈ o, isL b.toNat = true
  tk : P.take i = tx 0 o ++ (if fl then [32] else [])
  yes : fl = true → P[i]? = some (endD 0 o)
  no : fl = false → o = [] ∨ (P[i]? ≠ some (endD 0 o) ∧ P[i]? ≠ some 32)
  all : ∀ x : List UInt8, (∀ b ∈ x, isL b.toNat = true) → tx 0 x = P → ∃ y, x = o ++ y

theorem At.nil (P : List UInt8) : At P 0 [] false := ⟨Nat.zero_le _, by simp, by simp [tx], by simp, fun _ => .inl rfl, fun x _ _ => ⟨x, rfl⟩⟩

/-- A word with these presses goes on with a letter whose presses come next. -/
theorem At.next {P : List UInt8} {i : Nat} {o : List UInt8} {fl : Bool} (h : At P i o fl) (hi : i < P.length) (x : List UInt8) (hx : ∀ b ∈ x, isL b.toNat = true) (hp : tx 0 x = P) : ∃ c y, x = o ++ c :: y ∧ P.drop i = prL c ++ tx (dgB8 c) y ∧ isL c.toNat = true ∧ ∀ b ∈ y, isL b.toNat = true := by
  obtain ⟨y, rfl⟩ := h.all x hx hp
  have e : tx (endD 0 o) y = (if fl then [32] else []) ++ P.drop i := by
    have h1 : tx 0 o ++ tx (endD 0 o) y = tx 0 o ++ ((if fl then [32] else []) ++ P.drop i) := by
      rw [← tx_app, hp, ← List.append_assoc, ← h.tk, List.take_append_drop]
    exact List.append_cancel_left h1
  have hne : P.drop i ≠ [] := by
    intro h0
    have := congrArg List.length h0
    rw [List.length_drop] at this
    simp at this
    omega
  have hdi : (P.drop i).head? = P[i]? := by rw [List.head?_drop]
  cases y with
  | nil =>
    rw [tx] at e
    have := congrArg List.length e
    simp at this
    omega
  | cons c y =>
    have hc : isL c.toNat = true := hx c (by simp)
    refine ⟨c, y, rfl, ?_, hc, fun b hb => hx b (by simp [hb])⟩
    rw [tx_cons, List.append_assoc] at e
    by_cases hd : endD 0 o = dgB8 c
    · rw [if_pos hd] at e
      cases fl with
      | true => simpa using e.symm
      | false =>
        exfalso
        rcases h.no rfl with h0 | ⟨_, h0⟩
        · rw [h0, endD_nil] at hd
          exact zero_ne _ hd
        · apply h0
          rw [← hdi]
          rw [if_neg (by simp)] at e
          rw [List.nil_append] at e
          rw [← e]
          rfl
    · rw [if_neg hd] at e
      cases fl with
      | false => simpa using e.symm
      | true =>
        exfalso
        rw [prL_cons c hc] at e
        simp at e
        exact dgB8_ne c e.1

/-- A run that comes next is that of the next letter. -/
theorem At.run {P : List UInt8} {i e : Nat} {o : List UInt8} {fl : Bool} (h : At P i o fl) {c : UInt8} (hc : P[i]? = some c) (he : IsEnd P i e) (x : List UInt8) (hx : ∀ b ∈ x, isL b.toNat = true) (hp : tx 0 x = P) : ∃ c' y, x = o ++ c' :: y ∧ P.drop e = tx (dgB8 c') y ∧ isL c'.toNat = true ∧ (∀ b ∈ y, isL b.toNat = true) ∧ dgB8 c' = c ∧ (e : Int) = i + (pl c'.toNat + 1) := by
  have hi : i < P.length := by have := he.1; have := he.2.1; omega
  obtain ⟨c', y, e1, e2, hl, hy⟩ := h.next hi x hx hp
  have hb := pl_bd c'.toNat hl
  have hd : dgB8 c' = c := by
    rw [prL_cons c' hl] at e2
    have h1 : (P.drop i).head? = some (dgB8 c') := by rw [e2]; rfl
    rw [List.head?_drop, hc] at h1
    exact (Option.some.inj h1).symm
  have hm : e = i + (pl c'.toNat + 1).toNat := he.eq (by omega) e2 (fun h0 => tx_head c' y hy _ h0 rfl)
  refine ⟨c', y, e1, ?_, hl, hy, hd, by omega⟩
  have h2 : P.drop e = (P.drop i).drop (pl c'.toNat + 1).toNat := by rw [List.drop_drop, hm]
  rw [h2, e2]
  unfold prL
  rw [List.drop_left' (by rw [List.length_replicate])]

theorem At.short {P : List UInt8} {i e : Nat} {o : List UInt8} {fl : Bool} (h : At P i o fl) {c : UInt8} (hc : P[i]? = some c) (he : IsEnd P i e) (hs : (lt8 (c.toNat : Int)).size < e - i) (x : List UInt8) (hx : ∀ b ∈ x, isL b.toNat = true) : tx 0 x ≠ P := by
  intro hp
  obtain ⟨c', y, _, _, hl, _, hd, hm⟩ := h.run hc he x hx hp
  have hb := pl_bd c'.toNat hl
  have h1 : lt8 (c.toNat : Int) = lt (grp c'.toNat) := by
    rw [← hd, show ((dgB8 c').toNat : Int) = dg c'.toNat from dgB c', lt8_dg]
  rw [h1] at hs
  omega

/-- Where the reading stands behind a letter of the key c. -/
structure Mid (P : List UInt8) (e : Nat) (o : List UInt8) (c : UInt8) : Prop where
  le : e ≤ P.length
  ls : ∀ b ∈ o, isL b.toNat = true
  tk : P.take e = tx 0 o
  nd : endD 0 o = c
  ne : P[e]? ≠ some c
  all : ∀ x : List UInt8, (∀ b ∈ x, isL b.toNat = true) → tx 0 x = P → ∃ y, x = o ++ y ∧ P.drop e = tx c y ∧ ∀ b ∈ y, isL b.toNat = true

theorem At.mid {P : List UInt8} {i e : Nat} {o : List UInt8} {fl : Bool} (h : At P i o fl) {c : UInt8} (hc : P[i]? = some c) (he : IsEnd P i e) (hs : e - i ≤ (lt8 (c.toNat : Int)).size) : Mid P e (o ++ [(lt8 (c.toNat : Int))[e - i - 1]'(by have := he.1; omega)]) c := by
  have hlt := he.1
  obtain ⟨l1, l2, l3⟩ := lt8_letter c (e - i) (by omega) hs
  refine ⟨he.2.1, ?_, ?_, by rw [endD_snoc, l2], by rw [← hc]; exact he.2.2.2, ?_⟩
  · intro b hb
    rcases List.mem_append.1 hb with hb | hb
    · exact h.ls b hb
    · rw [List.mem_singleton.1 hb]; exact l1
  · rw [he.take c hc, h.tk, tx_snoc, l2]
    have hpr : prL ((lt8 (c.toNat : Int))[e - i - 1]'(by omega)) = List.replicate (e - i) c := by
      unfold prL
      rw [l2, l3, show (((e - i : Nat) : Int) - 1 + 1).toNat = e - i by omega]
    have hw : (if fl then [32] else []) = (if endD 0 o = c then [32] else ([] : List UInt8)) := by
      cases fl with
      | true =>
        have := h.yes rfl
        rw [hc] at this
        rw [if_pos (Option.some.inj this).symm, if_pos rfl]
      | false =>
        have hne : ¬ endD 0 o = c := by
          rcases h.no rfl with h0 | ⟨h0, _⟩
          · rw [h0, endD_nil, ← l2]
            exact zero_ne _
          · intro h1
            apply h0
            rw [hc, h1]
        rw [if_neg hne, if_neg (by decide)]
    rw [hpr, hw]
  · intro x hx hp
    obtain ⟨c', y, e1, e2, hl, hy, hd, hm⟩ := h.run hc he x hx hp
    have hcc : c' = (lt8 (c.toNat : Int))[e - i - 1]'(by omega) := letter_eq _ _ (by rw [hd, l2]) (by rw [l3]; omega)
    refine ⟨y, by rw [e1, ← hcc]; simp, by rw [e2, hd], hy⟩

theorem Mid.wait {P : List UInt8} {e : Nat} {o : List UInt8} {c : UInt8} (h : Mid P e o c) (h32 : P[e]? = some 32) (x : List UInt8) (hx : ∀ b ∈ x, isL b.toNat = true) (hp : tx 0 x = P) : P[e + 1]? = some c ∧ ∃ y, x = o ++ y := by
  obtain ⟨y, e1, e2, hy⟩ := h.all x hx hp
  have h1 : ∀ j, P[e + j]? = (tx c y)[j]? := fun j => by rw [← e2, List.getElem?_drop]
  refine ⟨?_, y, e1⟩
  cases y with
  | nil =>
    have := h1 0
    rw [Nat.add_zero, h32, tx] at this
    simp at this
  | cons b y =>
    have hb := hy b (by simp)
    rw [tx_cons, prL_cons b hb] at h1
    by_cases hd : c = dgB8 b
    · rw [if_pos hd] at h1
      have := h1 1
      rw [this]
      simp [hd]
    · rw [if_neg hd] at h1
      have := h1 0
      rw [Nat.add_zero, h32] at this
      simp at this
      exact absurd this.symm (dgB8_ne b)

theorem Mid.failed {P : List UInt8} {e : Nat} {o : List UInt8} {c : UInt8} (h : Mid P e o c) (h32 : P[e]? = some 32) (hn : P[e + 1]? ≠ some c) (x : List UInt8) (hx : ∀ b ∈ x, isL b.toNat = true) : tx 0 x ≠ P := fun hp => hn (h.wait h32 x hx hp).1

theorem Mid.waited {P : List UInt8} {e : Nat} {o : List UInt8} {c : UInt8} (h : Mid P e o c) (h32 : P[e]? = some 32) (hn : P[e + 1]? = some c) : At P (e + 1) o true := by
  have hlt : e + 1 < P.length := by
    rcases Nat.lt_or_ge (e + 1) P.length with k | k
    · exact k
    · rw [List.getElem?_eq_none k] at hn; cases hn
  refine ⟨by omega, h.ls, ?_, fun _ => by rw [hn, h.nd], by simp, fun x hx hp => ?_⟩
  · rw [List.take_add_one, h32, h.tk]; rfl
  · obtain ⟨y, e1, _⟩ := h.all x hx hp
    exact ⟨y, e1⟩

theorem Mid.plain {P : List UInt8} {e : Nat} {o : List UInt8} {c : UInt8} (h : Mid P e o c) (h32 : P[e]? ≠ some 32) : At P e o false := by
  refine ⟨h.le, h.ls, by rw [h.tk]; simp, by simp, fun _ => .inr ⟨by rw [h.nd]; exact h.ne, h32⟩, fun x hx hp => ?_⟩
  obtain ⟨y, e1, _⟩ := h.all x hx hp
  exact ⟨y, e1⟩

theorem At.done {P : List UInt8} {i : Nat} {o : List UInt8} {fl : Bool} (h : At P i o fl) (hi : P.length ≤ i) : tx 0 o = P ∧ ∀ x : List UInt8, (∀ b ∈ x, isL b.toNat = true) → tx 0 x = P → x = o := by
  have hn : P[i]? = none := List.getElem?_eq_none hi
  cases fl with
  | true => have := h.yes rfl; rw [hn] at this; cases this
  | false =>
    have h1 := h.tk
    rw [List.take_of_length_le hi] at h1
    have h2 : tx 0 o = P := by rw [h1]; simp
    refine ⟨h2, fun x hx hp => ?_⟩
    obtain ⟨y, rfl⟩ := h.all x hx hp
    rw [tx_app] at hp
    have h3 : tx (endD 0 o) y = [] := by
      have := congrArg List.length hp
      rw [List.length_append, h2] at this
      exact List.length_eq_zero_iff.1 (by omega)
    cases y with
    | nil => simp
    | cons c y =>
      rw [tx_cons, prL_cons c (hx c (by simp))] at h3
      simp at h3

end Go.Proofs.YtamjhhdggdfjiaaDoor
