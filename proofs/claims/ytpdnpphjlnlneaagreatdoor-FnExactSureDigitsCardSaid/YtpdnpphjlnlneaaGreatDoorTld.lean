/- What a clue tells of a hidden number: the values. No conditions. -/
import Derived.Test.YtpdnpphjlnlneaaGreatDoorClb
import Derived.Test.YtpdnpphjlnlneaaGreatDoorIsWk
import Derived.Test.YtpdnpphjlnlneaaGreatDoorSteps
namespace Go.Proofs.YtpdnpphjlnlneaaGreatDoor
open Go.RowKit

def sumT (ds : List Nat) : Nat := ds.foldl (fun v d => v + d) 0
def valT (ds : List Nat) : Nat := ds.foldl (fun v d => 10 * v + d) 0
def difN (ds : List Nat) : Nat → Nat
  | 0 => 0
  | i + 1 => difN ds i + if ds.getD i 0 ∈ ds.take i then 0 else 1
def difT (ds : List Nat) : Nat := difN ds ds.length
/-- What a clue of a kind tells of a number. -/
def tv (k a : Int) (n : ByteArray) : Int :=
  if k = 0 then (sumT (dgs n) : Nat) else if k = 1 then (dgt n a.toNat : Nat) else if k = 2 then (wlk false 4 (plcs n) : Nat) else if k = 3 then (if isWlk 0 n then 1 else 0)
  else if k = 4 then (if ((valT (dgs n) : Nat) : Int) % a = 0 then 1 else 0) else (difT (dgs n) : Nat)
theorem tv_0 (a : Int) (n : ByteArray) : tv 0 a n = (sumT (dgs n) : Nat) := rfl
theorem tv_1 (a : Int) (n : ByteArray) : tv 1 a n = (dgt n a.toNat : Nat) := rfl
theorem tv_2 (a : Int) (n : ByteArray) : tv 2 a n = (wlk false 4 (plcs n) : Nat) := rfl
theorem tv_3 (a : Int) (n : ByteArray) : tv 3 a n = (if isWlk 0 n then 1 else 0) := rfl
theorem tv_4 (a : Int) (n : ByteArray) : tv 4 a n = (if ((valT (dgs n) : Nat) : Int) % a = 0 then 1 else 0) := rfl
theorem tv_5 (a : Int) (n : ByteArray) : tv 5 a n = (difT (dgs n) : Nat) := rfl
theorem take_snocN (ds : List Nat) (k : Nat) (h : k < ds.length) : ds.take (k + 1) = ds.take k ++ [ds[k]] := by
  rw [List.take_succ_eq_append_getElem h]
theorem sumT_snoc (ds : List Nat) (d : Nat) : sumT (ds ++ [d]) = sumT ds + d := by unfold sumT; rw [List.foldl_append]; rfl
theorem valT_snoc (ds : List Nat) (d : Nat) : valT (ds ++ [d]) = 10 * valT ds + d := by unfold valT; rw [List.foldl_append]; rfl
theorem sumT_take (ds : List Nat) (k : Nat) (h : k < ds.length) : sumT (ds.take (k + 1)) = sumT (ds.take k) + ds[k] := by rw [take_snocN ds k h, sumT_snoc]
theorem valT_take (ds : List Nat) (k : Nat) (h : k < ds.length) : valT (ds.take (k + 1)) = 10 * valT (ds.take k) + ds[k] := by rw [take_snocN ds k h, valT_snoc]
theorem sumT_le (ds : List Nat) (h : ∀ d ∈ ds, d < 10) : ∀ k, k ≤ ds.length → sumT (ds.take k) ≤ 9 * k
  | 0, _ => by simp [sumT]
  | k + 1, hk => by
    have h2 := sumT_le ds h k (by omega)
    have h3 := h ds[k] (List.getElem_mem (by omega))
    rw [sumT_take ds k (by omega)]; omega
theorem valT_lt (ds : List Nat) (h : ∀ d ∈ ds, d < 10) : ∀ k, k ≤ ds.length → valT (ds.take k) < 10 ^ k
  | 0, _ => by simp [valT]
  | k + 1, hk => by
    have h2 := valT_lt ds h k (by omega)
    have h3 := h ds[k] (List.getElem_mem (by omega))
    rw [valT_take ds k (by omega), Nat.pow_succ]; omega
theorem difN_le (ds : List Nat) : ∀ k, difN ds k ≤ k
  | 0 => Nat.le_refl _
  | k + 1 => by
    have := difN_le ds k
    rw [difN]
    split <;> omega
theorem dgs_lt {n : ByteArray} (h : isWk n = true) : ∀ d ∈ dgs n, d < 10 := by
  intro d hd
  obtain ⟨j, hj, rfl⟩ := List.mem_iff_getElem.1 hd
  rw [dgs_at n j hj]
  exact (dgt_of h (by rw [dgs_len] at hj; exact hj)).1

/-- A hidden number is a text of keys. -/
theorem isg_K : ∀ c : Nat, c < 256 → isg (c : Int) = true → isK (c : Int) = true := of_decide_eq_true (by kernel_rfl)
theorem isWk_D {n : ByteArray} (h : isWk n = true) (hz : n.size ≤ 30) : isD n = true := by
  refine isD_yes n hz ?_
  unfold isWk at h
  rw [Bool.and_eq_true, Bool.and_eq_true, List.all_eq_true] at h
  rw [List.all_eq_true]
  exact fun c hc => isg_K c.toNat (UInt8.toNat_lt c) (h.2.2 c hc)

/-- A sign is in a text. -/
def hasB (s : ByteArray) (c : Int) : Bool := s.data.toList.any fun b => decide ((b.toNat : Int) = c)
theorem ext0_take (s : ByteArray) (i : Nat) (_hi : i ≤ s.size) : (s.extract 0 i).data.toList = s.data.toList.take i := by
  simp
theorem hasB_dgs {n : ByteArray} (h : isWk n = true) {i : Nat} (hi : i < n.size) : hasB (n.extract 0 i) ((n[i]'hi).toNat : Int) = decide ((dgs n).getD i 0 ∈ (dgs n).take i) := by
  have hl : i < (dgs n).length := by rw [dgs_len]; exact hi
  have e1 : (dgs n).getD i 0 = dgt n i := by
    rw [List.getD_eq_getElem?_getD, List.getElem?_eq_getElem hl, Option.getD_some, dgs_at n i hl]
  obtain ⟨b1, b2⟩ := dgt_of h hi
  rw [e1]
  unfold hasB
  rw [ext0_take n i (by omega), Bool.eq_iff_iff, decide_eq_true_eq, List.any_eq_true]
  constructor
  · rintro ⟨b, hb, hc⟩
    have hc := of_decide_eq_true hc
    unfold dgs
    rw [← List.map_take, List.mem_map]
    exact ⟨b, hb, by omega⟩
  · intro hm
    obtain ⟨j, hj, he⟩ := List.mem_iff_getElem.1 hm
    have hj2 : j < i := by rw [List.length_take] at hj; omega
    rw [List.getElem_take, dgs_at] at he
    obtain ⟨c1, c2⟩ := dgt_of h (show j < n.size by omega)
    refine ⟨n[j]'(by omega), ?_, decide_eq_true (by omega)⟩
    have hj3 : j < (n.data.toList.take i).length := by rw [List.length_take]; simp; omega
    have e : (n.data.toList.take i)[j]'hj3 = n[j]'(by omega) := by rw [List.getElem_take]; rfl
    rw [← e]
    exact List.getElem_mem hj3
end Go.Proofs.YtpdnpphjlnlneaaGreatDoor
