/- For every two numbers the program's LongestPressed answers as its model does, the pad's table being as the program lays it. -/
import Derived.Test.YtfekamknnmhgpabDoorCards
import Derived.Test.YtfekamknnmhgpabDoorTie
import Derived.Test.YtfekamknnmhgpabDoorTab
import Derived.Test.YtfekamknnmhgpabDoorSigns
namespace Go.Proofs.YtfekamknnmhgpabDoor.longestPressed
open Go.ChangeShapes Go.WideShapes Go.ChangeAt Go.RowKit
open Go.ChangeMaps (open_string shut_string)

theorem ret_sb {a a' : ByteArray} {b b' : Bool} (h : a = a') (h2 : b = b') : Ending.returned (.tuple #[.string a, .bool b]) = .returned (.tuple #[.string a', .bool b']) := by rw [h, h2]
theorem inB_yes {n lo hi : Int} (h1 : lo ≤ n) (h2 : n ≤ hi) : inB n lo hi = true := by simp [inB, h1, h2]
theorem inB_lo {n lo hi : Int} (h1 : n < lo) : inB n lo hi = false := by simp [inB]; omega
theorem inB_hi {n lo hi : Int} (h1 : hi < n) : inB n lo hi = false := by simp [inB]; omega
theorem inB_bd {n lo hi : Int} (h : inB n lo hi = true) : lo ≤ n ∧ n ≤ hi := by simp [inB] at h; exact h

/-- The first letter behind which n others can have what is left of p presses. -/
def fl (p n : Int) : Int := if p ≤ 4 * n + 1 then 97 else if p = 4 * n + 2 then 98 else if p = 4 * n + 3 then 99 else 115
theorem fl_cases {p n : Int} (_h0 : 0 ≤ n) (_h1 : n + 1 ≤ p) (h2 : p ≤ 4 * n + 4) : (fl p n = 97 ∧ p ≤ 4 * n + 1) ∨ (fl p n = 98 ∧ p = 4 * n + 2) ∨ (fl p n = 99 ∧ p = 4 * n + 3) ∨ (fl p n = 115 ∧ p = 4 * n + 4) := by
  unfold fl
  by_cases a : p ≤ 4 * n + 1
  · exact .inl ⟨if_pos a, a⟩
  rw [if_neg a]
  by_cases b : p = 4 * n + 2
  · exact .inr (.inl ⟨if_pos b, b⟩)
  rw [if_neg b]
  by_cases c : p = 4 * n + 3
  · exact .inr (.inr (.inl ⟨if_pos c, c⟩))
  rw [if_neg c]
  exact .inr (.inr (.inr ⟨rfl, by omega⟩))
theorem pl_97 : pl 97 = 0 ∧ pl 98 = 1 ∧ pl 99 = 2 ∧ pl 115 = 3 := by decide
theorem pl_small {c : Int} (h1 : 97 ≤ c) (h2 : c < 115) : 0 ≤ pl c ∧ pl c ≤ 2 := by
  obtain ⟨a0, a1, a2, a3, a4, a5, a6, a7, a8⟩ := lo_vals
  have hg := grp_in c h1 (by omega)
  unfold pl
  have h8 := grp_lt c
  generalize grp c = g at *
  obtain rfl | rfl | rfl | rfl | rfl | rfl | rfl | rfl : g = 0 ∨ g = 1 ∨ g = 2 ∨ g = 3 ∨ g = 4 ∨ g = 5 ∨ g = 6 ∨ g = 7 := by omega
  all_goals (simp only [Nat.reduceAdd] at hg; omega)
theorem fl_bd {p n : Int} (h0 : 0 ≤ n) (h1 : n + 1 ≤ p) (h2 : p ≤ 4 * n + 4) : 97 ≤ fl p n ∧ fl p n ≤ 115 := by
  rcases fl_cases h0 h1 h2 with h | h | h | h <;> omega
theorem fl_isL {p n : Int} (h0 : 0 ≤ n) (h1 : n + 1 ≤ p) (h2 : p ≤ 4 * n + 4) : isL (fl p n) = true := by
  have := fl_bd h0 h1 h2
  simp [isL]; omega
theorem fl_fits {p n : Int} (h0 : 0 ≤ n) (h1 : n + 1 ≤ p) (h2 : p ≤ 4 * n + 4) : n ≤ p - (pl (fl p n) + 1) ∧ p - (pl (fl p n) + 1) ≤ 4 * n := by
  obtain ⟨a, b, c, d⟩ := pl_97
  rcases fl_cases h0 h1 h2 with ⟨e, h⟩ | ⟨e, h⟩ | ⟨e, h⟩ | ⟨e, h⟩
  all_goals (rw [e]; omega)
theorem fl_first {p n c : Int} (h0 : 0 ≤ n) (h1 : n + 1 ≤ p) (h2 : p ≤ 4 * n + 4) (hc : 97 ≤ c) (hf : c < fl p n) : 4 * n < p - (pl c + 1) := by
  obtain ⟨a, b, d, _⟩ := pl_97
  rcases fl_cases h0 h1 h2 with ⟨e, h⟩ | ⟨e, h⟩ | ⟨e, h⟩ | ⟨e, h⟩
  · omega
  · obtain rfl : c = 97 := by omega
    omega
  · obtain rfl | rfl : c = 97 ∨ c = 98 := by omega
    all_goals omega
  · have := pl_small hc (by omega)
    omega

/-- What is left of p presses behind the first k of N letters. -/
def leftTo (p N : Int) : Nat → Int
  | 0 => p
  | k + 1 => leftTo p N k - (pl (fl (leftTo p N k) (N - k - 1)) + 1)
def chr (p N : Int) (k : Nat) : Int := fl (leftTo p N k) (N - k - 1)
theorem left_succ (p N : Int) (k : Nat) : leftTo p N (k + 1) = leftTo p N k - (pl (chr p N k) + 1) := rfl
theorem left_bd {p N : Int} (h1 : N ≤ p) (h2 : p ≤ 4 * N) : ∀ k : Nat, (k : Int) ≤ N → N - k ≤ leftTo p N k ∧ leftTo p N k ≤ 4 * (N - k)
  | 0, _ => by simp only [leftTo]; omega
  | k + 1, h => by
    have ih := left_bd h1 h2 k (by omega)
    have hf := fl_fits (p := leftTo p N k) (n := N - k - 1) (by omega) (by omega) (by omega)
    simp only [leftTo]
    omega
def lpL (p N : Int) : Nat → List UInt8
  | 0 => []
  | k + 1 => lpL p N k ++ [(chr p N k).toNat.toUInt8]
theorem lpL_len (p N : Int) : ∀ k, (lpL p N k).length = k
  | 0 => rfl
  | k + 1 => by simp [lpL, lpL_len p N k]
theorem lpL_get (p N : Int) : ∀ (n j : Nat) (_h : j < n) (h' : j < (lpL p N n).length), (lpL p N n)[j] = (chr p N j).toNat.toUInt8
  | n + 1, j, h, h' => by
    have hl := lpL_len p N n
    simp only [lpL]
    by_cases e : j < n
    · rw [List.getElem_append_left (by omega)]
      exact lpL_get p N n j e _
    · obtain rfl : j = n := by omega
      rw [List.getElem_append_right (by omega)]
      simp [hl]
def lpB (p N : Int) (k : Nat) : ByteArray := ⟨(lpL p N k).toArray⟩
theorem lpB_size (p N : Int) (k : Nat) : (lpB p N k).size = k := by show (lpL p N k).toArray.size = k; simp [lpL_len]
theorem lpB_succ (p N : Int) (k : Nat) : lpB p N k ++ ⟨#[(chr p N k).toNat.toUInt8]⟩ = lpB p N (k + 1) := by
  apply ByteArray.ext
  rw [ByteArray.data_append]
  simp [lpB, lpL]
theorem encA (c : Int) (h1 : 97 ≤ c) (h2 : c ≤ 115) : Utf8.encode c = ⟨#[c.toNat.toUInt8]⟩ := by
  obtain rfl | rfl | rfl | rfl | rfl | rfl | rfl | rfl | rfl | rfl | rfl | rfl | rfl | rfl | rfl | rfl | rfl | rfl | rfl : c = 97 ∨ c = 98 ∨ c = 99 ∨ c = 100 ∨ c = 101 ∨ c = 102 ∨ c = 103 ∨ c = 104 ∨ c = 105 ∨ c = 106 ∨ c = 107 ∨ c = 108 ∨ c = 109 ∨ c = 110 ∨ c = 111 ∨ c = 112 ∨ c = 113 ∨ c = 114 ∨ c = 115 := by omega
  all_goals rfl
theorem byteA (c : Int) (h1 : 97 ≤ c) (h2 : c ≤ 115) : ((c.toNat.toUInt8).toNat : Int) = c := by
  obtain ⟨n, rfl⟩ := Int.eq_ofNat_of_zero_le (show 0 ≤ c by omega)
  simp
  omega

def okP (p N : Int) : Bool := inB N 1 40 && inB p N (4 * N)
def lpV (p N : Int) : ByteArray := if okP p N then lpB p N N.toNat else ⟨#[]⟩
theorem okP_N {p N : Int} (h : inB N 1 40 = false) : okP p N = false := by unfold okP; simp [h]
theorem okP_p {p N : Int} (h : inB p N (4 * N) = false) : okP p N = false := by unfold okP; simp [h]
theorem okP_yes {p N : Int} (h : inB N 1 40 = true) (h2 : inB p N (4 * N) = true) : okP p N = true := by unfold okP; simp [h, h2]
theorem lpV_no {p N : Int} (h : okP p N = false) : lpV p N = ⟨#[]⟩ := by unfold lpV; simp [h]
theorem lpV_yes {p N : Int} (h : okP p N = true) : lpV p N = lpB p N N.toNat := by unfold lpV; simp [h]

set_option maxRecDepth 100000 in
set_option maxHeartbeats 1000000 in
theorem spec_any (p N : Int) (w : World) : Calls Tryd.prog 10 #[.int .i64 p, .int .i64 N] w fun e w' => e = .returned (.tuple #[.string (lpV p N), .bool (okP p N)]) ∧ w = w' := by
  cases h1 : inB N 1 40
  · have H := Lib.hid (okP_N (p := p) h1)
    go_enter Tryd.func10, Tryd.ntmps10
    go_wp2_with (go_at_call 21; refine (in_any _ _ _ _).mono ?_; rintro e w' ⟨rfl, rfl⟩)
    go_ret2
    exact ⟨ret_sb (lpV_no H.out).symm H.out.symm, rfl⟩
  obtain ⟨hN1, hN2⟩ := inB_bd h1
  cases h2 : inB p N (4 * N)
  · have H := Lib.hid (okP_p h2)
    go_enter Tryd.func10, Tryd.ntmps10
    go_wp2_with (go_at_call 21; refine (in_any _ _ _ _).mono ?_; rintro e w' ⟨rfl, rfl⟩)
    go_ret2
    exact ⟨ret_sb (lpV_no H.out).symm H.out.symm, rfl⟩
  obtain ⟨hp1, hp2⟩ := inB_bd h2
  have H := Lib.hid (okP_yes h1 h2)
  go_enter Tryd.func10, Tryd.ntmps10
  go_wp2_with (go_at_call 21; refine (in_any _ _ _ _).mono ?_; rintro e w' ⟨rfl, rfl⟩)
  clear h1 h2
  go_loop [0, 1, 6] (fun q n o => ∃ k : Nat, (k : Int) ≤ N ∧ n = .int .i64 (N - k) ∧ q = .int .i64 (leftTo p N k) ∧ o = .string (lpB p N k)) (fun _ n _ => (intOf n).toNat)
  case atStart => exact ⟨0, by omega, by simp, rfl, rfl⟩
  case round =>
    obtain ⟨k, hk, rfl, rfl, rfl⟩ := hrel
    obtain ⟨hl1, hl2⟩ := left_bd hp1 hp2 k hk
    have hz := lpB_size p N k
    have hB : (lpB p N k).size ≤ 40 := by omega
    clear hz
    by_cases hlt : (k : Int) < N
    · obtain ⟨hf1, hf2⟩ := fl_bd (p := leftTo p N k) (n := N - k - 1) (by omega) (by omega) (by omega)
      have HF := Lib.hid (fl_fits (p := leftTo p N k) (n := N - k - 1) (by omega) (by omega) (by omega))
      have HFF := Lib.hid (fun c => fl_first (p := leftTo p N k) (n := N - k - 1) (c := c) (by omega) (by omega) (by omega))
      have HS := Lib.hid (lpB_succ p N k)
      have HLS := Lib.hid (left_succ p N k)
      have hch : 97 ≤ chr p N k ∧ chr p N k ≤ 115 := ⟨hf1, hf2⟩
      have HE := Lib.hid (encA (chr p N k) hch.1 hch.2)
      clear hf1 hf2
      obtain ⟨hc1, hc2⟩ := hch
      go_wp2
      go_loop [0, 6, 7] (fun q o c => ∃ x : Int, 97 ≤ x ∧ x ≤ chr p N k ∧ c = .int .u8 x ∧ q = .int .i64 (leftTo p N k) ∧ o = .string (lpB p N k)) (fun _ _ c => (200 - intOf c).toNat)
      case atStart => exact ⟨97, by omega, by omega, rfl, rfl, rfl⟩
      case round =>
        obtain ⟨x, hx1, hx2, rfl, rfl, rfl⟩ := hrel
        have HL := Lib.hid (show isL x = true by simp [isL]; omega)
        obtain ⟨hq1, hq2, _⟩ := pl_bd x HL.out
        by_cases e : x = chr p N k
        · have hin : inB (leftTo p N k - (pl x + 1)) (N - k - 1) (4 * (N - k - 1)) = true := by rw [e]; exact inB_yes HF.out.1 HF.out.2
          have he : Utf8.encode x = ⟨#[x.toNat.toUInt8]⟩ := by rw [e]; exact HE.out
          have HX := Lib.hid e
          clear e
          go_wp2_with (first | (go_at_call 22; refine (prKey_any _ _ HL.out).mono ?_; rintro e w' ⟨rfl, rfl⟩) | (go_at_call 21; refine (in_any _ _ _ _).mono ?_; rintro e w' ⟨rfl, rfl⟩))
          go_round
          case rel => exact ⟨k + 1, by omega, by go_num, by rw [HLS.out, HX.out], by rw [← HS.out, HX.out]⟩
          case measure => simp [intOf]; omega
        · have hin : inB (leftTo p N k - (pl x + 1)) (N - k - 1) (4 * (N - k - 1)) = false := inB_hi (HFF.out x hx1 (by show x < chr p N k; omega))
          go_wp2_with (first | (go_at_call 22; refine (prKey_any _ _ HL.out).mono ?_; rintro e w' ⟨rfl, rfl⟩) | (go_at_call 21; refine (in_any _ _ _ _).mono ?_; rintro e w' ⟨rfl, rfl⟩))
          go_round
          case rel => exact ⟨x + 1, by omega, by omega, by go_num, rfl, rfl⟩
          case measure => simp [intOf]; omega
    · have hkN : k = N.toNat := by omega
      have HK := Lib.hid hkN
      clear hkN
      go_wp2
      go_ret2
      exact ⟨ret_sb (by rw [lpV_yes H.out, HK.out]) H.out.symm, rfl⟩

theorem can_any (p n : Int) (w : World) (h0 : 0 ≤ n) (h1 : n ≤ 40) : Calls Tryd.prog 23 #[.int .i64 p, .int .i64 n] w fun e w' => e = .returned (.bool (inB p n (4 * n))) ∧ w = w' := by
  by_cases a : n ≤ p
  · by_cases b : p ≤ 4 * n
    · have H := Lib.hid (inB_yes a b)
      go_enter Tryd.func23, Tryd.ntmps23
      go_wp2
      go_ret
      exact ⟨ret_bool H.out.symm, rfl⟩
    · have H := Lib.hid (inB_hi (n := p) (lo := n) (hi := 4 * n) (by omega))
      go_enter Tryd.func23, Tryd.ntmps23
      go_wp2
      go_ret
      exact ⟨ret_bool H.out.symm, rfl⟩
  · have H := Lib.hid (inB_lo (n := p) (lo := n) (hi := 4 * n) (by omega))
    go_enter Tryd.func23, Tryd.ntmps23
    go_wp2
    go_ret
    exact ⟨ret_bool H.out.symm, rfl⟩

set_option maxRecDepth 100000 in
set_option maxHeartbeats 1000000 in
theorem first_letter (p n : Int) (w : World) (hp : PadIs w) (h0 : 0 ≤ n) (hn : n ≤ 39) (h1 : n + 1 ≤ p) (h2 : p ≤ 4 * n + 4) : Calls Tryd.prog 24 #[.int .i64 p, .int .i64 n] w fun e w' => e = .returned (.int .u8 (fl p n)) ∧ Ext w w' := by
  obtain ⟨hf1, hf2⟩ := fl_bd h0 h1 h2
  have HF := Lib.hid (fl_fits h0 h1 h2)
  have HFF := Lib.hid (fun c => fl_first (p := p) (n := n) (c := c) h0 h1 h2)
  go_enter Tryd.func24, Tryd.ntmps24
  go_wp2
  go_loopw [5] (fun c wr => ∃ x : Int, 97 ≤ x ∧ x ≤ fl p n ∧ c = .int .u8 x ∧ Ext w wr) (fun c _ => (200 - intOf c).toNat)
  case atStart => exact ⟨97, by omega, by omega, rfl, Ext.refl _⟩
  case round =>
    obtain ⟨x, hx1, hx2, rfl, hx⟩ := hrel
    have HL := Lib.hid (show isL x = true by simp [isL]; omega)
    obtain ⟨hq1, hq2, _⟩ := pl_bd x HL.out
    have hlt : decide (x < 122) = true := decide_eq_true (by omega)
    by_cases e : x = fl p n
    · have hin : inB (p - (pl x + 1)) n (4 * n) = true := by rw [e]; exact inB_yes HF.out.1 HF.out.2
      have HX := Lib.hid e
      clear e
      go_wp2_with (first | (go_at_call 25; refine (padOf_any _ _ (hp.ext hx) HL.out).mono ?_; rintro e w1 ⟨rfl, x1⟩) | (go_at_call 26; refine (presses_any _ _ HL.out).mono ?_; rintro e w2 ⟨rfl, x2⟩) | (go_at_call 23; refine (can_any _ _ _ h0 (by omega)).mono ?_; rintro e w' ⟨rfl, rfl⟩))
      go_ret
      exact ⟨ret_int HX.out, (hx.trans x1).trans x2⟩
    · have hin : inB (p - (pl x + 1)) n (4 * n) = false := inB_hi (HFF.out x hx1 (by omega))
      go_wp2_with (first | (go_at_call 25; refine (padOf_any _ _ (hp.ext hx) HL.out).mono ?_; rintro e w1 ⟨rfl, x1⟩) | (go_at_call 26; refine (presses_any _ _ HL.out).mono ?_; rintro e w2 ⟨rfl, x2⟩) | (go_at_call 23; refine (can_any _ _ _ h0 (by omega)).mono ?_; rintro e w' ⟨rfl, rfl⟩))
      go_roundw
      case rel => exact ⟨x + 1, by omega, by omega, by go_num, (hx.trans x1).trans x2⟩
      case measure => simp [intOf]; omega

set_option maxRecDepth 100000 in
set_option maxHeartbeats 1000000 in
theorem impl_any (p N : Int) (w : World) (hp : PadIs w) : Calls Tryd.prog 11 #[.int .i64 p, .int .i64 N] w fun e w' => e = .returned (.tuple #[.string (lpV p N), .bool (okP p N)]) ∧ Ext w w' := by
  by_cases n1 : N < 1
  · have H := Lib.hid (okP_N (p := p) (inB_lo (hi := 40) n1))
    go_enter Tryd.func11, Tryd.ntmps11
    go_wp2
    go_ret2
    exact ⟨ret_sb (lpV_no H.out).symm H.out.symm, Ext.refl _⟩
  by_cases n2 : 40 < N
  · have H := Lib.hid (okP_N (p := p) (inB_hi (lo := 1) n2))
    go_enter Tryd.func11, Tryd.ntmps11
    go_wp2
    go_ret2
    exact ⟨ret_sb (lpV_no H.out).symm H.out.symm, Ext.refl _⟩
  cases h2 : inB p N (4 * N)
  · have H := Lib.hid (okP_p h2)
    go_enter Tryd.func11, Tryd.ntmps11
    go_wp2_with (go_at_call 23; refine (can_any _ _ _ (by omega) (by omega)).mono ?_; rintro e w' ⟨rfl, rfl⟩)
    go_ret2
    exact ⟨ret_sb (lpV_no H.out).symm H.out.symm, Ext.refl _⟩
  obtain ⟨hp1, hp2⟩ := inB_bd h2
  have H := Lib.hid (okP_yes (inB_yes (by omega) (by omega)) h2)
  obtain ⟨m, rfl⟩ := Int.eq_ofNat_of_zero_le (show 0 ≤ N by omega)
  obtain ⟨i0, hi, hz0, hzs, hzb⟩ := info_parts info_u8
  have HI := Lib.hid (show Tryd.prog.info? 5 = some i0 ∧ i0.zero = some (.int .u8 0) ∧ i0.size = 1 ∧ i0.bytes = 1 from ⟨hi, hz0, hzs, hzb⟩)
  clear hi hz0 hzs hzb
  go_enter Tryd.func11, Tryd.ntmps11
  go_wp2_with (first | (go_at_call 23; refine (can_any _ _ _ (by omega) (by omega)).mono ?_; rintro e w' ⟨rfl, rfl⟩) | (at_make; refine wpList_make_full _ rfl _ _ 31 rfl w.heap.size 5 i0 (.int .u8 0) 1 Tryd.underlying31 HI.out.1 HI.out.2.1 HI.out.2.2.1 .i64 .i64 _ _ m rfl rfl rfl rfl (by rw [HI.out.2.2.2]; omega) (by unfold maxLen; omega) (Nat.le_refl _) ?_; intro w1 hown hgr))
  clear h2
  have X1 : Ext w w1 := (Ext.refl w).grown hgr (by intro k hk; cases hk)
  obtain ⟨xs1, hxs1⟩ : ∃ xs, xs = (madeCells (Value.int IntKind.u8 0).cells (m * 1)).toList := ⟨_, rfl⟩
  rw [← hxs1] at hown
  clear hxs1 hgr
  go_loopw [7, 26] (fun q i wr => ∃ k : Nat, k ≤ m ∧ i = .int .i64 k ∧ q = .int .i64 (leftTo p m k) ∧ ∃ xs : List Value, wr.ownsRow w.heap.size 5 1 (.slice (some ⟨w.heap.size, 0, none⟩) m m) m xs ∧ (∀ j, j < k → xs[j]? = some (.int .u8 (chr p m j))) ∧ Ext w wr) (fun _ i _ => m - (intOf i).toNat)
  case atStart => exact ⟨0, Nat.zero_le _, rfl, rfl, xs1, hown, fun j h => absurd h (by omega), X1⟩
  case round =>
    obtain ⟨k, hk, rfl, rfl, xs, hown, hxs, hx⟩ := hrel
    have HO := Lib.hid hown
    have HX := Lib.hid hxs
    clear hown hxs
    obtain ⟨hl1, hl2⟩ := left_bd hp1 hp2 k (by omega)
    by_cases hlt : k < m
    · have hlen : xs.length = m := by have := HO.out.1; omega
      obtain ⟨u, hu⟩ : ∃ u, xs[k]? = some u := ⟨xs[k]'(by omega), List.getElem?_eq_getElem _⟩
      have HU := Lib.hid hu
      clear hu hlen
      have HL := Lib.hid (show isL (chr p m k) = true from fl_isL (by omega) (by omega) (by omega))
      have HLS := Lib.hid (left_succ p m k)
      obtain ⟨hq1, hq2, _⟩ := pl_bd (chr p m k) HL.out
      have HC := Lib.hid (show fl (leftTo p m k) ((m : Int) - k - 1) = chr p m k from rfl)
      go_wp2_with (first | (go_at_call 24; refine (first_letter _ _ _ (hp.ext hx) (by omega) (by omega) (by omega) (by omega)).mono ?_; rintro e w2 ⟨rfl, x1⟩; rw [HC.out]; have hc3 := ((own_ext HO.out x1).cellAt k (by omega)).trans HU.out; have hf3 := (own_ext HO.out x1).frozenAt k) | (go_at_call 25; refine (padOf_any _ _ (hp.ext ((hx.trans x1).setCell (Nat.le_refl _) _)) HL.out).mono ?_; rintro e w3 ⟨rfl, x2⟩) | (go_at_call 26; refine (presses_any _ _ HL.out).mono ?_; rintro e w4 ⟨rfl, x3⟩))
      have O3 := own_ext (own_ext ((own_ext HO.out x1).stored k (.int .u8 (chr p m k))).1 x2) x3
      go_roundw
      case rel =>
        refine ⟨k + 1, by omega, by go_num, by rw [HLS.out], xs.set k (.int .u8 (chr p m k)), O3, ?_, (((hx.trans x1).setCell (Nat.le_refl _) _).trans x2).trans x3⟩
        intro j hjk
        by_cases e : j = k
        · subst e
          rw [List.getElem?_set_self (by have := HO.out.1; omega)]
        · rw [List.getElem?_set_ne (by omega)]
          exact HX.out j (by omega)
      case measure => simp [intOf]; omega
    · have hk' : k = m := by omega
      have hconv : (convert 31 9 (.slice (some ⟨w.heap.size, 0, none⟩) m m)).run Tryd.prog wr = .ok (.string (lpB p m m)) wr := by
        have h := run_convert_bytes_back (P := Tryd.prog) wr 31 9 5 ⟨w.heap.size, 0, none⟩ m (lpL p m m) Tryd.underlying31 Tryd.underlying5 Tryd.underlying9 (fun j hj => by
          have hj' : j < m := by rw [lpL_len] at hj; exact hj
          have hb := left_bd hp1 hp2 j (by omega)
          have hc := fl_bd (p := leftTo p m j) (n := (m : Int) - j - 1) (by omega) (by omega) (by omega)
          rw [lpL_get p m m j hj' hj, byteA (chr p m j) hc.1 hc.2]
          have := (HO.out.cellAt j (by omega)).trans (HX.out j (by omega))
          rw [show (Addr.add ⟨w.heap.size, 0, none⟩ j) = ⟨w.heap.size, j, none⟩ from by cases j <;> simp [Addr.add]]
          exact this)
        rw [lpL_len] at h
        exact h
      clear hk'
      go_wp2
      go_ret2
      exact ⟨ret_sb (by rw [lpV_yes H.out]; simp) H.out.symm, hx⟩

set_option maxHeartbeats 400000 in
theorem walk (p : Int) (_h1 : (Lit.int .i64 p).wf = true) (N : Int) (_h2 : (Lit.int .i64 N).wf = true) (w : World) (hp : PadIs w) : Calls Tryd.prog 5 #[.int .i64 p, .int .i64 N] w fun e w' => e = .returned (.bool true) ∧ Ext w w' := by
  clear _h1 _h2
  go_enter Tryd.func5, Tryd.ntmps5
  go_wp2_with (first | (go_at_call 10; refine (spec_any _ _ _).mono ?_; rintro e w' ⟨rfl, rfl⟩) | (go_at_call 11; refine (impl_any _ _ _ hp).mono ?_; rintro e w1 ⟨rfl, x1⟩))
  all_goals go_ret
  all_goals exact ⟨rfl, by first | assumption | exact Ext.refl _⟩

theorem contract (H : Type) (enc : TypeId × Value → H) (W : World) (base : Nat) (args : Array Value) (ds gs : List (DataW H)) (before : List MemPlace)
    (hval : ∀ (j : Nat) t v, Tryd.f5.params[j]? = some t → args[j]? = some v → Value.okWide Tryd.prog W .any base t v)
    (hW : DataW.Whole enc Tryd.prog Tryd.f5.params.toList Rows.fnExactLongestPressedSpec.vars false W args.toList ds gs before) (hL : laidMetH Tryd.prog Rows.fnExactLongestPressedRow.laid W) :
    Calls Tryd.prog 5 args W fun e W' => ∃ v, e = .returned v ∧ Rows.fnExactLongestPressedSpec.post enc Tryd.prog Tryd.f5 false true false false W args v W' := by
  have hW' := hW
  obtain ⟨p, q, hA0, hV, rfl, hfz, hnd⟩ := hW
  have hA : DataW.TrodAll enc Tryd.prog W 0 (fun _ => true) true Tryd.f5.params.toList args.toList ds p := hA0
  rw [Tryd.params5] at hA hval
  obtain ⟨v0, vs0, d0, ds0, p0, q0, hargs0, rfl, rfl, h0, r0⟩ := trodAll_cons hA
  obtain ⟨v1, vs1, d1, ds1, p1, q1, hargs1, rfl, rfl, h1, r1⟩ := trodAll_cons r0
  obtain ⟨rfl, rfl, rfl⟩ := trodAll_nil r1
  subst hargs1
  obtain rfl : args = #[v0, v1] := Array.toList_inj.1 hargs0
  obtain ⟨s0, rfl, rfl, rfl, z0⟩ := open_int Tryd.underlying3 (hval 0 3 v0 rfl rfl) h0
  obtain ⟨s1, rfl, rfl, rfl, z1⟩ := open_int Tryd.underlying3 (hval 1 3 v1 rfl rfl) h1
  clear hA0
  refine (walk s0 z0 s1 z1 W (padIs_of_laid hL)).mono fun e W' ⟨he, hx⟩ => ?_
  subst he
  exact ⟨_, rfl, post_true (tb := 4) laidOut (by rw [Tryd.params5]; intro t ht; simp at ht; subst ht; exact ⟨by kernel_rfl, of_decide_eq_true (by kernel_rfl)⟩) (by kernel_rfl) hW' hx (by obtain ⟨g, t, cs, fuel, d, p', rfl, _⟩ := trodVars_one hV; rfl) rfl Tryd.underlying4⟩

theorem reads (os : Os) {H : Type} (enc : TypeId × Value → H) : ∃ gs places, DataW.whole enc Tryd.prog ((laidWorld os).forCall (fun _ _ => 0) ⟨#[], #[.int .i64 0, .int .i64 0], []⟩).memory Tryd.f5.params.toList Rows.fnExactLongestPressedSpec.vars false (#[.int .i64 0, .int .i64 0] : Array Value).toList 8 = some ([.lit (.int .i64 0), .lit (.int .i64 0)], gs, places) :=
  ⟨[Rows.laid_loop_example_g01350_impl_padKeys], MemPlace.row ⟨0, 0, none⟩ 16, by kernel_rfl⟩

set_option maxRecDepth 100000 in
theorem lifted (os : Os) (started : os.Started) (H : Type) (enc : TypeId × Value → H) (F : Stop.Interp) :
    ReturnsInHanded {} Tryd.checked os 5 .any ((OpenSpec.ofChange Rows.fnExactLongestPressedSpec).preRow enc Tryd.prog Tryd.f5 Rows.fnExactLongestPressedRow.domain false Rows.fnExactLongestPressedRow.laid) (((OpenSpec.ofChange Rows.fnExactLongestPressedSpec).at F).post enc Tryd.prog Tryd.f5 false true false false) := by
  obtain ⟨gs, places, hx⟩ := reads os enc
  refine returnsInHanded_of_row (C := Tryd.checked) (s := OpenSpec.ofChange Rows.fnExactLongestPressedSpec) own started (by kernel_rfl) Tryd.func5
    (witness_row_at (enc := enc) (C := Tryd.checked) false (laidWorld os) #[.int .i64 0, .int .i64 0] rfl (by kernel_rfl) (by kernel_rfl) (by kernel_rfl)
      (OpenSpec.preRow_of_cond 8 hx (by kernel_rfl) (fun k hk => by cases hk) (by kernel_rfl) (laid_met os _))) ?_
  intro W base args ds gs before hval hW _ _ _ hL _ _
  exact contract H enc W base args ds gs before hval hW hL

theorem said : Rows.FnExactLongestPressedSaid :=
  OpenClaim.holds_of_cond 5 Tryd.f5 rfl rfl rfl rfl rfl rfl rfl ⟨rfl, rfl, rfl, rfl, rfl⟩ rfl rfl rfl rfl rfl (by kernel_rfl) Tryd.func5 (by kernel_rfl)
    (of_decide_eq_true (by kernel_rfl)) (by unfold Func.isWrapper; first | (rw [if_pos (by decide +kernel)]; kernel_rfl) | (rw [if_neg (by decide +kernel)]; exact ⟨rfl, rfl⟩))
    (fun os started H enc _ F => by rw [OpenClaim.pre_eq_preRow]; exact lifted os started H enc F)

theorem plain (f : FuncId) (fn : Func) (hf : Tryd.pinned.checked.prog.funcNamed "loop.example/g01350/laws.FnExactLongestPressed" = some f) (hfn : Tryd.pinned.checked.prog.funcs[f]? = some fn) :
    false = Tryd.pinned.checked.prog.looks [] ∧ ∀ (j : Nat) t, fn.params[j]? = some t → Tryd.pinned.checked.prog.wantsStandIn t = false := by
  obtain rfl : f = 5 := Option.some.inj ((show Tryd.prog.funcNamed "loop.example/g01350/laws.FnExactLongestPressed" = some 5 by kernel_rfl).symm.trans hf) |>.symm
  obtain rfl : fn = Tryd.f5 := (Option.some.inj (Tryd.func5.symm.trans hfn)).symm
  refine ⟨by kernel_rfl, fun j t ht => ?_⟩
  rw [Tryd.params5] at ht
  have hm := Array.mem_of_getElem? ht
  have hall : (#[3, 3].toList.all fun u => !Tryd.prog.wantsStandIn u) = true := by kernel_rfl
  exact (show Tryd.prog.wantsStandIn t = false by simpa using List.all_eq_true.1 hall t (by simpa using hm))

/-- THE CARD -/
theorem card : Rows.FnExactLongestPressedCardSaid :=
  Claim7.holds_tied_plain_at .later [] _ _ _ _ said (fun _ h => by cases h) (by kernel_rfl) (fun _ h => by cases h) fnExactLongestPressed_row_tie rfl ⟨rfl, rfl⟩ (by kernel_rfl) rfl plain (by kernel_rfl)
end Go.Proofs.YtfekamknnmhgpabDoor.longestPressed
