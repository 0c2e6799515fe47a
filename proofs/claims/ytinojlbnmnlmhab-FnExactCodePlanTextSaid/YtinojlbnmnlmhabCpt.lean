/- CodePlanText: the codes with commas between them. No conditions. -/
import Derived.Test.YtinojlbnmnlmhabPlI
import Derived.Test.YtinojlbnmnlmhabShelfJ
namespace Go.Proofs.Ytinojlbnmnlmhab
open Go.RowKit

/-- The first so many texts with a comma between them. -/
def jl (l : List ByteArray) : List UInt8 := Lib.join (l.map (·.data.toList)) [44]
def jt (l : List ByteArray) : ByteArray := ⟨(jl l).toArray⟩
theorem jl_one (s : ByteArray) : jl [s] = s.data.toList := by simp [jl, Lib.join]
theorem jl_cons (a : ByteArray) (r : List ByteArray) : jl (a :: r) = a.data.toList ++ ((r.map fun s => 44 :: s.data.toList)).flatten := by
  unfold jl
  rw [List.map_cons, Lib.join_cons]
  simp only [Lib.joinTail, List.map_map]
  rfl
theorem jl_snoc : ∀ (l : List ByteArray) (s : ByteArray), l ≠ [] → jl (l ++ [s]) = jl l ++ 44 :: s.data.toList
  | [], _, h => absurd rfl h
  | a :: r, s, _ => by
    rw [List.cons_append, jl_cons, jl_cons]
    simp
theorem jt_first {ss : List ByteArray} {k : Nat} (h : k < ss.length) (h0 : k = 0) : (⟨#[]⟩ : ByteArray) ++ ss[k] = jt (ss.take (k + 1)) := by
  subst h0
  rw [takeS ss 0 h]
  apply ByteArray.ext
  show _ = (jl [ss[0]]).toArray
  rw [jl_one]
  simp
theorem jt_next {ss : List ByteArray} {k : Nat} (h : k < ss.length) (h0 : ¬ k = 0) : (jt (ss.take k) ++ (⟨#[44]⟩ : ByteArray)) ++ ss[k] = jt (ss.take (k + 1)) := by
  rw [takeS ss k h]
  apply ByteArray.ext
  show _ = (jl (ss.take k ++ [ss[k]])).toArray
  rw [jl_snoc _ _ (by
    intro e
    have h2 : (ss.take k).length = 0 := by rw [e]; rfl
    rw [List.length_take] at h2
    omega)]
  simp [jt]
theorem tail_len : ∀ (r : List ByteArray), (∀ s ∈ r, s.size ≤ 6) → ((r.map fun s => (44 :: s.data.toList : List UInt8)).flatten).length ≤ 7 * r.length
  | [], _ => by simp
  | a :: r, h => by
    have h1 := tail_len r (fun s hs => h s (List.mem_cons_of_mem _ hs))
    have h2 := h a (by simp)
    have e : a.data.toList.length = a.size := by simp
    rw [List.map_cons, List.flatten_cons, List.length_append, List.length_cons, List.length_cons, e]
    omega
theorem jl_len : ∀ (l : List ByteArray), (∀ s ∈ l, s.size ≤ 6) → (jl l).length ≤ 7 * l.length
  | [], _ => by simp [jl, Lib.join]
  | a :: r, h => by
    have h1 := tail_len r (fun s hs => h s (List.mem_cons_of_mem _ hs))
    have h2 := h a (by simp)
    have e : a.data.toList.length = a.size := by simp
    rw [jl_cons, List.length_append, e, List.length_cons]
    omega
theorem jt_size {ss : List ByteArray} (h : plB ss = true) (k : Nat) : (jt (ss.take k)).size ≤ 140 := by
  have h1 := jl_len (ss.take k) (fun s hs => by have := isDg_size ((plB_iff.1 h).cd s (List.mem_of_mem_take hs)); omega)
  have h2 := (plB_iff.1 h).l2
  rw [List.length_take] at h1
  show (jl (ss.take k)).toArray.size ≤ 140
  simp
  omega
def dtV (ss : List ByteArray) : ByteArray := if plB ss then jt ss else ⟨#[]⟩
theorem dtV_no {ss : List ByteArray} (h : plB ss = false) : dtV ss = ⟨#[]⟩ := by unfold dtV; simp [h]
theorem dtV_yes {ss : List ByteArray} (h : plB ss = true) : dtV ss = jt ss := by unfold dtV; simp [h]
theorem ret_sb {a a' : ByteArray} {b b' : Bool} (h : a = a') (h2 : b = b') : Ending.returned (.tuple #[.string a, .bool b]) = .returned (.tuple #[.string a', .bool b']) := by rw [h, h2]

set_option maxHeartbeats 2000000 in
theorem plText_any (v : Value) (ss : List ByteArray) (w : World) (h : Strs w v ss) (hd : plB ss = true) : Calls Try.prog 66 #[v] w fun e w' => e = .returned (.string (jt ss)) ∧ Ext w w' := by
  have HS := Lib.hid h
  have hl1 := (plB_iff.1 hd).l1
  have hl2 := (plB_iff.1 hd).l2
  have HD := Lib.hid hd
  obtain ⟨a, cap, hv, hnil⟩ := h.at
  rw [hv] at HS ⊢
  clear hv hnil h v hd
  go_enter Try.func66, Try.ntmps66
  go_wp2
  go_loopw [3, 8] (fun o i wr => ∃ k : Nat, k ≤ ss.length ∧ i = .int .i64 k ∧ o = .string (jt (ss.take k)) ∧ Ext w wr) (fun _ i _ => ss.length - (intOf i).toNat)
  case atStart => exact ⟨0, Nat.zero_le _, rfl, rfl, Ext.refl _⟩
  case round =>
    obtain ⟨k, hk, rfl, rfl, hx⟩ := hrel
    have hjz := jt_size HD.out k
    by_cases hlt : k < ss.length
    · rcases (HS.out.ext hx).2.2 with ⟨h3, _⟩ | ⟨b, off, cap', h4, hb, hc⟩
      · rw [h3] at hlt; exact absurd hlt (by simp)
      have ha : a = some ⟨b, off, none⟩ := by injection h4
      have e1 := hc k hlt
      have hsz : ss[k].size ≤ 6 := by have := isDg_size ((plB_iff.1 HD.out).cd ss[k] (List.getElem_mem hlt)); omega
      rw [ha]
      clear hc h4 ha hb
      obtain ⟨j, hj⟩ : ∃ j, j = jt (ss.take k) := ⟨_, rfl⟩
      have HJ := Lib.hid hj
      rw [← hj] at hjz ⊢
      clear hj
      by_cases h0 : k = 0
      · have HN := Lib.hid (show j ++ ss[k] = jt (ss.take (k + 1)) by
          have hj0 : j = ⟨#[]⟩ := by rw [HJ.out, h0]; rfl
          rw [hj0]
          exact jt_first hlt h0)
        have hn0 : ¬ 0 < k := by omega
        clear h0
        go_wp2
        go_roundw
        case rel => exact ⟨k + 1, by omega, by go_num, by rw [HN.out], hx⟩
        case measure => simp [intOf]; omega
      · have HN := Lib.hid (show (j ++ (⟨#[44]⟩ : ByteArray)) ++ ss[k] = jt (ss.take (k + 1)) by rw [HJ.out]; exact jt_next hlt h0)
        have hn0 : 0 < k := by omega
        have hz2 : (j ++ (⟨#[44]⟩ : ByteArray)).size ≤ 141 := by rw [ByteArray.size_append]; exact Nat.add_le_add_right hjz 1
        clear h0
        go_wp2
        go_roundw
        case rel => exact ⟨k + 1, by omega, by go_num, by rw [← HN.out], hx⟩
        case measure => simp [intOf]; omega
    · have HT := Lib.hid (show ss.take k = ss from List.take_of_length_le (by omega))
      go_wp2
      go_ret
      exact ⟨by rw [HT.out]; rfl, hx⟩

set_option maxHeartbeats 1000000 in
theorem cptS_any (v : Value) (ss : List ByteArray) (w : World) (h : Strs w v ss) : Calls Try.prog 32 #[v] w fun e w' => e = .returned (.tuple #[.string (dtV ss), .bool (plB ss)]) ∧ Ext w w' := by
  have HS := Lib.hid h
  clear h
  cases hd : plB ss
  · have H := Lib.hid (dtV_no hd)
    go_enter Try.func32, Try.ntmps32
    go_wp2_with (go_at_call 47; refine (plGood_any _ _ _ HS.out).mono ?_; rintro e w1 ⟨rfl, x1⟩)
    go_ret2
    exact ⟨ret_sb H.out.symm rfl, x1⟩
  · have H := Lib.hid (dtV_yes hd)
    have HD := Lib.hid hd
    go_enter Try.func32, Try.ntmps32
    go_wp2_with (first | (go_at_call 47; refine (plGood_any _ _ _ HS.out).mono ?_; rintro e w1 ⟨rfl, x1⟩) | (go_at_call 66; refine (plText_any _ _ _ (HS.out.ext x1) HD.out).mono ?_; rintro e w2 ⟨rfl, x2⟩))
    go_ret2
    exact ⟨ret_sb H.out.symm rfl, x1.trans x2⟩

theorem join_any (v : Value) (ss : List ByteArray) (w : World) (h : Strs w v ss) (hd : plB ss = true) (hcap : CapOk v) : Calls Try.prog 67 #[v, .string ⟨#[44]⟩] w fun e w' => e = .returned (.string (jt ss)) ∧ Ext w w' := by
  have hl1 := (plB_iff.1 hd).l1
  have hl2 := (plB_iff.1 hd).l2
  have hz := jt_size hd ss.length
  rw [List.take_length] at hz
  rcases h.2.2 with ⟨h3, _⟩ | ⟨b, off, cap, rfl, hb, hc⟩
  · subst h3; simp at hl1
  refine (Go.Proofs.Try.strings_Join b off cap ss ⟨#[44]⟩ w (fun j x hx => ?_) hb (by omega) (hcap _ _ _ rfl) ?_).mono ?_
  · have hj : j < ss.length := by
      rcases Nat.lt_or_ge j ss.length with k | k
      · exact k
      · rw [List.getElem?_eq_none k] at hx; cases hx
    rw [List.getElem?_eq_getElem hj] at hx
    injection hx with hx
    subst hx
    exact hc j hj
  · have : (jl ss).toArray.size ≤ 140 := hz
    simp at this
    show (jl ss).length ≤ _
    omega
  · rintro e w' ⟨rfl, x⟩
    exact ⟨rfl, x⟩

set_option maxHeartbeats 1000000 in
theorem cptI_any (v : Value) (ss : List ByteArray) (w : World) (h : Strs w v ss) (hcap : CapOk v) : Calls Try.prog 33 #[v] w fun e w' => e = .returned (.tuple #[.string (dtV ss), .bool (plB ss)]) ∧ Ext w w' := by
  have HS := Lib.hid h
  have HC := Lib.hid hcap
  clear h hcap
  cases hd : plB ss
  · have H := Lib.hid (dtV_no hd)
    go_enter Try.func33, Try.ntmps33
    go_wp2_with (go_at_call 50; refine (isPl_any _ _ _ HS.out HC.out).mono ?_; rintro e w1 ⟨rfl, x1⟩)
    go_ret2
    exact ⟨ret_sb H.out.symm rfl, x1⟩
  · have H := Lib.hid (dtV_yes hd)
    have HD := Lib.hid hd
    go_enter Try.func33, Try.ntmps33
    go_wp2_with (first | (go_at_call 50; refine (isPl_any _ _ _ HS.out HC.out).mono ?_; rintro e w1 ⟨rfl, x1⟩) | (go_at_call 67; refine (join_any _ _ _ (HS.out.ext x1) HD.out HC.out).mono ?_; rintro e w2 ⟨rfl, x2⟩))
    go_ret2
    exact ⟨ret_sb H.out.symm rfl, x1.trans x2⟩

end Go.Proofs.Ytinojlbnmnlmhab
