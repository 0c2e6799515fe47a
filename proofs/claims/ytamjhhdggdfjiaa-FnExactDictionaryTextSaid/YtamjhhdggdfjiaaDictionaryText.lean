/- For every list of texts the program's DictionaryText answers as its model does, and leaves the list alone. No conditions. -/
import Derived.Test.YtamjhhdggdfjiaaRows
import Derived.Test.YtamjhhdggdfjiaaLaw
import Derived.Test.YtamjhhdggdfjiaaFind
import Derived.Test.YtamjhhdggdfjiaaOwnS
import Derived.Test.YtamjhhdggdfjiaaShelf
import Derived.Test.YtamjhhdggdfjiaaOpenS
namespace Go.Proofs.Ytamjhhdggdfjiaa.dictionaryText
open Go.ChangeShapes Go.WideShapes Go.ChangeAt Go.RowKit
open Go.ChangeMaps (open_string shut_string)

/-- The first so many texts with a comma between them. -/
def jl (l : List ByteArray) : List UInt8 := Lib.join (l.map (·.data.toList)) [44]
def jt (l : List ByteArray) : ByteArray := ⟨(jl l).toArray⟩
theorem jl_one (s : ByteArray) : jl [s] = s.data.toList := by simp [jl, Lib.join]
theorem jl_cons (a : ByteArray) (r : List ByteArray) : jl (a :: r) = a.data.toList ++ ((r.map fun s => 44 :: s.data.toList)).flatten := by
  unfold jl
  rw [List.map_cons, Lib.join_cons]
  simp only [Lib.joinTail, List.map_map]
  rfl
theorem jl_snoc : ∀ (l : List ByteArray) (s : ByteArray), l ≠ [] → jl (l ++ [s]) = jl l ++ 44 :: s.data.toList
  | [], _, h => absurd rfl h
  | a :: r, s, _ => by
    rw [List.cons_append, jl_cons, jl_cons]
    simp
theorem jt_first {ss : List ByteArray} {k : Nat} (h : k < ss.length) (h0 : k = 0) : (⟨#[]⟩ : ByteArray) ++ ss[k] = jt (ss.take (k + 1)) := by
  subst h0
  rw [takeS ss 0 h]
  apply ByteArray.ext
  show _ = (jl [ss[0]]).toArray
  rw [jl_one]
  simp
theorem jt_next {ss : List ByteArray} {k : Nat} (h : k < ss.length) (h0 : ¬ k = 0) : (jt (ss.take k) ++ (⟨#[44]⟩ : ByteArray)) ++ ss[k] = jt (ss.take (k + 1)) := by
  rw [takeS ss k h]
  apply ByteArray.ext
  show _ = (jl (ss.take k ++ [ss[k]])).toArray
  rw [jl_snoc _ _ (by
    intro e
    have h2 : (ss.take k).length = 0 := by rw [e]; rfl
    rw [List.length_take] at h2
    omega)]
  simp [jt]
theorem tail_len : ∀ (r : List ByteArray), (∀ s ∈ r, s.size ≤ 10) → ((r.map fun s => (44 :: s.data.toList : List UInt8)).flatten).length ≤ 11 * r.length
  | [], _ => by simp
  | a :: r, h => by
    have h1 := tail_len r (fun s hs => h s (List.mem_cons_of_mem _ hs))
    have h2 := h a (by simp)
    have e : a.data.toList.length = a.size := by simp
    rw [List.map_cons, List.flatten_cons, List.length_append, List.length_cons, List.length_cons, e]
    omega
theorem jl_len : ∀ (l : List ByteArray), (∀ s ∈ l, s.size ≤ 10) → (jl l).length ≤ 11 * l.length
  | [], _ => by simp [jl, Lib.join]
  | a :: r, h => by
    have h1 := tail_len r (fun s hs => h s (List.mem_cons_of_mem _ hs))
    have h2 := h a (by simp)
    have e : a.data.toList.length = a.size := by simp
    rw [jl_cons, List.length_append, e, List.length_cons]
    omega
theorem jt_size {ss : List ByteArray} (h : dicB ss = true) (k : Nat) : (jt (ss.take k)).size ≤ 132 := by
  have h1 := jl_len (ss.take k) (fun s hs => wdW_size (dicB_mem h s (List.mem_of_mem_take hs)))
  have h2 := dicB_len h
  rw [List.length_take] at h1
  show (jl (ss.take k)).toArray.size ≤ 132
  simp
  omega
def dtV (ss : List ByteArray) : ByteArray := if dicB ss then jt ss else ⟨#[]⟩
theorem dtV_no {ss : List ByteArray} (h : dicB ss = false) : dtV ss = ⟨#[]⟩ := by unfold dtV; simp [h]
theorem dtV_yes {ss : List ByteArray} (h : dicB ss = true) : dtV ss = jt ss := by unfold dtV; simp [h]
theorem ret_sb {a a' : ByteArray} {b b' : Bool} (h : a = a') (h2 : b = b') : Ending.returned (.tuple #[.string a, .bool b]) = .returned (.tuple #[.string a', .bool b']) := by rw [h, h2]

set_option maxHeartbeats 2000000 in
theorem wdText_any (v : Value) (ss : List ByteArray) (w : World) (h : Strs w v ss) (hd : dicB ss = true) : Calls Try.prog 29 #[v] w fun e w' => e = .returned (.string (jt ss)) ∧ Ext w w' := by
  have HS := Lib.hid h
  obtain ⟨hl1, hl2⟩ := dicB_len hd
  have HD := Lib.hid hd
  obtain ⟨a, cap, hv, hnil⟩ := h.at
  rw [hv] at HS ⊢
  clear hv hnil h v hd
  go_enter Try.func29, Try.ntmps29
  go_wp2
  go_loopw [3, 8] (fun o i wr => ∃ k : Nat, k ≤ ss.length ∧ i = .int .i64 k ∧ o = .string (jt (ss.take k)) ∧ Ext w wr) (fun _ i _ => ss.length - (intOf i).toNat)
  case atStart => exact ⟨0, Nat.zero_le _, rfl, rfl, Ext.refl _⟩
  case round =>
    obtain ⟨k, hk, rfl, rfl, hx⟩ := hrel
    have hjz := jt_size HD.out k
    by_cases hlt : k < ss.length
    · rcases (HS.out.ext hx).2.2 with ⟨h3, _⟩ | ⟨b, off, cap', h4, hb, hc⟩
      · rw [h3] at hlt; exact absurd hlt (by simp)
      have ha : a = some ⟨b, off, none⟩ := by injection h4
      have e1 := hc k hlt
      have hsz := wdW_size (dicB_at HD.out k hlt)
      rw [ha]
      clear hc h4 ha hb
      obtain ⟨j, hj⟩ : ∃ j, j = jt (ss.take k) := ⟨_, rfl⟩
      have HJ := Lib.hid hj
      rw [← hj] at hjz ⊢
      clear hj
      by_cases h0 : k = 0
      · have HN := Lib.hid (show j ++ ss[k] = jt (ss.take (k + 1)) by
          have hj0 : j = ⟨#[]⟩ := by rw [HJ.out, h0]; rfl
          rw [hj0]
          exact jt_first hlt h0)
        have hn0 : ¬ 0 < k := by omega
        clear h0
        go_wp2
        go_roundw
        case rel => exact ⟨k + 1, by omega, by go_num, by rw [HN.out], hx⟩
        case measure => simp [intOf]; omega
      · have HN := Lib.hid (show (j ++ (⟨#[44]⟩ : ByteArray)) ++ ss[k] = jt (ss.take (k + 1)) by rw [HJ.out]; exact jt_next hlt h0)
        have hn0 : 0 < k := by omega
        have hz2 : (j ++ (⟨#[44]⟩ : ByteArray)).size ≤ 133 := by rw [ByteArray.size_append]; exact Nat.add_le_add_right hjz 1
        clear h0
        go_wp2
        go_roundw
        case rel => exact ⟨k + 1, by omega, by go_num, by rw [← HN.out], hx⟩
        case measure => simp [intOf]; omega
    · have HT := Lib.hid (show ss.take k = ss from List.take_of_length_le (by omega))
      go_wp2
      go_ret
      exact ⟨by rw [HT.out]; rfl, hx⟩

set_option maxHeartbeats 1000000 in
theorem spec_any (v : Value) (ss : List ByteArray) (w : World) (h : Strs w v ss) : Calls Try.prog 13 #[v] w fun e w' => e = .returned (.tuple #[.string (dtV ss), .bool (dicB ss)]) ∧ Ext w w' := by
  have HS := Lib.hid h
  clear h
  cases hd : dicB ss
  · have H := Lib.hid (dtV_no hd)
    go_enter Try.func13, Try.ntmps13
    go_wp2_with (go_at_call 27; refine (wdGood_any _ _ _ HS.out).mono ?_; rintro e w1 ⟨rfl, x1⟩)
    go_ret2
    exact ⟨ret_sb H.out.symm rfl, x1⟩
  · have H := Lib.hid (dtV_yes hd)
    have HD := Lib.hid hd
    go_enter Try.func13, Try.ntmps13
    go_wp2_with (first | (go_at_call 27; refine (wdGood_any _ _ _ HS.out).mono ?_; rintro e w1 ⟨rfl, x1⟩) | (go_at_call 29; refine (wdText_any _ _ _ (HS.out.ext x1) HD.out).mono ?_; rintro e w2 ⟨rfl, x2⟩))
    go_ret2
    exact ⟨ret_sb H.out.symm rfl, x1.trans x2⟩

theorem join_any (v : Value) (ss : List ByteArray) (w : World) (h : Strs w v ss) (hd : dicB ss = true) (hcap : CapOk v) : Calls Try.prog 30 #[v, .string ⟨#[44]⟩] w fun e w' => e = .returned (.string (jt ss)) ∧ Ext w w' := by
  obtain ⟨hl1, hl2⟩ := dicB_len hd
  have hz := jt_size hd ss.length
  rw [List.take_length] at hz
  rcases h.2.2 with ⟨h3, _⟩ | ⟨b, off, cap, rfl, hb, hc⟩
  · subst h3; simp at hl1
  refine (Go.Proofs.Try.strings_Join b off cap ss ⟨#[44]⟩ w (fun j x hx => ?_) hb (by omega) (hcap _ _ _ rfl) ?_).mono ?_
  · have hj : j < ss.length := by
      rcases Nat.lt_or_ge j ss.length with k | k
      · exact k
      · rw [List.getElem?_eq_none k] at hx; cases hx
    rw [List.getElem?_eq_getElem hj] at hx
    injection hx with hx
    subst hx
    exact hc j hj
  · have : (jl ss).toArray.size ≤ 132 := hz
    simp at this
    show (jl ss).length ≤ _
    omega
  · rintro e w' ⟨rfl, x⟩
    exact ⟨rfl, x⟩

set_option maxHeartbeats 1000000 in
theorem impl_any (v : Value) (ss : List ByteArray) (w : World) (h : Strs w v ss) (hcap : CapOk v) : Calls Try.prog 14 #[v] w fun e w' => e = .returned (.tuple #[.string (dtV ss), .bool (dicB ss)]) ∧ Ext w w' := by
  have HS := Lib.hid h
  have HC := Lib.hid hcap
  clear h hcap
  cases hd : dicB ss
  · have H := Lib.hid (dtV_no hd)
    go_enter Try.func14, Try.ntmps14
    go_wp2_with (go_at_call 11; refine (dict_any _ _ _ HS.out).mono ?_; rintro e w1 ⟨rfl, x1⟩)
    go_ret2
    exact ⟨ret_sb H.out.symm rfl, x1⟩
  · have H := Lib.hid (dtV_yes hd)
    have HD := Lib.hid hd
    go_enter Try.func14, Try.ntmps14
    go_wp2_with (first | (go_at_call 11; refine (dict_any _ _ _ HS.out).mono ?_; rintro e w1 ⟨rfl, x1⟩) | (go_at_call 30; refine (join_any _ _ _ (HS.out.ext x1) HD.out HC.out).mono ?_; rintro e w2 ⟨rfl, x2⟩))
    go_ret2
    exact ⟨ret_sb H.out.symm rfl, x1.trans x2⟩

set_option maxHeartbeats 4000000 in
theorem walk (w : World) (v : Value) (ss : List ByteArray) (h : Strs w v ss) : Calls Try.prog 4 #[v] w fun e w' => e = .returned (.bool true) ∧ Ext w w' := by
  have H := Lib.hid h
  clear h
  go_enter Try.func4, Try.ntmps4
  go_wp2_with (first | (go_at_call 8; refine (szS_any _ _ _ H.out).mono ?_; rintro e w' ⟨r, hr, rfl, rfl⟩))
  · go_ret
    exact ⟨rfl, Ext.refl _⟩
  · have hf := hr (by assumption)
    obtain ⟨hn, hb⟩ := hf
    clear hr
    refine (toS_any _ _ _ (H.out) hn).mono ?_
    rintro e w1 ⟨u1, rfl, hu1, x1, gx1, cx1, rfl, hgx1, hox1⟩
    have H1 := Lib.hid hu1
    have O1 := Lib.hid hox1
    have hg1 : gx1 < w1.heap.size := by
      rcases hox1.2 with ⟨h3, _⟩ | ⟨g', c, cur, h3, _, hg, _⟩
      · cases h3
      · cases h3
        exact heap_lt hg
    clear hu1 hox1
    have X1 : Ext w w1 := x1
    go_wp2_with fail
    refine (spec_any _ _ _ H1.out).mono ?_
    rintro e w2 ⟨rfl, x2⟩
    have X2 : Ext w w2 := X1.trans x2
    go_wp2_with fail
    refine (toS_any _ _ _ (H.out.ext X2) hn).mono ?_
    rintro e w3 ⟨u3, rfl, hu3, x3, gx3, cx3, rfl, hgx3, hox3⟩
    have H3 := Lib.hid hu3
    have O3 := Lib.hid hox3
    have hg3 : gx3 < w3.heap.size := by
      rcases hox3.2 with ⟨h3, _⟩ | ⟨g', c, cur, h3, _, hg, _⟩
      · cases h3
      · cases h3
        exact heap_lt hg
    clear hu3 hox3
    have X3 : Ext w w3 := X2.trans x3
    go_wp2_with fail
    refine (impl_any _ _ _ H3.out (own_cap O3.out)).mono ?_
    rintro e w4 ⟨rfl, x4⟩
    have X4 : Ext w w4 := X3.trans x4
    go_wp2_with fail
    refine (toS_any _ _ _ (H.out.ext X4) hn).mono ?_
    rintro e w5 ⟨u5, rfl, hu5, x5, gx5, cx5, rfl, hgx5, hox5⟩
    have H5 := Lib.hid hu5
    have O5 := Lib.hid hox5
    have hg5 : gx5 < w5.heap.size := by
      rcases hox5.2 with ⟨h3, _⟩ | ⟨g', c, cur, h3, _, hg, _⟩
      · cases h3
      · cases h3
        exact heap_lt hg
    clear hu5 hox5
    have X5 : Ext w w5 := X4.trans x5
    go_wp2_with fail
    refine (eqS_any _ _ _ _ (H3.out.ext (x4.trans x5)) (H5.out) hn).mono ?_
    rintro e w6 ⟨rfl, x6⟩
    have X6 : Ext w w6 := X5.trans x6
    go_wp2_with fail
    go_ret
    exact ⟨rfl, X6⟩

set_option maxRecDepth 100000 in
theorem contract (H : Type) (enc : TypeId × Value → H) (W : World) (base : Nat) (args : Array Value) (ds gs : List (DataW H)) (before : List MemPlace)
    (hval : ∀ (j : Nat) t v, Try.f4.params[j]? = some t → args[j]? = some v → Value.okWide Try.prog W .any base t v)
    (hW : DataW.Whole enc Try.prog Try.f4.params.toList Rows.fnExactDictionaryTextSpec.vars false W args.toList ds gs before) :
    Calls Try.prog 4 args W fun e W' => ∃ v, e = .returned v ∧ Rows.fnExactDictionaryTextSpec.post enc Try.prog Try.f4 false true false false W args v W' := by
  have hW' := hW
  obtain ⟨p, q, hA0, hV, rfl, hfz, hnd⟩ := hW
  have hA : DataW.TrodAll enc Try.prog W 0 (fun _ => true) true Try.f4.params.toList args.toList ds p := hA0
  rw [Try.params4] at hA hval
  obtain ⟨v0, vs0, d0, ds0, p0, q0, hargs0, rfl, rfl, h0, r0⟩ := trodAll_cons hA
  obtain ⟨rfl, rfl, rfl⟩ := trodAll_nil r0
  obtain rfl : args = #[v0] := Array.toList_inj.1 hargs0
  obtain ⟨s0, z0⟩ := strs_of (hval 0 22 v0 rfl rfl) h0
  clear hA0
  refine (walk W v0 s0 z0).mono fun e W' ⟨he, hx⟩ => ?_
  subst he
  exact ⟨_, rfl, post_true (tb := 4) laidOut (by rw [Try.params4]; intro t ht; simp at ht; subst ht; exact ⟨by kernel_rfl, of_decide_eq_true (by kernel_rfl)⟩) (by kernel_rfl) hW' hx (by obtain ⟨rfl, rfl⟩ := trodVars_none hV; rfl) rfl Try.underlying4⟩

set_option maxRecDepth 100000 in
theorem lifted (os : Os) (started : os.Started) (H : Type) (enc : TypeId × Value → H) :
    ReturnsInHanded {} Try.checked os 4 .any (Rows.fnExactDictionaryTextSpec.pre6 enc Try.prog Try.f4 Rows.fnExactDictionaryTextRow.domain false) (Rows.fnExactDictionaryTextSpec.post enc Try.prog Try.f4 false true false false) := by
  refine returnsInHanded_of_change (C := Try.checked) own started (by kernel_rfl) Try.func4
    (ChangeSpec.witness6 (enc := enc) (C := Try.checked) false ⟨#[], #[.slice none 0 0], []⟩ 8 (by kernel_rfl) (by kernel_rfl) (by kernel_rfl) (by kernel_rfl)) ?_
  intro W base args ds gs before hval hW _ _
  exact contract H enc W base args ds gs before hval hW

theorem said : Rows.FnExactDictionaryTextSaid :=
  OpenClaim.holds_of_wide 4 Try.f4 rfl rfl rfl rfl rfl rfl rfl ⟨rfl, rfl, rfl, rfl, rfl⟩ rfl rfl rfl rfl rfl (by kernel_rfl) Try.func4 (by kernel_rfl)
    (of_decide_eq_true (by kernel_rfl)) (by unfold Func.isWrapper; first | (rw [if_pos (by decide +kernel)]; kernel_rfl) | (rw [if_neg (by decide +kernel)]; exact ⟨rfl, rfl⟩))
    (fun os started H enc _ => lifted os started H enc)
end Go.Proofs.Ytamjhhdggdfjiaa.dictionaryText
