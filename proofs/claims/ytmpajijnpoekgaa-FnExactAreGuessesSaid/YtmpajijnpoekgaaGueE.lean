/- Lists of guesses: compared; an argument opened. No conditions. -/
import Derived.Test.YtmpajijnpoekgaaGue
import Derived.Deep.RegionHeld3
import Derived.DataShut
import Derived.Test.YtmpajijnpoekgaaNm
namespace Go.Proofs.Ytmpajijnpoekgaa
open Go.RowKit Go.ChangeShapes Go.WideShapes Go.ChangeAt Go.Deep

set_option maxHeartbeats 1000000 in
theorem eqGS_any (v u : Value) (gs : List Gu) (w : World) (h : Gus w v gs) (h2 : Gus w u gs) (hn : gs.length ≤ 1048576) : Calls Try.prog 35 #[v, u] w fun e w' => e = .returned (.bool true) ∧ Ext w w' := by
  have HV := Lib.hid h
  have HU := Lib.hid h2
  obtain ⟨a, cap, hv, _⟩ := h.at
  obtain ⟨a2, cap2, hu, _⟩ := h2.at
  rw [hv] at HV ⊢
  rw [hu] at HU ⊢
  clear hv hu h h2 u v
  go_enter Try.func35, Try.ntmps35
  go_wp2
  go_loopw [5] (fun i wr => ∃ k : Nat, k ≤ gs.length ∧ i = .int .i64 k ∧ Ext w wr) (fun i _ => gs.length - (intOf i).toNat)
  case atStart => exact ⟨0, Nat.zero_le _, rfl, Ext.refl _⟩
  case round =>
    obtain ⟨k, hk, rfl, hx⟩ := hrel
    by_cases hlt : k < gs.length
    · rcases (HV.out.ext hx).2.2 with ⟨h3, _⟩ | ⟨b, off, cap', h1, hb, hc⟩
      · rw [h3] at hlt; exact absurd hlt (by simp)
      rcases (HU.out.ext hx).2.2 with ⟨h3, _⟩ | ⟨b2, off2, cap3, h4, hb2, hc2⟩
      · rw [h3] at hlt; exact absurd hlt (by simp)
      have ha : a = some ⟨b, off, none⟩ := by injection h1
      have ha2 : a2 = some ⟨b2, off2, none⟩ := by injection h4
      have HCK := Lib.hid (hc k hlt)
      have HCK2 := Lib.hid (hc2 k hlt)
      obtain ⟨g, hg⟩ : ∃ g, g = gs[k] := ⟨_, rfl⟩
      rw [← hg] at HCK HCK2
      rw [ha, ha2]
      have b1 : (k : Int) < (gs.length : Int) := by omega
      clear hc hc2 h1 h4 ha ha2 hg
      have HSN := Lib.hid (fun (w' : World) (x' : Ext wr w') => (show (w'.cell? ⟨b, off + k * 3, none⟩ = some (.string g.p) ∧ w'.cell? ⟨b, off + k * 3 + 1, none⟩ = some (.int .i64 g.h) ∧ w'.cell? ⟨b, off + k * 3 + 2, none⟩ = some (.int .i64 g.n) ∧ w'.cell? ⟨b2, off2 + k * 3, none⟩ = some (.string g.p) ∧ w'.cell? ⟨b2, off2 + k * 3 + 1, none⟩ = some (.int .i64 g.h) ∧ w'.cell? ⟨b2, off2 + k * 3 + 2, none⟩ = some (.int .i64 g.n)) ∧ Ext wr w' from
        ⟨⟨rangeAt_ext HCK.out x' hb 0 _ rfl, rangeAt_ext HCK.out x' hb 1 _ rfl, rangeAt_ext HCK.out x' hb 2 _ rfl, rangeAt_ext HCK2.out x' hb2 0 _ rfl, rangeAt_ext HCK2.out x' hb2 1 _ rfl, rangeAt_ext HCK2.out x' hb2 2 _ rfl⟩, x'⟩))
      clear hb hb2
      go_wp2
      go_region_held3 (fun w' => (w'.cell? ⟨b, off + k * 3, none⟩ = some (.string g.p) ∧ w'.cell? ⟨b, off + k * 3 + 1, none⟩ = some (.int .i64 g.h) ∧ w'.cell? ⟨b, off + k * 3 + 2, none⟩ = some (.int .i64 g.n) ∧ w'.cell? ⟨b2, off2 + k * 3, none⟩ = some (.string g.p) ∧ w'.cell? ⟨b2, off2 + k * 3 + 1, none⟩ = some (.int .i64 g.h) ∧ w'.cell? ⟨b2, off2 + k * 3 + 2, none⟩ = some (.int .i64 g.n)) ∧ Ext wr w') (first | exact HSN.out _ (Ext.refl _).drew | exact HSN.out _ (Ext.trans (And.right (by assumption)) x1)) (first | (go_at_call 70; refine (eqG_any g.p g.h g.n _).mono ?_; rintro e w' ⟨rfl, x1⟩))
      go_wp2
      go_roundw
      case rel => exact ⟨k + 1, by omega, by go_num, hx.trans ((Ext.refl _).drew.trans x1)⟩
      case measure => simp [intOf]; omega
    · go_wp2
      go_ret
      exact ⟨rfl, hx⟩

theorem cells_s1 : Try.prog.cellsOf 9 = 1 := by kernel_rfl
theorem cells_i1 : Try.prog.cellsOf 3 = 1 := by kernel_rfl
instance : Inhabited Gu := ⟨⟨⟨#[]⟩, 0, 0⟩⟩
theorem cells_gu : Try.prog.cellsOf 69 = 3 := by kernel_rfl
set_option maxRecDepth 100000 in
theorem gus_of {H : Type} {enc : TypeId × Value → H} {W : World} {base : Nat} {v : Value} {d : DataW H} {p : List MemPlace}
    (hv : Value.okWide Try.prog W .any base 36 v) (h : DataW.Trod enc Try.prog W 0 (fun _ => true) true 36 v d p) : ∃ gs, Gus W v gs := by
  obtain ⟨a0, len, cap, rfl⟩ := okWide_slice Try.underlying36 hv
  obtain ⟨fuel, hf⟩ := h
  rcases open_slice Try.underlying36 hf with ⟨hcs, _⟩ | ⟨a, len', cap', m, n, D, Pl, hcs, _, hl, hm, hmm, _, hx⟩
  · have e : Value.slice a0 len cap = .slice none 0 0 := by simpa [Value.cells] using hcs
    exact ⟨[], by unfold maxLen; simp, by simp, .inl ⟨rfl, none, 0, e⟩⟩
  · have e : Value.slice a0 len cap = .slice (some a) len' cap' := by simpa [Value.cells] using hcs
    injection e with e1 e2 e3
    subst e1; subst e2; subst e3
    rw [if_pos rfl] at hmm
    rw [cells_gu] at hx
    have each : ∀ i, i < m → ∃ g : Gu, g.ok ∧ W.cells? 0 (a.add (i * 3)) 3 = some g.cs := by
      intro i hi
      obtain ⟨cs', h1, h2⟩ := hx i hi
      obtain ⟨y0, y1, y2, n', _, hlen, t0, t1, t2⟩ := trod_struct3 Try.underlying69 h2
      rw [cells_gu] at hlen
      match cs', hlen with
      | [c0, c1, c2], _ =>
        obtain ⟨s, hs, _, ws⟩ := DataW.trod_string Try.underlying9 t0
        obtain ⟨i1, hi1, _, w1⟩ := DataW.trod_int Try.underlying3 t1
        obtain ⟨i2, hi2, _, w2⟩ := DataW.trod_int Try.underlying3 t2
        injection hs with hs _
        injection hi1 with hi1 _
        injection hi2 with hi2 _
        subst hs; subst hi1; subst hi2
        refine ⟨⟨s, i1, i2⟩, ⟨ws, ?_, ?_⟩, h1⟩
        · exact (Lit.wf_int_iff .i64 i1).1 w1
        · exact (Lit.wf_int_iff .i64 i2).1 w2
    obtain ⟨q, hq⟩ := choose_lt each
    have hlen : ((List.range len).map q).length = len := by simp
    refine ⟨(List.range len).map q, by rw [hlen]; omega, ?_, ?_⟩
    · intro g hg
      obtain ⟨j, hj, rfl⟩ := List.mem_map.1 hg
      exact (hq j (by have := List.mem_range.1 hj; omega)).1
    · by_cases h0 : len = 0
      · refine .inl ⟨by rw [h0]; rfl, some a, cap, by rw [h0]⟩
      · obtain ⟨b, off, spot⟩ := a
        have hcell := (World.cells?_some (hq 0 (by omega)).2).2.2 0 (by omega)
        have hspot : spot = none := by simpa [Addr.add] using World.cell?_spot (hcell.trans rfl)
        subst hspot
        refine .inr ⟨b, off, cap, by rw [hlen], ?_, fun j hj i v hv => ?_⟩
        · have := World.block_lt_of_cell? _ _ (hcell.trans rfl)
          simpa [Addr.add] using this
        · have hi3 : i < 3 := (List.getElem?_eq_some_iff.1 hv).1
          have h9 := (World.cells?_some (hq j (by omega)).2).2.2 i hi3
          rw [Go.WideShapes.add_plain, Go.WideShapes.add_plain] at h9
          rw [h9, ← hv]
          simp

end Go.Proofs.Ytmpajijnpoekgaa
