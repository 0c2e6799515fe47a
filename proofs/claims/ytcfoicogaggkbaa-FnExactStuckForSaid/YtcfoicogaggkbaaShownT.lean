/- Texts shown with dead and stuck letters: the program's way and its model's. No conditions. -/
import Derived.Test.YtcfoicogaggkbaaShown3
namespace Go.Proofs.Ytcfoicogaggkbaa
open Go.RowKit

theorem disj_symm (d s : List UInt8) : disj d s = disj s d := by
  have h : ∀ a b : List UInt8, disj a b = true → disj b a = true := by
    intro a b h
    unfold disj at h ⊢
    rw [List.all_eq_true] at h ⊢
    intro c hc
    cases hb : hasB b c
    · rfl
    · have := h c (hasB_mem.1 hb)
      rw [hasB_mem.2 hc] at this
      cases this
  cases h1 : disj d s
  · cases h2 : disj s d
    · rfl
    · rw [h _ _ h2] at h1; cases h1
  · exact (h _ _ h1).symm
def shOk (t d s : ByteArray) : Bool := isT 20 t && (isLs d && (isLs s && disj d.data.toList s.data.toList))
def shV (t d s : ByteArray) : ByteArray := if shOk t d s then tB (shw (by2 (hasB d.data.toList) (hasB s.data.toList)) t.data.toList) else ⟨#[]⟩
theorem shV_no {t d s : ByteArray} (h : shOk t d s = false) : shV t d s = ⟨#[]⟩ := by unfold shV; rw [h]; rfl
theorem shV_yes {t d s : ByteArray} (h : shOk t d s = true) : shV t d s = tB (shw (by2 (hasB d.data.toList) (hasB s.data.toList)) t.data.toList) := by unfold shV; rw [h]; rfl
theorem shOk_t {t d s : ByteArray} (h : isT 20 t = false) : shOk t d s = false := by unfold shOk; rw [h]; rfl
theorem shOk_d {t d s : ByteArray} (h : isLs d = false) : shOk t d s = false := by unfold shOk; rw [h]; simp
theorem shOk_s {t d s : ByteArray} (h : isLs s = false) : shOk t d s = false := by unfold shOk; rw [h]; simp
theorem shOk_j {t d s : ByteArray} (h : disj d.data.toList s.data.toList = false) : shOk t d s = false := by unfold shOk; rw [h]; simp
theorem shOk_y {t d s : ByteArray} (h : isT 20 t = true) (h2 : isLs d = true) (h3 : isLs s = true) (h4 : disj d.data.toList s.data.toList = true) : shOk t d s = true := by unfold shOk; rw [h, h2, h3, h4]; rfl