/- Small laws of a right block. -/
import Derived.Test.YtejlmggfeejgpaaDoorKb
namespace Go.Proofs.YtejlmggfeejgpaaDoor
open Go.RowKit
set_option linter.unusedVariables false
set_option linter.unusedSimpArgs false
set_option maxRecDepth 8000

theorem drop_at {l : List Opr} {k : Nat} (h : k < l.length) : l.drop k = opAt l k :: l.drop (k + 1) := by
  rw [List.drop_eq_getElem_cons h]
  unfold opAt
  rw [List.getElem?_eq_getElem h]; rfl
section
variable {l : List Opr} {k : Nat}
theorem rng_x (h : okAt l k = true) (hk : (opAt l k).kind = 2 ∨ (opAt l k).kind = 3) : 0 ≤ (opAt l k).r ∧ (opAt l k).r ≤ 30 := by
  unfold okAt opB rangeB at h
  simp only [Bool.and_eq_true] at h
  have := h.1.2.2
  rw [if_pos hk] at this
  simpa using this
theorem rng_f (h : okAt l k = true) (hk : (opAt l k).kind = 6 ∨ (opAt l k).kind = 7) : 0 ≤ (opAt l k).r ∧ (opAt l k).r ≤ 3 := by
  unfold okAt opB rangeB at h
  simp only [Bool.and_eq_true] at h
  have := h.1.2.2
  rw [if_neg (by omega), if_pos hk] at this
  simpa using this
theorem kind_ok (h : okAt l k = true) : isK (opAt l k).kind = true := by
  unfold okAt at h
  simp only [Bool.and_eq_true] at h
  exact h.1.1.1
end
end Go.Proofs.YtejlmggfeejgpaaDoor
