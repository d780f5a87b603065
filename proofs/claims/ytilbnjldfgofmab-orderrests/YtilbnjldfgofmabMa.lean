/- What the document tells of any operation: may the block be left there. -/
import Derived.Test.YtilbnjldfgofmabDn
namespace Go.Proofs.Ytilbnjldfgofmab
open Go.RowKit
set_option linter.unusedVariables false
set_option linter.unusedSimpArgs false
set_option maxRecDepth 8000

set_option maxHeartbeats 2000000 in
theorem has_none64 {k : Int} (h : isK k = false) : hasP k 64 = false := by
  have : k.toNat = 0 ∨ 18 < k.toNat := by
    unfold isK at h
    simp only [Bool.and_eq_false_iff, decide_eq_false_iff_not] at h
    omega
  unfold hasP partsV
  rw [prt_none this]
  decide +kernel
theorem leav_has (k : Int) : leavB k = hasP k 64 := by
  cases h : isK k with
  | true =>
    rcases isK_cases h with rfl | rfl | rfl | rfl | rfl | rfl | rfl | rfl | rfl | rfl | rfl | rfl | rfl | rfl | rfl | rfl | rfl | rfl <;> decide +kernel
  | false =>
    rw [has_none64 h]
    have hn : ∀ j : Int, isK j = true → (k == j) = false := fun j hj => by
      cases hh : k == j with
      | false => rfl
      | true => rw [beq_iff_eq] at hh; rw [hh, hj] at h; cases h
    unfold leavB accB
    rw [hn 9 (by decide), hn 10 (by decide), hn 11 (by decide), hn 12 (by decide)]
    simp only [isK, Bool.and_eq_false_iff, decide_eq_false_iff_not] at h
    simp only [Bool.or_false, Bool.false_or, Bool.and_eq_false_iff, decide_eq_false_iff_not]
    omega
end Go.Proofs.Ytilbnjldfgofmab
