/- Small laws of what is no kind. -/
import Derived.Test.YtejlmggfeejgpaaDoorPa
namespace Go.Proofs.YtejlmggfeejgpaaDoor
open Go.RowKit
set_option linter.unusedVariables false
set_option linter.unusedSimpArgs false
set_option maxRecDepth 8000

theorem prt_none {k : Nat} (h : k = 0 ∨ 18 < k) : prt k = 0 := by
  unfold prt
  split <;> first | rfl | omega
theorem has_none64 {k : Int} (h : isK k = false) : hasP k 64 = false := by
  have : k.toNat = 0 ∨ 18 < k.toNat := by
    unfold isK at h
    simp only [Bool.and_eq_false_iff, decide_eq_false_iff_not] at h
    omega
  unfold hasP partsV
  rw [prt_none this]
  decide +kernel
end Go.Proofs.YtejlmggfeejgpaaDoor
