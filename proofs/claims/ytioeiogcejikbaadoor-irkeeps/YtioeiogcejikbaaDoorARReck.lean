/- From stage 5: RReck. -/
import Derived.Test.YtioeiogcejikbaaDoorAAlu
namespace Go.Proofs.YtioeiogcejikbaaDoor.Alu
open Go.RowKit
set_option linter.unusedVariables false
set_option linter.unusedSimpArgs false
set_option maxRecDepth 8000

set_option linter.unusedVariables false
theorem kind_cases {k : Int} (h : kindB k = true) : k = 1 ∨ k = 2 ∨ k = 3 ∨ k = 4 ∨ k = 5 ∨ k = 6 ∨ k = 7 ∨ k = 8 ∨ k = 9 ∨ k = 10 ∨ k = 11 ∨ k = 12 ∨ k = 13 ∨ k = 14 ∨ k = 15 := by
  have : 1 ≤ k ∧ k ≤ 15 := by simpa [kindB] using h
  omega
theorem reckonV_none {k a b : Int} (h : kindB k = false) : reckonV k a b = 0 := by
  have hn : ¬ (1 ≤ k ∧ k ≤ 15) := by simpa [kindB] using h
  unfold reckonV
  repeat rw [if_neg (by omega)]
end Go.Proofs.YtioeiogcejikbaaDoor.Alu
