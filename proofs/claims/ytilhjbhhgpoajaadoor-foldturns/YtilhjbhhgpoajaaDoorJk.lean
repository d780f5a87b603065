/- New: what it answers, plainly. -/
import Derived.Test.YtilhjbhhgpoajaaDoorXj
namespace Go.Proofs.YtilhjbhhgpoajaaDoor
open Go.RowKit
set_option linter.unusedVariables false
set_option linter.unusedSimpArgs false
set_option maxRecDepth 8000

section
theorem blk_one (pc words el : Int) (v : Value) (hv : v.oneCell' = true) : (blA pc words el v).all (·.oneCell') = true := by
  have hi : ∀ k n, (Value.int k n).oneCell' = true := fun _ _ => rfl
  simp [hv, hi]
end
end Go.Proofs.YtilhjbhhgpoajaaDoor
