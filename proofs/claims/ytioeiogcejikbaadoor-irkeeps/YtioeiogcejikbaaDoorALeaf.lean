/- From stage 5: Leaf. -/
import Derived.Test.YtioeiogcejikbaaDoorAPlain
namespace Go.Proofs.YtioeiogcejikbaaDoor.Alu
open Go.RowKit
set_option linter.unusedVariables false
set_option linter.unusedSimpArgs false
set_option maxRecDepth 8000

theorem ret_bool {a b : Bool} (h : a = b) : Ending.returned (.bool a) = .returned (.bool b) := by rw [h]
theorem ret_two {k l : IntKind} {a b c d : Int} (h : a = b) (h' : c = d) : Ending.returned (.tuple #[.int k a, .int l c]) = .returned (.tuple #[.int k b, .int l d]) := by rw [h, h']
theorem ret_int {k : IntKind} {a b : Int} (h : a = b) : Ending.returned (.int k a) = .returned (.int k b) := by rw [h]

set_option maxHeartbeats 400000 in
theorem inNum_c (m : Int) (w : World) :
    Calls Tryd.prog 86 #[.int .i64 m] w fun e w' => e = .returned (.bool (inNumB m)) ∧ w' = w := by
  go_enter Tryd.func86, Tryd.ntmps86
  go_wp2
  all_goals (go_ret; refine ⟨ret_bool ?_, rfl⟩; unfold inNumB; first | (rw [eq_comm, decide_eq_false_iff_not]; omega) | (rw [decide_eq_decide]; omega))

set_option maxHeartbeats 400000 in
theorem low_c (k : Int) (hk : 0 ≤ k) (w : World) :
    Calls Tryd.prog 87 #[.int .i64 k] w fun e w' => e = .returned (.int .u64 (lowF k)) ∧ w' = w := by
  go_enter Tryd.func87, Tryd.ntmps87
  go_wp2
  go_ret
  exact ⟨ret_int (low_walk k), rfl⟩
end Go.Proofs.YtioeiogcejikbaaDoor.Alu
