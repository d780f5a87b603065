/- Whether places lie in a word: contracts. -/
import Derived.Test.YtcmilajlngnibaaBLeaf
namespace Go.Proofs.Ytcmilajlngnibaa
open Go.RowKit

set_option maxHeartbeats 400000 in
theorem inWord_c (a m : Int) (w : World) :
    Calls Try.prog 89 #[.int .i64 a, .int .i64 m] w fun e w' => e = .returned (.bool (inWordB a m)) ∧ w' = w := by
  go_enter Try.func89, Try.ntmps89
  go_wp2
  all_goals (go_ret; refine ⟨ret_bool ?_, rfl⟩; unfold inWordB; first | (rw [eq_comm, decide_eq_false_iff_not]; omega) | (rw [decide_eq_decide]; omega))

set_option maxHeartbeats 400000 in
theorem inNum_c (m : Int) (w : World) :
    Calls Try.prog 91 #[.int .i64 m] w fun e w' => e = .returned (.bool (inNumB m)) ∧ w' = w := by
  go_enter Try.func91, Try.ntmps91
  go_wp2
  all_goals (go_ret; refine ⟨ret_bool ?_, rfl⟩; unfold inNumB; first | (rw [eq_comm, decide_eq_false_iff_not]; omega) | (rw [decide_eq_decide]; omega))

set_option maxHeartbeats 400000 in
theorem lowWord_c (k : Int) (hk : 0 ≤ k) (hk2 : k ≤ 32) (w : World) :
    Calls Try.prog 90 #[.int .i64 k] w fun e w' => e = .returned (.int .u32 (lowWordF k)) ∧ w' = w := by
  go_enter Try.func90, Try.ntmps90
  go_wp2
  go_ret
  exact ⟨ret_int (lowWord_walk k hk2), rfl⟩

end Go.Proofs.Ytcmilajlngnibaa
