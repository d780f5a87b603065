/- What an Op leaves to its fields: what the functions of package insn's file room give back, each for all that it is called with: contracts. -/
import Derived.Test.YtcmilajlngnibaaK06
import Derived.Test.YtcmilajlngnibaaK01
import Derived.Test.YtcmilajlngnibaaK05
import Derived.RegionTactic
import Derived.BigRegion
namespace Go.Proofs.Ytcmilajlngnibaa
open Go.RowKit Go.Rel

set_option maxHeartbeats 400000 in
theorem upTo_c (n : Int) (w : World) :
    Calls Try.prog 77 #[vI n] w fun e w' => e = .returned (.agg #[vI 0, vI n, vI 1]) ∧ w' = w.alloc (.cells #[vI 0, vI n, vI 1] 54) := by
  go_enter Try.func77, Try.ntmps77
  go_wp2
  exact bodyPost_ret (v := .agg #[vI 0, vI n, vI 1]) (by simp [results, Try.results77, go_sem]) rfl ⟨rfl, rfl⟩

set_option maxHeartbeats 400000 in
theorem branch_c (m : Int) (hm : m = 26 ∨ m = 19 ∨ m = 14) (w : World) :
    Calls Try.prog 87 #[vI m] w fun e w' => e = .returned (.agg #[vI (brS m).lo, vI (brS m).hi, vI (brS m).st]) ∧ w' = (w.alloc (.cells #[vI (brS m).lo, vI (brS m).hi, vI (brS m).st] 54)).drew := by
  rcases hm with rfl | rfl | rfl
  all_goals
    go_enter Try.func87, Try.ntmps87
    go_wp2
    go_region
    go_wp2
  · exact bodyPost_ret (v := (brS 26).val) (by simp [results, Try.results87, go_sem, brS]) rfl ⟨rfl, rfl⟩
  · exact bodyPost_ret (v := (brS 19).val) (by simp [results, Try.results87, go_sem, brS]) rfl ⟨rfl, rfl⟩
  · exact bodyPost_ret (v := (brS 14).val) (by simp [results, Try.results87, go_sem, brS]) rfl ⟨rfl, rfl⟩

set_option maxHeartbeats 4000000 in
theorem setRegisters_c (op : Int) (w : World) :
    Calls Try.prog 73 #[.pointer (some ⟨w.heap.size, 0, none⟩), vI op] (w.alloc (.cells #[vI 0, vI 0, vI 0, vI 0, vI 0, vI 0, vI 0, vI 0, vI 0, vI 0, vI 0, vI 0, vI 0, vI 0, vI 0, vI 0, vI 0, vI 0, vI 0, vI 0, vI 0, vI 0, vI 0, vI 0, vI 0, vI 0, vI 0, vI 0, vI 0, vI 0, .bool false, .bool false, .bool false, .bool false] 56)) fun e w' => e = .returned (.tuple #[]) ∧
      w' = ((w.alloc (.cells #[vI 0, vI (h31 (hasRd op)), vI (h1 (hasRd op)), vI 0, vI (h31 (hasRn op)), vI (h1 (hasRn op)), vI 0, vI (h31 (hasRm op)), vI (h1 (hasRm op)), vI 0, vI (h31 (hasRa op)), vI (h1 (hasRa op)), vI 0, vI 0, vI 0, vI 0, vI 0, vI 0, vI 0, vI 0, vI 0, vI 0, vI 0, vI 0, vI 0, vI 0, vI 0, vI 0, vI 0, vI 0, .bool false, .bool false, .bool false, .bool false] 56)).alloc (.cells #[vI 0, vI 31, vI 1] 54)).alloc (.cells #[vI 0, vI 31, vI 1] 54) := by
  go_enter Try.func73, Try.ntmps73
  repeat' (first | with_reducible refine then_exit ?_ | with_reducible refine then_normal ?_ | with_reducible refine inBlock_eq ?_ | with_reducible refine inBlock_ne rfl ?_ | with_reducible refine inBlock_normal ?_ | (go_at_call 77; refine (upTo_c _ _).mono ?_; rintro e w' ⟨rfl, rfl⟩; dsimp only) | go_step)
  all_goals (go_end0; refine ⟨rfl, ?_⟩; rename_i h; first | (obtain rfl := eq_of_beq h; rfl) | (simp only [hasRd, hasRn, hasRn2, hasRm, hasRa, h31, h1, cond_false, Bool.or_false, *]))
end Go.Proofs.Ytcmilajlngnibaa
