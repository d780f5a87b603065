/- From stage 5: Way. -/
import Derived.Test.YtilhjbhhgpoajaaXd
import Derived.Test.YtilhjbhhgpoajaaBx
namespace Go.Proofs.Ytilhjbhhgpoajaa.Alu
open Go.RowKit
set_option linter.unusedVariables false
set_option linter.unusedSimpArgs false
set_option maxRecDepth 8000

theorem aggF (w : World) : (isAgg 69).run Try.prog w = .ok false w := by simp [isAgg, run_underlying Try.underlying69]
def ways : Array Value := #[.nilFunc, .func (.func 43) #[] #[], .func (.func 44) #[] #[], .func (.func 45) #[] #[], .func (.func 46) #[] #[], .func (.func 47) #[] #[], .func (.func 48) #[] #[], .func (.func 49) #[] #[], .func (.func 50) #[] #[], .func (.func 51) #[] #[], .func (.func 52) #[] #[], .func (.func 53) #[] #[], .func (.func 54) #[] #[], .func (.func 55) #[] #[], .func (.func 56) #[] #[], .func (.func 57) #[] #[]]
theorem ways_info : (Try.prog.info? 84).map (·.size) = some ways.size := by kernel_rfl
theorem ways_one : ways.all (·.oneCell') = true := by simp [ways, Value.oneCell']
set_option maxHeartbeats 1000000 in
theorem way_c (k : Int) (v : Value) (h0 : 0 ≤ k) (h1 : k ≤ 15) (hv : ways[k.toNat]? = some v) (w : World) :
    Calls Try.prog 30 #[.int .i64 k] w fun e w' => e = .returned v ∧ Below w.heap.size w w' := by
  have H := has_none w
  go_enter Try.func30, Try.ntmps30
  go_wp2_with (first | ((with_reducible refine wpList_store_new H rfl 84 _ _ rfl ways rfl rfl ways_info ?_ ways_one ?_); (focus rfl); intro w2 H; try simp only [Act.put]) | ((with_reducible refine wpList_load_cell rfl 69 _ rfl _ _ rfl _ (H.at List.mem_cons_self _ _ hv) (aggF _) ?_); simp only [Act.put, List.setIfInBounds_toArray, List.set_cons_succ, List.set_cons_zero]))
  go_ret
  exact ⟨rfl, H.below⟩
end Go.Proofs.Ytilhjbhhgpoajaa.Alu
