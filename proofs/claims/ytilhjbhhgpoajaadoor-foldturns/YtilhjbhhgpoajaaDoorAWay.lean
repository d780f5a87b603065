/- From stage 5: Way. -/
import Derived.Test.YtilhjbhhgpoajaaDoorXd
import Derived.Test.YtilhjbhhgpoajaaDoorBx
namespace Go.Proofs.YtilhjbhhgpoajaaDoor.Alu
open Go.RowKit
set_option linter.unusedVariables false
set_option linter.unusedSimpArgs false
set_option maxRecDepth 8000

theorem aggF (w : World) : (isAgg 87).run Tryd.prog w = .ok false w := by simp [isAgg, run_underlying Tryd.underlying87]
def ways : Array Value := #[.nilFunc, .func (.func 54) #[] #[], .func (.func 55) #[] #[], .func (.func 56) #[] #[], .func (.func 57) #[] #[], .func (.func 58) #[] #[], .func (.func 59) #[] #[], .func (.func 60) #[] #[], .func (.func 61) #[] #[], .func (.func 62) #[] #[], .func (.func 63) #[] #[], .func (.func 64) #[] #[], .func (.func 65) #[] #[], .func (.func 66) #[] #[], .func (.func 67) #[] #[], .func (.func 68) #[] #[]]
theorem ways_info : (Tryd.prog.info? 98).map (·.size) = some ways.size := by kernel_rfl
theorem ways_one : ways.all (·.oneCell') = true := by simp [ways, Value.oneCell']
set_option maxHeartbeats 1000000 in
theorem way_c (k : Int) (v : Value) (h0 : 0 ≤ k) (h1 : k ≤ 15) (hv : ways[k.toNat]? = some v) (w : World) :
    Calls Tryd.prog 48 #[.int .i64 k] w fun e w' => e = .returned v ∧ Below w.heap.size w w' := by
  have H := has_none w
  go_enter Tryd.func48, Tryd.ntmps48
  go_wp2_with (first | ((with_reducible refine wpList_store_new H rfl 98 _ _ rfl ways rfl rfl ways_info ?_ ways_one ?_); (focus rfl); intro w2 H; try simp only [Act.put]) | ((with_reducible refine wpList_load_cell rfl 87 _ rfl _ _ rfl _ (H.at List.mem_cons_self _ _ hv) (aggF _) ?_); simp only [Act.put, List.setIfInBounds_toArray, List.set_cons_succ, List.set_cons_zero]))
  go_ret
  exact ⟨rfl, H.below⟩
end Go.Proofs.YtilhjbhhgpoajaaDoor.Alu
