/- From stage 5: Way. -/
import Derived.Test.YtccmncecpmemaaaGreatDoorXd
import Derived.Test.YtccmncecpmemaaaGreatDoorBx
namespace Go.Proofs.YtccmncecpmemaaaGreatDoor.Alu
open Go.RowKit
set_option linter.unusedVariables false
set_option linter.unusedSimpArgs false
set_option maxRecDepth 8000

theorem aggF (w : World) : (isAgg 117).run Tryz.prog w = .ok false w := by simp [isAgg, run_underlying Tryz.underlying117]
def ways : Array Value := #[.nilFunc, .func (.func 94) #[] #[], .func (.func 95) #[] #[], .func (.func 96) #[] #[], .func (.func 97) #[] #[], .func (.func 98) #[] #[], .func (.func 99) #[] #[], .func (.func 100) #[] #[], .func (.func 101) #[] #[], .func (.func 102) #[] #[], .func (.func 103) #[] #[], .func (.func 104) #[] #[], .func (.func 105) #[] #[], .func (.func 106) #[] #[], .func (.func 107) #[] #[], .func (.func 108) #[] #[]]
theorem ways_info : (Tryz.prog.info? 135).map (·.size) = some ways.size := by kernel_rfl
theorem ways_one : ways.all (·.oneCell') = true := by simp [ways, Value.oneCell']
set_option maxHeartbeats 1000000 in
theorem way_c (k : Int) (v : Value) (h0 : 0 ≤ k) (h1 : k ≤ 15) (hv : ways[k.toNat]? = some v) (w : World) :
    Calls Tryz.prog 76 #[.int .i64 k] w fun e w' => e = .returned v ∧ Below w.heap.size w w' := by
  have H := has_none w
  go_enter Tryz.func76, Tryz.ntmps76
  go_wp2_with (first | ((with_reducible refine wpList_store_new H rfl 135 _ _ rfl ways rfl rfl ways_info ?_ ways_one ?_); (focus rfl); intro w2 H; try simp only [Act.put]) | ((with_reducible refine wpList_load_cell rfl 117 _ rfl _ _ rfl _ (H.at List.mem_cons_self _ _ hv) (aggF _) ?_); simp only [Act.put, List.setIfInBounds_toArray, List.set_cons_succ, List.set_cons_zero]))
  go_ret
  exact ⟨rfl, H.below⟩
end Go.Proofs.YtccmncecpmemaaaGreatDoor.Alu
