/- Reckon of package alu: the ways are found by their kinds, in an array of a call's own. -/
import Derived.Test.YtakmnbahogogiaaBox
namespace Go.Proofs.Ytakmnbahogogiaa
open Go.RowKit
def ways : Array Value := #[.nilFunc, .func (.func 30) #[] #[], .func (.func 31) #[] #[], .func (.func 32) #[] #[], .func (.func 33) #[] #[], .func (.func 34) #[] #[], .func (.func 35) #[] #[], .func (.func 36) #[] #[], .func (.func 37) #[] #[], .func (.func 38) #[] #[], .func (.func 39) #[] #[], .func (.func 40) #[] #[], .func (.func 41) #[] #[], .func (.func 42) #[] #[], .func (.func 43) #[] #[], .func (.func 44) #[] #[]]
theorem ways_info : (Try.prog.info? 64).map (·.size) = some ways.size := by kernel_rfl
theorem ways_one : ways.all (·.oneCell') = true := by simp [ways, Value.oneCell']
set_option maxHeartbeats 1000000 in
theorem way_c (k : Int) (v : Value) (h0 : 0 ≤ k) (h1 : k ≤ 15) (hv : ways[k.toNat]? = some v) (w : World) :
    Calls Try.prog 19 #[.int .i64 k] w fun e w' => e = .returned v ∧ Below w.heap.size w w' := by
  have H := has_none w
  go_enter Try.func19, Try.ntmps19
  go_wp2_with (first | ((with_reducible refine wpList_store_new H rfl 64 _ _ rfl ways rfl rfl ways_info ?_ ways_one ?_); (focus rfl); intro w2 H; try simp only [Act.put]) | ((with_reducible refine wpList_load_cell rfl 47 _ rfl _ _ rfl _ (H.at List.mem_cons_self _ _ hv) (agg47 _) ?_); simp only [Act.put, List.setIfInBounds_toArray, List.set_cons_succ, List.set_cons_zero]))
  go_ret
  exact ⟨rfl, H.below⟩
end Go.Proofs.Ytakmnbahogogiaa
