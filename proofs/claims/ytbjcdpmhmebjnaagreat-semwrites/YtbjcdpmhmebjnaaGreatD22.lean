/- Package trap: Pstate, May, vectorOf, wayOf, withPstate, Back: contracts, for every state. -/
import Derived.Test.YtbjcdpmhmebjnaaGreatD21
import Derived.Test.YtbjcdpmhmebjnaaGreatD18
import Derived.Test.YtbjcdpmhmebjnaaGreatD20
namespace Go.Proofs.YtbjcdpmhmebjnaaGreat
open Go.RowKit
set_option linter.unusedVariables false

set_option maxHeartbeats 1000000 in
theorem Pstate_c (c : Cor) (w : World) : Calls Tryz.prog 124 #[c.val] w fun e w' => e = .returned (vU (pstV c)) ∧ Below w.heap.size w w' := by
  have e1 := or_mask c
  have e2 := or_level c
  have e3 := or_both c
  go_enter Tryz.func124, Tryz.ntmps124
  go_upto_region 1 with fail
  have H := own_one c w
  generalize w.alloc (Obj.cells c.cells 26) = w1 at H ⊢
  go_wp2_with (first | ((with_reducible refine wpList_all H rfl _ rfl rfl (by first | exact List.mem_cons_self | exact List.mem_cons_of_mem _ (List.mem_cons_self) | exact List.mem_cons_of_mem _ (List.mem_cons_of_mem _ (List.mem_cons_self)) | exact List.mem_cons_of_mem _ (List.mem_cons_of_mem _ (List.mem_cons_of_mem _ (List.mem_cons_self))) | exact List.mem_cons_of_mem _ (List.mem_cons_of_mem _ (List.mem_cons_of_mem _ (List.mem_cons_of_mem _ (List.mem_cons_self)))) | exact List.mem_cons_of_mem _ (List.mem_cons_of_mem _ (List.mem_cons_of_mem _ (List.mem_cons_of_mem _ (List.mem_cons_of_mem _ (List.mem_cons_self))))) | exact List.mem_cons_of_mem _ (List.mem_cons_of_mem _ (List.mem_cons_of_mem _ (List.mem_cons_of_mem _ (List.mem_cons_of_mem _ (List.mem_cons_of_mem _ (List.mem_cons_self))))))) ?_); simp only [Act.put, List.setIfInBounds_toArray, List.set_cons_succ, List.set_cons_zero]) | ((with_reducible refine wpList_get0 H rfl _ _ rfl _ rfl (by decide) _ (by first | exact Cor.a33 _ | exact Cor.a34 _ | exact Cor.a35 _ | exact Cor.a36 _ | exact Cor.a37 _ | exact Cor.a38 _ | exact Cor.a39 _ | exact Cor.a40 _ | exact Cor.a41 _ | exact Cor.a42 _ | exact Cor.a43 _ | exact Cor.a44 _ | exact Cor.a45 _ | exact Cor.a46 _ | exact Cor.a47 _ | exact Cor.a48 _) ?_); simp only [Act.put, List.setIfInBounds_toArray, List.set_cons_succ, List.set_cons_zero]) | (go_at_call 192; refine (Nzcv_c _ _).mono ?_; rintro e w1 ⟨rfl, hb⟩; replace H := H.grow hb; clear hb; dsimp only))
  all_goals (go_ret; refine ⟨r_ret_int ?_, H.below⟩; simp_all [pstV])
set_option maxHeartbeats 1000000 in
theorem May_c (v : Int) (hv : Hid (U64 v)) (w : World) : Calls Tryz.prog 242 #[vU v] w fun e w' => e = .returned (.bool (mayB v)) ∧ w' = w := by
  have e1 := and_level hv.out
  go_enter Tryz.func242, Tryz.ntmps242
  go_wp2
  all_goals (go_ret; refine ⟨r_ret_bool ?_, rfl⟩; unfold mayB; simp_all)
set_option maxHeartbeats 1000000 in
theorem vectorOf_c (c : Cor) (w : World) : Calls Tryz.prog 125 #[c.val] w fun e w' => e = .returned (vU (vecV c)) ∧ Below w.heap.size w w' := by
  go_enter Tryz.func125, Tryz.ntmps125
  go_upto_region 1 with fail
  have H := own_one c w
  generalize w.alloc (Obj.cells c.cells 26) = w1 at H ⊢
  go_wp2_with (first | ((with_reducible refine wpList_all H rfl _ rfl rfl (by first | exact List.mem_cons_self | exact List.mem_cons_of_mem _ (List.mem_cons_self) | exact List.mem_cons_of_mem _ (List.mem_cons_of_mem _ (List.mem_cons_self)) | exact List.mem_cons_of_mem _ (List.mem_cons_of_mem _ (List.mem_cons_of_mem _ (List.mem_cons_self))) | exact List.mem_cons_of_mem _ (List.mem_cons_of_mem _ (List.mem_cons_of_mem _ (List.mem_cons_of_mem _ (List.mem_cons_self)))) | exact List.mem_cons_of_mem _ (List.mem_cons_of_mem _ (List.mem_cons_of_mem _ (List.mem_cons_of_mem _ (List.mem_cons_of_mem _ (List.mem_cons_self))))) | exact List.mem_cons_of_mem _ (List.mem_cons_of_mem _ (List.mem_cons_of_mem _ (List.mem_cons_of_mem _ (List.mem_cons_of_mem _ (List.mem_cons_of_mem _ (List.mem_cons_self))))))) ?_); simp only [Act.put, List.setIfInBounds_toArray, List.set_cons_succ, List.set_cons_zero]) | ((with_reducible refine wpList_get0 H rfl _ _ rfl _ rfl (by decide) _ (by first | exact Cor.a33 _ | exact Cor.a34 _ | exact Cor.a35 _ | exact Cor.a36 _ | exact Cor.a37 _ | exact Cor.a38 _ | exact Cor.a39 _ | exact Cor.a40 _ | exact Cor.a41 _ | exact Cor.a42 _ | exact Cor.a43 _ | exact Cor.a44 _ | exact Cor.a45 _ | exact Cor.a46 _ | exact Cor.a47 _ | exact Cor.a48 _) ?_); simp only [Act.put, List.setIfInBounds_toArray, List.set_cons_succ, List.set_cons_zero]))
  all_goals (go_ret; refine ⟨r_ret_int ?_, H.below⟩; simp_all [vecV, IntKind.wrap_u64])
set_option maxHeartbeats 1000000 in
theorem wayOf_c (k : Int) (w : World) : Calls Tryz.prog 53 #[r_vI k] w fun e w' => e = .returned (r_vI (wayV k)) ∧ w' = w := by
  go_enter Tryz.func53, Tryz.ntmps53
  go_wp2
  all_goals (go_ret; refine ⟨r_ret_int ?_, rfl⟩; simp_all [wayV])
set_option maxHeartbeats 1000000 in
theorem withPstate_c (c : Cor) (v : Int) (hv : Hid (U64 v)) (w : World) : Calls Tryz.prog 243 #[c.val, vU v] w fun e w' => e = .returned (withV c v).val ∧ Below w.heap.size w w' := by
  have e1 := and_level hv.out
  have e2 := and_7 hv.out
  unfold withV
  by_cases h5 : v % 32 = 5
  · rw [if_pos h5]
    go_enter Tryz.func243, Tryz.ntmps243
    go_upto_region 1 with fail
    generalize hW : (w.alloc (Obj.cells c.cells 26)).alloc _ = w1
    have H : Own w [(w.heap.size + 1, nilC), (w.heap.size, c)] w1 := by rw [← hW]; exact own_two c w _ (by kernel_rfl)
    clear hW
    go_wp2_with (first | ((with_reducible refine wpList_all H rfl _ rfl rfl (by first | exact List.mem_cons_self | exact List.mem_cons_of_mem _ (List.mem_cons_self) | exact List.mem_cons_of_mem _ (List.mem_cons_of_mem _ (List.mem_cons_self)) | exact List.mem_cons_of_mem _ (List.mem_cons_of_mem _ (List.mem_cons_of_mem _ (List.mem_cons_self))) | exact List.mem_cons_of_mem _ (List.mem_cons_of_mem _ (List.mem_cons_of_mem _ (List.mem_cons_of_mem _ (List.mem_cons_self)))) | exact List.mem_cons_of_mem _ (List.mem_cons_of_mem _ (List.mem_cons_of_mem _ (List.mem_cons_of_mem _ (List.mem_cons_of_mem _ (List.mem_cons_self))))) | exact List.mem_cons_of_mem _ (List.mem_cons_of_mem _ (List.mem_cons_of_mem _ (List.mem_cons_of_mem _ (List.mem_cons_of_mem _ (List.mem_cons_of_mem _ (List.mem_cons_self))))))) ?_); simp only [Act.put, List.setIfInBounds_toArray, List.set_cons_succ, List.set_cons_zero]) | ((with_reducible refine wpList_get0 H rfl _ _ rfl _ rfl (by decide) _ (by first | exact Cor.a33 _ | exact Cor.a34 _ | exact Cor.a35 _ | exact Cor.a36 _ | exact Cor.a37 _ | exact Cor.a38 _ | exact Cor.a39 _ | exact Cor.a40 _ | exact Cor.a41 _ | exact Cor.a42 _ | exact Cor.a43 _ | exact Cor.a44 _ | exact Cor.a45 _ | exact Cor.a46 _ | exact Cor.a47 _ | exact Cor.a48 _) ?_); simp only [Act.put, List.setIfInBounds_toArray, List.set_cons_succ, List.set_cons_zero]) | ((with_reducible refine wpList_get1 H rfl _ _ rfl _ rfl (by decide) _ (by first | exact Cor.a33 _ | exact Cor.a34 _ | exact Cor.a35 _ | exact Cor.a36 _ | exact Cor.a37 _ | exact Cor.a38 _ | exact Cor.a39 _ | exact Cor.a40 _ | exact Cor.a41 _ | exact Cor.a42 _ | exact Cor.a43 _ | exact Cor.a44 _ | exact Cor.a45 _ | exact Cor.a46 _ | exact Cor.a47 _ | exact Cor.a48 _) ?_); simp only [Act.put, List.setIfInBounds_toArray, List.set_cons_succ, List.set_cons_zero]) | ((with_reducible refine wpList_get2 H rfl _ _ rfl _ rfl (by decide) _ (by first | exact Cor.a33 _ | exact Cor.a34 _ | exact Cor.a35 _ | exact Cor.a36 _ | exact Cor.a37 _ | exact Cor.a38 _ | exact Cor.a39 _ | exact Cor.a40 _ | exact Cor.a41 _ | exact Cor.a42 _ | exact Cor.a43 _ | exact Cor.a44 _ | exact Cor.a45 _ | exact Cor.a46 _ | exact Cor.a47 _ | exact Cor.a48 _) ?_); simp only [Act.put, List.setIfInBounds_toArray, List.set_cons_succ, List.set_cons_zero]) | ((with_reducible refine wpList_layI0 H rfl _ _ _ rfl _ rfl (by decide) _ _ rfl _ (by decide) (by first | exact Cor.s33 _ _ | exact Cor.s40 _ _ | exact Cor.s41 _ _ | exact Cor.s42 _ _ | exact Cor.s43 _ _ | exact Cor.s38 _ _ | exact Cor.s47 _ _ | exact Cor.s44 _ _ | exact Cor.s45 _ _ | exact Cor.s46 _ _) ?_); intro w2 H; simp only [Act.put]) | ((with_reducible refine wpList_layB0 H rfl _ _ _ rfl _ rfl (by decide) _ rfl _ (by decide) (by first | exact Cor.s39 _ _ | exact Cor.s48 _ _ | exact Cor.s34 _ _ | exact Cor.s35 _ _ | exact Cor.s36 _ _ | exact Cor.s37 _ _) ?_); intro w2 H; simp only [Act.put]) | ((with_reducible refine wpList_layI1 H rfl _ _ _ rfl _ rfl (by decide) _ _ rfl _ (by decide) (by first | exact Cor.s33 _ _ | exact Cor.s40 _ _ | exact Cor.s41 _ _ | exact Cor.s42 _ _ | exact Cor.s43 _ _ | exact Cor.s38 _ _ | exact Cor.s47 _ _ | exact Cor.s44 _ _ | exact Cor.s45 _ _ | exact Cor.s46 _ _) ?_); intro w2 H; simp only [Act.put]) | ((with_reducible refine wpList_layB1 H rfl _ _ _ rfl _ rfl (by decide) _ rfl _ (by decide) (by first | exact Cor.s39 _ _ | exact Cor.s48 _ _ | exact Cor.s34 _ _ | exact Cor.s35 _ _ | exact Cor.s36 _ _ | exact Cor.s37 _ _) ?_); intro w2 H; simp only [Act.put]) | ((with_reducible refine wpList_layI2 H rfl _ _ _ rfl _ rfl (by decide) _ _ rfl _ (by decide) (by first | exact Cor.s33 _ _ | exact Cor.s40 _ _ | exact Cor.s41 _ _ | exact Cor.s42 _ _ | exact Cor.s43 _ _ | exact Cor.s38 _ _ | exact Cor.s47 _ _ | exact Cor.s44 _ _ | exact Cor.s45 _ _ | exact Cor.s46 _ _) ?_); intro w2 H; simp only [Act.put]) | ((with_reducible refine wpList_layB2 H rfl _ _ _ rfl _ rfl (by decide) _ rfl _ (by decide) (by first | exact Cor.s39 _ _ | exact Cor.s48 _ _ | exact Cor.s34 _ _ | exact Cor.s35 _ _ | exact Cor.s36 _ _ | exact Cor.s37 _ _) ?_); intro w2 H; simp only [Act.put]) | ((with_reducible refine wpList_row0 H rfl _ _ rfl rfl _ rfl ?_); intro w2 H; simp only [Act.put]) | ((with_reducible refine wpList_row1 H rfl _ _ rfl rfl _ rfl ?_); intro w2 H; simp only [Act.put]) | ((with_reducible refine wpList_row2 H rfl _ _ rfl rfl _ rfl ?_); intro w2 H; simp only [Act.put]) | ((with_reducible refine wpList_new H rfl _ _ rfl _ rfl rfl ?_ ?_); (focus rfl); intro w2 H; simp only [Act.put]) | ((with_reducible refine wpList_build_nil rfl rfl ?_); simp only [Act.put, List.setIfInBounds_toArray, List.set_cons_succ, List.set_cons_zero]) | (go_at_call 241; refine (SetNzcv_c _ _ hv _).mono ?_; rintro e w1 ⟨rfl, hb⟩; replace H := H.grow hb; clear hb; dsimp only))
    refine bodyPost_ret (back_one rfl _ _ _ _ _ _ rfl (H.get (by first | exact List.mem_cons_self | exact List.mem_cons_of_mem _ (List.mem_cons_self) | exact List.mem_cons_of_mem _ (List.mem_cons_of_mem _ (List.mem_cons_self)) | exact List.mem_cons_of_mem _ (List.mem_cons_of_mem _ (List.mem_cons_of_mem _ (List.mem_cons_self))) | exact List.mem_cons_of_mem _ (List.mem_cons_of_mem _ (List.mem_cons_of_mem _ (List.mem_cons_of_mem _ (List.mem_cons_self)))) | exact List.mem_cons_of_mem _ (List.mem_cons_of_mem _ (List.mem_cons_of_mem _ (List.mem_cons_of_mem _ (List.mem_cons_of_mem _ (List.mem_cons_self))))) | exact List.mem_cons_of_mem _ (List.mem_cons_of_mem _ (List.mem_cons_of_mem _ (List.mem_cons_of_mem _ (List.mem_cons_of_mem _ (List.mem_cons_of_mem _ (List.mem_cons_self))))))))) rfl ?_
    exact ⟨rfl, H.below⟩
  · rw [if_neg h5]
    go_enter Tryz.func243, Tryz.ntmps243
    go_upto_region 1 with fail
    generalize hW : (w.alloc (Obj.cells c.cells 26)).alloc _ = w1
    have H : Own w [(w.heap.size + 1, nilC), (w.heap.size, c)] w1 := by rw [← hW]; exact own_two c w _ (by kernel_rfl)
    clear hW
    go_wp2_with (first | ((with_reducible refine wpList_all H rfl _ rfl rfl (by first | exact List.mem_cons_self | exact List.mem_cons_of_mem _ (List.mem_cons_self) | exact List.mem_cons_of_mem _ (List.mem_cons_of_mem _ (List.mem_cons_self)) | exact List.mem_cons_of_mem _ (List.mem_cons_of_mem _ (List.mem_cons_of_mem _ (List.mem_cons_self))) | exact List.mem_cons_of_mem _ (List.mem_cons_of_mem _ (List.mem_cons_of_mem _ (List.mem_cons_of_mem _ (List.mem_cons_self)))) | exact List.mem_cons_of_mem _ (List.mem_cons_of_mem _ (List.mem_cons_of_mem _ (List.mem_cons_of_mem _ (List.mem_cons_of_mem _ (List.mem_cons_self))))) | exact List.mem_cons_of_mem _ (List.mem_cons_of_mem _ (List.mem_cons_of_mem _ (List.mem_cons_of_mem _ (List.mem_cons_of_mem _ (List.mem_cons_of_mem _ (List.mem_cons_self))))))) ?_); simp only [Act.put, List.setIfInBounds_toArray, List.set_cons_succ, List.set_cons_zero]) | ((with_reducible refine wpList_get0 H rfl _ _ rfl _ rfl (by decide) _ (by first | exact Cor.a33 _ | exact Cor.a34 _ | exact Cor.a35 _ | exact Cor.a36 _ | exact Cor.a37 _ | exact Cor.a38 _ | exact Cor.a39 _ | exact Cor.a40 _ | exact Cor.a41 _ | exact Cor.a42 _ | exact Cor.a43 _ | exact Cor.a44 _ | exact Cor.a45 _ | exact Cor.a46 _ | exact Cor.a47 _ | exact Cor.a48 _) ?_); simp only [Act.put, List.setIfInBounds_toArray, List.set_cons_succ, List.set_cons_zero]) | ((with_reducible refine wpList_get1 H rfl _ _ rfl _ rfl (by decide) _ (by first | exact Cor.a33 _ | exact Cor.a34 _ | exact Cor.a35 _ | exact Cor.a36 _ | exact Cor.a37 _ | exact Cor.a38 _ | exact Cor.a39 _ | exact Cor.a40 _ | exact Cor.a41 _ | exact Cor.a42 _ | exact Cor.a43 _ | exact Cor.a44 _ | exact Cor.a45 _ | exact Cor.a46 _ | exact Cor.a47 _ | exact Cor.a48 _) ?_); simp only [Act.put, List.setIfInBounds_toArray, List.set_cons_succ, List.set_cons_zero]) | ((with_reducible refine wpList_get2 H rfl _ _ rfl _ rfl (by decide) _ (by first | exact Cor.a33 _ | exact Cor.a34 _ | exact Cor.a35 _ | exact Cor.a36 _ | exact Cor.a37 _ | exact Cor.a38 _ | exact Cor.a39 _ | exact Cor.a40 _ | exact Cor.a41 _ | exact Cor.a42 _ | exact Cor.a43 _ | exact Cor.a44 _ | exact Cor.a45 _ | exact Cor.a46 _ | exact Cor.a47 _ | exact Cor.a48 _) ?_); simp only [Act.put, List.setIfInBounds_toArray, List.set_cons_succ, List.set_cons_zero]) | ((with_reducible refine wpList_layI0 H rfl _ _ _ rfl _ rfl (by decide) _ _ rfl _ (by decide) (by first | exact Cor.s33 _ _ | exact Cor.s40 _ _ | exact Cor.s41 _ _ | exact Cor.s42 _ _ | exact Cor.s43 _ _ | exact Cor.s38 _ _ | exact Cor.s47 _ _ | exact Cor.s44 _ _ | exact Cor.s45 _ _ | exact Cor.s46 _ _) ?_); intro w2 H; simp only [Act.put]) | ((with_reducible refine wpList_layB0 H rfl _ _ _ rfl _ rfl (by decide) _ rfl _ (by decide) (by first | exact Cor.s39 _ _ | exact Cor.s48 _ _ | exact Cor.s34 _ _ | exact Cor.s35 _ _ | exact Cor.s36 _ _ | exact Cor.s37 _ _) ?_); intro w2 H; simp only [Act.put]) | ((with_reducible refine wpList_layI1 H rfl _ _ _ rfl _ rfl (by decide) _ _ rfl _ (by decide) (by first | exact Cor.s33 _ _ | exact Cor.s40 _ _ | exact Cor.s41 _ _ | exact Cor.s42 _ _ | exact Cor.s43 _ _ | exact Cor.s38 _ _ | exact Cor.s47 _ _ | exact Cor.s44 _ _ | exact Cor.s45 _ _ | exact Cor.s46 _ _) ?_); intro w2 H; simp only [Act.put]) | ((with_reducible refine wpList_layB1 H rfl _ _ _ rfl _ rfl (by decide) _ rfl _ (by decide) (by first | exact Cor.s39 _ _ | exact Cor.s48 _ _ | exact Cor.s34 _ _ | exact Cor.s35 _ _ | exact Cor.s36 _ _ | exact Cor.s37 _ _) ?_); intro w2 H; simp only [Act.put]) | ((with_reducible refine wpList_layI2 H rfl _ _ _ rfl _ rfl (by decide) _ _ rfl _ (by decide) (by first | exact Cor.s33 _ _ | exact Cor.s40 _ _ | exact Cor.s41 _ _ | exact Cor.s42 _ _ | exact Cor.s43 _ _ | exact Cor.s38 _ _ | exact Cor.s47 _ _ | exact Cor.s44 _ _ | exact Cor.s45 _ _ | exact Cor.s46 _ _) ?_); intro w2 H; simp only [Act.put]) | ((with_reducible refine wpList_layB2 H rfl _ _ _ rfl _ rfl (by decide) _ rfl _ (by decide) (by first | exact Cor.s39 _ _ | exact Cor.s48 _ _ | exact Cor.s34 _ _ | exact Cor.s35 _ _ | exact Cor.s36 _ _ | exact Cor.s37 _ _) ?_); intro w2 H; simp only [Act.put]) | ((with_reducible refine wpList_row0 H rfl _ _ rfl rfl _ rfl ?_); intro w2 H; simp only [Act.put]) | ((with_reducible refine wpList_row1 H rfl _ _ rfl rfl _ rfl ?_); intro w2 H; simp only [Act.put]) | ((with_reducible refine wpList_row2 H rfl _ _ rfl rfl _ rfl ?_); intro w2 H; simp only [Act.put]) | ((with_reducible refine wpList_new H rfl _ _ rfl _ rfl rfl ?_ ?_); (focus rfl); intro w2 H; simp only [Act.put]) | ((with_reducible refine wpList_build_nil rfl rfl ?_); simp only [Act.put, List.setIfInBounds_toArray, List.set_cons_succ, List.set_cons_zero]) | (go_at_call 241; refine (SetNzcv_c _ _ hv _).mono ?_; rintro e w1 ⟨rfl, hb⟩; replace H := H.grow hb; clear hb; dsimp only))
    refine bodyPost_ret (back_one rfl _ _ _ _ _ _ rfl (H.get (by first | exact List.mem_cons_self | exact List.mem_cons_of_mem _ (List.mem_cons_self) | exact List.mem_cons_of_mem _ (List.mem_cons_of_mem _ (List.mem_cons_self)) | exact List.mem_cons_of_mem _ (List.mem_cons_of_mem _ (List.mem_cons_of_mem _ (List.mem_cons_self))) | exact List.mem_cons_of_mem _ (List.mem_cons_of_mem _ (List.mem_cons_of_mem _ (List.mem_cons_of_mem _ (List.mem_cons_self)))) | exact List.mem_cons_of_mem _ (List.mem_cons_of_mem _ (List.mem_cons_of_mem _ (List.mem_cons_of_mem _ (List.mem_cons_of_mem _ (List.mem_cons_self))))) | exact List.mem_cons_of_mem _ (List.mem_cons_of_mem _ (List.mem_cons_of_mem _ (List.mem_cons_of_mem _ (List.mem_cons_of_mem _ (List.mem_cons_of_mem _ (List.mem_cons_self))))))))) rfl ?_
    exact ⟨rfl, H.below⟩
set_option maxHeartbeats 1000000 in
theorem Back_c (c : Cor) (hv : Hid (U64 c.spsr)) (w : World) : Calls Tryz.prog 208 #[c.val] w fun e w' => e = .returned (.tuple #[(backV c).val, r_vI (errB (rightC c))]) ∧ Below w.heap.size w w' := by
  unfold backV
  cases hr : rightC c with
  | false =>
    go_enter Tryz.func208, Tryz.ntmps208
    go_upto_region 1 with fail
    generalize hW : (w.alloc (Obj.cells c.cells 26)).alloc _ = w1
    have H : Own w [(w.heap.size + 1, nilC), (w.heap.size, c)] w1 := by rw [← hW]; exact own_two c w _ (by kernel_rfl)
    clear hW
    go_wp2_with (first | ((with_reducible refine wpList_all H rfl _ rfl rfl (by first | exact List.mem_cons_self | exact List.mem_cons_of_mem _ (List.mem_cons_self) | exact List.mem_cons_of_mem _ (List.mem_cons_of_mem _ (List.mem_cons_self)) | exact List.mem_cons_of_mem _ (List.mem_cons_of_mem _ (List.mem_cons_of_mem _ (List.mem_cons_self))) | exact List.mem_cons_of_mem _ (List.mem_cons_of_mem _ (List.mem_cons_of_mem _ (List.mem_cons_of_mem _ (List.mem_cons_self)))) | exact List.mem_cons_of_mem _ (List.mem_cons_of_mem _ (List.mem_cons_of_mem _ (List.mem_cons_of_mem _ (List.mem_cons_of_mem _ (List.mem_cons_self))))) | exact List.mem_cons_of_mem _ (List.mem_cons_of_mem _ (List.mem_cons_of_mem _ (List.mem_cons_of_mem _ (List.mem_cons_of_mem _ (List.mem_cons_of_mem _ (List.mem_cons_self))))))) ?_); simp only [Act.put, List.setIfInBounds_toArray, List.set_cons_succ, List.set_cons_zero]) | ((with_reducible refine wpList_get0 H rfl _ _ rfl _ rfl (by decide) _ (by first | exact Cor.a33 _ | exact Cor.a34 _ | exact Cor.a35 _ | exact Cor.a36 _ | exact Cor.a37 _ | exact Cor.a38 _ | exact Cor.a39 _ | exact Cor.a40 _ | exact Cor.a41 _ | exact Cor.a42 _ | exact Cor.a43 _ | exact Cor.a44 _ | exact Cor.a45 _ | exact Cor.a46 _ | exact Cor.a47 _ | exact Cor.a48 _) ?_); simp only [Act.put, List.setIfInBounds_toArray, List.set_cons_succ, List.set_cons_zero]) | ((with_reducible refine wpList_get1 H rfl _ _ rfl _ rfl (by decide) _ (by first | exact Cor.a33 _ | exact Cor.a34 _ | exact Cor.a35 _ | exact Cor.a36 _ | exact Cor.a37 _ | exact Cor.a38 _ | exact Cor.a39 _ | exact Cor.a40 _ | exact Cor.a41 _ | exact Cor.a42 _ | exact Cor.a43 _ | exact Cor.a44 _ | exact Cor.a45 _ | exact Cor.a46 _ | exact Cor.a47 _ | exact Cor.a48 _) ?_); simp only [Act.put, List.setIfInBounds_toArray, List.set_cons_succ, List.set_cons_zero]) | ((with_reducible refine wpList_get2 H rfl _ _ rfl _ rfl (by decide) _ (by first | exact Cor.a33 _ | exact Cor.a34 _ | exact Cor.a35 _ | exact Cor.a36 _ | exact Cor.a37 _ | exact Cor.a38 _ | exact Cor.a39 _ | exact Cor.a40 _ | exact Cor.a41 _ | exact Cor.a42 _ | exact Cor.a43 _ | exact Cor.a44 _ | exact Cor.a45 _ | exact Cor.a46 _ | exact Cor.a47 _ | exact Cor.a48 _) ?_); simp only [Act.put, List.setIfInBounds_toArray, List.set_cons_succ, List.set_cons_zero]) | ((with_reducible refine wpList_layI0 H rfl _ _ _ rfl _ rfl (by decide) _ _ rfl _ (by decide) (by first | exact Cor.s33 _ _ | exact Cor.s40 _ _ | exact Cor.s41 _ _ | exact Cor.s42 _ _ | exact Cor.s43 _ _ | exact Cor.s38 _ _ | exact Cor.s47 _ _ | exact Cor.s44 _ _ | exact Cor.s45 _ _ | exact Cor.s46 _ _) ?_); intro w2 H; simp only [Act.put]) | ((with_reducible refine wpList_layB0 H rfl _ _ _ rfl _ rfl (by decide) _ rfl _ (by decide) (by first | exact Cor.s39 _ _ | exact Cor.s48 _ _ | exact Cor.s34 _ _ | exact Cor.s35 _ _ | exact Cor.s36 _ _ | exact Cor.s37 _ _) ?_); intro w2 H; simp only [Act.put]) | ((with_reducible refine wpList_layI1 H rfl _ _ _ rfl _ rfl (by decide) _ _ rfl _ (by decide) (by first | exact Cor.s33 _ _ | exact Cor.s40 _ _ | exact Cor.s41 _ _ | exact Cor.s42 _ _ | exact Cor.s43 _ _ | exact Cor.s38 _ _ | exact Cor.s47 _ _ | exact Cor.s44 _ _ | exact Cor.s45 _ _ | exact Cor.s46 _ _) ?_); intro w2 H; simp only [Act.put]) | ((with_reducible refine wpList_layB1 H rfl _ _ _ rfl _ rfl (by decide) _ rfl _ (by decide) (by first | exact Cor.s39 _ _ | exact Cor.s48 _ _ | exact Cor.s34 _ _ | exact Cor.s35 _ _ | exact Cor.s36 _ _ | exact Cor.s37 _ _) ?_); intro w2 H; simp only [Act.put]) | ((with_reducible refine wpList_layI2 H rfl _ _ _ rfl _ rfl (by decide) _ _ rfl _ (by decide) (by first | exact Cor.s33 _ _ | exact Cor.s40 _ _ | exact Cor.s41 _ _ | exact Cor.s42 _ _ | exact Cor.s43 _ _ | exact Cor.s38 _ _ | exact Cor.s47 _ _ | exact Cor.s44 _ _ | exact Cor.s45 _ _ | exact Cor.s46 _ _) ?_); intro w2 H; simp only [Act.put]) | ((with_reducible refine wpList_layB2 H rfl _ _ _ rfl _ rfl (by decide) _ rfl _ (by decide) (by first | exact Cor.s39 _ _ | exact Cor.s48 _ _ | exact Cor.s34 _ _ | exact Cor.s35 _ _ | exact Cor.s36 _ _ | exact Cor.s37 _ _) ?_); intro w2 H; simp only [Act.put]) | ((with_reducible refine wpList_row0 H rfl _ _ rfl rfl _ rfl ?_); intro w2 H; simp only [Act.put]) | ((with_reducible refine wpList_row1 H rfl _ _ rfl rfl _ rfl ?_); intro w2 H; simp only [Act.put]) | ((with_reducible refine wpList_row2 H rfl _ _ rfl rfl _ rfl ?_); intro w2 H; simp only [Act.put]) | ((with_reducible refine wpList_new H rfl _ _ rfl _ rfl rfl ?_ ?_); (focus rfl); intro w2 H; simp only [Act.put]) | ((with_reducible refine wpList_build_nil rfl rfl ?_); simp only [Act.put, List.setIfInBounds_toArray, List.set_cons_succ, List.set_cons_zero]) | (go_at_call 21; refine (Right_c _ _).mono ?_; rw [hr]; rintro e w1 ⟨rfl, hb⟩; replace H := H.grow hb; clear hb; dsimp only))
    refine bodyPost_ret (back_two rfl _ _ _ _ _ _ rfl (H.get (by first | exact List.mem_cons_self | exact List.mem_cons_of_mem _ (List.mem_cons_self) | exact List.mem_cons_of_mem _ (List.mem_cons_of_mem _ (List.mem_cons_self)) | exact List.mem_cons_of_mem _ (List.mem_cons_of_mem _ (List.mem_cons_of_mem _ (List.mem_cons_self))) | exact List.mem_cons_of_mem _ (List.mem_cons_of_mem _ (List.mem_cons_of_mem _ (List.mem_cons_of_mem _ (List.mem_cons_self)))) | exact List.mem_cons_of_mem _ (List.mem_cons_of_mem _ (List.mem_cons_of_mem _ (List.mem_cons_of_mem _ (List.mem_cons_of_mem _ (List.mem_cons_self))))) | exact List.mem_cons_of_mem _ (List.mem_cons_of_mem _ (List.mem_cons_of_mem _ (List.mem_cons_of_mem _ (List.mem_cons_of_mem _ (List.mem_cons_of_mem _ (List.mem_cons_self))))))))) rfl ?_
    exact ⟨rfl, H.below⟩
  | true =>
    unfold backC
    cases hm : mayB c.spsr
    all_goals
      go_enter Tryz.func208, Tryz.ntmps208
      go_upto_region 1 with fail
      generalize hW : (w.alloc (Obj.cells c.cells 26)).alloc _ = w1
      have H : Own w [(w.heap.size + 1, nilC), (w.heap.size, c)] w1 := by rw [← hW]; exact own_two c w _ (by kernel_rfl)
      clear hW
      go_wp2_with (first | ((with_reducible refine wpList_all H rfl _ rfl rfl (by first | exact List.mem_cons_self | exact List.mem_cons_of_mem _ (List.mem_cons_self) | exact List.mem_cons_of_mem _ (List.mem_cons_of_mem _ (List.mem_cons_self)) | exact List.mem_cons_of_mem _ (List.mem_cons_of_mem _ (List.mem_cons_of_mem _ (List.mem_cons_self))) | exact List.mem_cons_of_mem _ (List.mem_cons_of_mem _ (List.mem_cons_of_mem _ (List.mem_cons_of_mem _ (List.mem_cons_self)))) | exact List.mem_cons_of_mem _ (List.mem_cons_of_mem _ (List.mem_cons_of_mem _ (List.mem_cons_of_mem _ (List.mem_cons_of_mem _ (List.mem_cons_self))))) | exact List.mem_cons_of_mem _ (List.mem_cons_of_mem _ (List.mem_cons_of_mem _ (List.mem_cons_of_mem _ (List.mem_cons_of_mem _ (List.mem_cons_of_mem _ (List.mem_cons_self))))))) ?_); simp only [Act.put, List.setIfInBounds_toArray, List.set_cons_succ, List.set_cons_zero]) | ((with_reducible refine wpList_get0 H rfl _ _ rfl _ rfl (by decide) _ (by first | exact Cor.a33 _ | exact Cor.a34 _ | exact Cor.a35 _ | exact Cor.a36 _ | exact Cor.a37 _ | exact Cor.a38 _ | exact Cor.a39 _ | exact Cor.a40 _ | exact Cor.a41 _ | exact Cor.a42 _ | exact Cor.a43 _ | exact Cor.a44 _ | exact Cor.a45 _ | exact Cor.a46 _ | exact Cor.a47 _ | exact Cor.a48 _) ?_); simp only [Act.put, List.setIfInBounds_toArray, List.set_cons_succ, List.set_cons_zero]) | ((with_reducible refine wpList_get1 H rfl _ _ rfl _ rfl (by decide) _ (by first | exact Cor.a33 _ | exact Cor.a34 _ | exact Cor.a35 _ | exact Cor.a36 _ | exact Cor.a37 _ | exact Cor.a38 _ | exact Cor.a39 _ | exact Cor.a40 _ | exact Cor.a41 _ | exact Cor.a42 _ | exact Cor.a43 _ | exact Cor.a44 _ | exact Cor.a45 _ | exact Cor.a46 _ | exact Cor.a47 _ | exact Cor.a48 _) ?_); simp only [Act.put, List.setIfInBounds_toArray, List.set_cons_succ, List.set_cons_zero]) | ((with_reducible refine wpList_get2 H rfl _ _ rfl _ rfl (by decide) _ (by first | exact Cor.a33 _ | exact Cor.a34 _ | exact Cor.a35 _ | exact Cor.a36 _ | exact Cor.a37 _ | exact Cor.a38 _ | exact Cor.a39 _ | exact Cor.a40 _ | exact Cor.a41 _ | exact Cor.a42 _ | exact Cor.a43 _ | exact Cor.a44 _ | exact Cor.a45 _ | exact Cor.a46 _ | exact Cor.a47 _ | exact Cor.a48 _) ?_); simp only [Act.put, List.setIfInBounds_toArray, List.set_cons_succ, List.set_cons_zero]) | ((with_reducible refine wpList_layI0 H rfl _ _ _ rfl _ rfl (by decide) _ _ rfl _ (by decide) (by first | exact Cor.s33 _ _ | exact Cor.s40 _ _ | exact Cor.s41 _ _ | exact Cor.s42 _ _ | exact Cor.s43 _ _ | exact Cor.s38 _ _ | exact Cor.s47 _ _ | exact Cor.s44 _ _ | exact Cor.s45 _ _ | exact Cor.s46 _ _) ?_); intro w2 H; simp only [Act.put]) | ((with_reducible refine wpList_layB0 H rfl _ _ _ rfl _ rfl (by decide) _ rfl _ (by decide) (by first | exact Cor.s39 _ _ | exact Cor.s48 _ _ | exact Cor.s34 _ _ | exact Cor.s35 _ _ | exact Cor.s36 _ _ | exact Cor.s37 _ _) ?_); intro w2 H; simp only [Act.put]) | ((with_reducible refine wpList_layI1 H rfl _ _ _ rfl _ rfl (by decide) _ _ rfl _ (by decide) (by first | exact Cor.s33 _ _ | exact Cor.s40 _ _ | exact Cor.s41 _ _ | exact Cor.s42 _ _ | exact Cor.s43 _ _ | exact Cor.s38 _ _ | exact Cor.s47 _ _ | exact Cor.s44 _ _ | exact Cor.s45 _ _ | exact Cor.s46 _ _) ?_); intro w2 H; simp only [Act.put]) | ((with_reducible refine wpList_layB1 H rfl _ _ _ rfl _ rfl (by decide) _ rfl _ (by decide) (by first | exact Cor.s39 _ _ | exact Cor.s48 _ _ | exact Cor.s34 _ _ | exact Cor.s35 _ _ | exact Cor.s36 _ _ | exact Cor.s37 _ _) ?_); intro w2 H; simp only [Act.put]) | ((with_reducible refine wpList_layI2 H rfl _ _ _ rfl _ rfl (by decide) _ _ rfl _ (by decide) (by first | exact Cor.s33 _ _ | exact Cor.s40 _ _ | exact Cor.s41 _ _ | exact Cor.s42 _ _ | exact Cor.s43 _ _ | exact Cor.s38 _ _ | exact Cor.s47 _ _ | exact Cor.s44 _ _ | exact Cor.s45 _ _ | exact Cor.s46 _ _) ?_); intro w2 H; simp only [Act.put]) | ((with_reducible refine wpList_layB2 H rfl _ _ _ rfl _ rfl (by decide) _ rfl _ (by decide) (by first | exact Cor.s39 _ _ | exact Cor.s48 _ _ | exact Cor.s34 _ _ | exact Cor.s35 _ _ | exact Cor.s36 _ _ | exact Cor.s37 _ _) ?_); intro w2 H; simp only [Act.put]) | ((with_reducible refine wpList_row0 H rfl _ _ rfl rfl _ rfl ?_); intro w2 H; simp only [Act.put]) | ((with_reducible refine wpList_row1 H rfl _ _ rfl rfl _ rfl ?_); intro w2 H; simp only [Act.put]) | ((with_reducible refine wpList_row2 H rfl _ _ rfl rfl _ rfl ?_); intro w2 H; simp only [Act.put]) | ((with_reducible refine wpList_new H rfl _ _ rfl _ rfl rfl ?_ ?_); (focus rfl); intro w2 H; simp only [Act.put]) | ((with_reducible refine wpList_build_nil rfl rfl ?_); simp only [Act.put, List.setIfInBounds_toArray, List.set_cons_succ, List.set_cons_zero]) | (go_at_call 21; refine (Right_c _ _).mono ?_; rw [hr]; rintro e w1 ⟨rfl, hb⟩; replace H := H.grow hb; clear hb; dsimp only) | (go_at_call 242; refine (May_c _ hv _).mono ?_; rw [hm]; rintro e w1 ⟨rfl, rfl⟩; dsimp only) | (go_at_call 243; refine (withPstate_c _ _ hv _).mono ?_; rintro e w1 ⟨rfl, hb⟩; replace H := H.grow hb; clear hb; dsimp only))
      refine bodyPost_ret (back_two rfl _ _ _ _ _ _ rfl (H.get (by first | exact List.mem_cons_self | exact List.mem_cons_of_mem _ (List.mem_cons_self) | exact List.mem_cons_of_mem _ (List.mem_cons_of_mem _ (List.mem_cons_self)) | exact List.mem_cons_of_mem _ (List.mem_cons_of_mem _ (List.mem_cons_of_mem _ (List.mem_cons_self))) | exact List.mem_cons_of_mem _ (List.mem_cons_of_mem _ (List.mem_cons_of_mem _ (List.mem_cons_of_mem _ (List.mem_cons_self)))) | exact List.mem_cons_of_mem _ (List.mem_cons_of_mem _ (List.mem_cons_of_mem _ (List.mem_cons_of_mem _ (List.mem_cons_of_mem _ (List.mem_cons_self))))) | exact List.mem_cons_of_mem _ (List.mem_cons_of_mem _ (List.mem_cons_of_mem _ (List.mem_cons_of_mem _ (List.mem_cons_of_mem _ (List.mem_cons_of_mem _ (List.mem_cons_self))))))))) rfl ?_
      exact ⟨rfl, H.below⟩
end Go.Proofs.YtbjcdpmhmebjnaaGreat
/- What Msr and Eret do to a step: contracts. -/
namespace Go.Proofs.YtbjcdpmhmebjnaaGreat
open Go.RowKit
set_option linter.unusedVariables false

/-- A state laid into the step, within a region that draws. -/
theorem chn_store_core {o : Oper} {a : Act} {w : World} {s : Stp} {C : World → Prop} (x y : Operand) (ho : o.op = .store 26 x y) (g : Nat) (hx : a.eval x = .pointer (some ⟨g, 16, none⟩)) (d : Cor) (hy : a.eval y = .agg d.cells) (hg : w.heap[g]? = some (.cells s.cells 58))
    (hC : ∀ w2 : World, w2.heap[g]? = some (.cells ({ s with c := d } : Stp).cells 58) → But g w w2 → C w2) : Chn.upon Tryz.prog (fun v w' => v = undef ∧ C w') w ((execOp a.eval o).run Tryz.prog w) := by
  have e49 : d.cells.toList.length = 49 := by rw [Array.length_toList, Cor.size]
  have hst : (storeVar 26 ⟨g, 16, none⟩ (.agg d.cells)).run Tryz.prog w = .ok () (w.setRow g ({ s with c := d } : Stp).cells) := by
    have := run_storeCells_at (P := Tryz.prog) g 16 58 d.cells.toList 0 s.cells w hg (by rw [e49, s.size]; decide) (fun v hv => by
      have := Array.all_eq_true_iff_forall_mem.1 d.one v (by simpa using hv); exact this)
    rw [e49] at this
    have e := s.setC d
    simp only [Nat.add_zero] at this
    rw [e] at this
    have hi := d.info
    cases hq : Tryz.prog.info? 26 with
    | none => simp [hq] at hi
    | some inf =>
      have hs : d.cells.size = inf.size := by simp [hq] at hi; omega
      simp [storeVar, sizeOf, typeInfo, hq, Value.cells, hs, this]
  unfold execOp
  simp only [ho, hx, hy, Instr.storeAt, Instr.sureAddr, Sem.run_bind, Sem.run_pure, Result.andThen_ok, hst]
  exact ⟨rfl, hC _ (setRow_heap _ _ _ _ _ _ hg) (but_setRow _ _ _)⟩
theorem size31 : (Tryz.prog.info? 31).map (·.size) = some 1 := by kernel_rfl
set_option maxRecDepth 4000 in
set_option maxHeartbeats 2000000 in
theorem stMsr_O (g : Nat) (i : Ins) (c : Cor) (k : Gt) (e : Int) (w : World) (h : w.heap[g]? = some (.cells (Stp.cells ⟨i, c, k, e⟩) 58)) (hO : outB i.sys = true) : Calls Tryz.prog 145 #[.pointer (some ⟨g, 0, none⟩)] w fun e2 w' => e2 = .returned (.tuple #[]) ∧ w'.heap[g]? = some (.cells (Stp.cells ⟨i, c, k, e⟩) 58) ∧ But g w w' := by
  have c11 := at_i h 11 (.int .i64 i.sys) (by decide) rfl
  go_enter Tryz.func145, Tryz.ntmps145
  go_wp2_with (go_at_call 186; refine (out_is _ _ hO _).mono ?_; rintro e2 w1 ⟨rfl, hw1⟩; obtain rfl := hw1.symm; dsimp only)
  first | go_end0 | ((try simp only [Exit.inBlock, Exit.then]); refine bodyPost_ret (results_none rfl _ _ _) rfl ?_)
  exact ⟨rfl, h, But.refl g _⟩
set_option maxRecDepth 4000 in
set_option maxHeartbeats 2000000 in
theorem stMsr_I (g : Nat) (i : Ins) (c : Cor) (k : Gt) (e : Int) (w : World) (h : w.heap[g]? = some (.cells (Stp.cells ⟨i, c, k, e⟩) 58)) (hO : outB i.sys = false) (X : Int) (d : Cor) (hX : xV c i.rd = X) (hU : Hid (U64 X)) (hd : setV c i.sys X = d) : Calls Tryz.prog 145 #[.pointer (some ⟨g, 0, none⟩)] w fun e2 w' => e2 = .returned (.tuple #[]) ∧ w'.heap[g]? = some (.cells (Stp.cells ⟨i, d, k, e⟩) 58) ∧ But g w w' := by
  have c11 := at_i h 11 (.int .i64 i.sys) (by decide) rfl
  go_enter Tryz.func145, Tryz.ntmps145
  go_upto_region 1 with (go_at_call 186; refine (out_is _ _ hO _).mono ?_; rintro e2 w1 ⟨rfl, hw1⟩; obtain rfl := hw1.symm; dsimp only)
  refine Chn.wp_region_chainL (Ph g i (pick3 c d) k e w) [16, 17, 23] [3, 3, 3, 3, 1, 3, 3, 3, 3, 3, 3, 3, 3, 3, 3, 3, 3, 3, 3, 3, 3, 3, 3, 3] [(.pointer (some ⟨g, 0, none⟩)), (.pointer (some ⟨g, 0, none⟩)), (.pointer (some ⟨g, 0, none⟩)), (.pointer (some ⟨g, 16, none⟩)), c.val, (.pointer (some ⟨g, 0, none⟩)), (.pointer (some ⟨g, 0, none⟩)), (.pointer (some ⟨g, 0, none⟩)), (.pointer (some ⟨g, 11, none⟩)), (.int .i64 i.sys), (.pointer (some ⟨g, 0, none⟩)), (.pointer (some ⟨g, 0, none⟩)), (.pointer (some ⟨g, 0, none⟩)), (.pointer (some ⟨g, 0, none⟩)), (.pointer (some ⟨g, 2, none⟩)), (.int .i64 i.rd), (.int .u64 X), (.tuple #[d.val, .bool (setB i.sys)]), (.tuple #[d.val, .bool (setB i.sys)]), d.val, (.bool (setB i.sys)), (.pointer (some ⟨g, 0, none⟩)), (.pointer (some ⟨g, 16, none⟩)), undef] (by kernel_rfl) (by kernel_rfl) (by kernel_rfl) (by kernel_rfl) (by kernel_rfl) (ph_start h) ?_
  refine ⟨fun j w1 hj hC => by exact Chn.upon_pure hC (fun F hF => by (go_simp <;> exact hF)), ?_⟩
  simp only [Act.put, List.setIfInBounds_toArray, List.set_cons_succ, List.set_cons_zero]
  refine ⟨fun j w1 hj hC => by exact Chn.upon_pure hC (fun F hF => by (go_simp <;> exact hF)), ?_⟩
  simp only [Act.put, List.setIfInBounds_toArray, List.set_cons_succ, List.set_cons_zero]
  refine ⟨fun j w1 hj hC => by exact Chn.upon_pure hC (fun F hF => by (go_simp <;> exact hF)), ?_⟩
  simp only [Act.put, List.setIfInBounds_toArray, List.set_cons_succ, List.set_cons_zero]
  refine ⟨fun j w1 hj hC => by exact Chn.upon_pure hC (fun F hF => by (go_simp <;> exact hF)), ?_⟩
  simp only [Act.put, List.setIfInBounds_toArray, List.set_cons_succ, List.set_cons_zero]
  refine ⟨fun j w1 hj hC => by (replace hj : j ≤ 1 := hj); rcases (by omega : j = 0 ∨ j = 1) with rfl | rfl <;> exact chn_load_core (s := ⟨i, c, k, e⟩) _ rfl g rfl hC.1 hC, ?_⟩
  simp only [Act.put, List.setIfInBounds_toArray, List.set_cons_succ, List.set_cons_zero]
  refine ⟨fun j w1 hj hC => by exact Chn.upon_pure hC (fun F hF => by (go_simp <;> exact hF)), ?_⟩
  simp only [Act.put, List.setIfInBounds_toArray, List.set_cons_succ, List.set_cons_zero]
  refine ⟨fun j w1 hj hC => by exact Chn.upon_pure hC (fun F hF => by (go_simp <;> exact hF)), ?_⟩
  simp only [Act.put, List.setIfInBounds_toArray, List.set_cons_succ, List.set_cons_zero]
  refine ⟨fun j w1 hj hC => by exact Chn.upon_pure hC (fun F hF => by (go_simp <;> exact hF)), ?_⟩
  simp only [Act.put, List.setIfInBounds_toArray, List.set_cons_succ, List.set_cons_zero]
  refine ⟨fun j w1 hj hC => by exact Chn.upon_pure hC (fun F hF => by (go_simp <;> exact hF)), ?_⟩
  simp only [Act.put, List.setIfInBounds_toArray, List.set_cons_succ, List.set_cons_zero]
  refine ⟨fun j w1 hj hC => by have hq := at_i hC.1 11 (.int .i64 i.sys) (by decide) rfl; exact Chn.upon_pure hC (fun F hF => by (go_simp <;> exact hF)), ?_⟩
  simp only [Act.put, List.setIfInBounds_toArray, List.set_cons_succ, List.set_cons_zero]
  refine ⟨fun j w1 hj hC => by exact Chn.upon_pure hC (fun F hF => by (go_simp <;> exact hF)), ?_⟩
  simp only [Act.put, List.setIfInBounds_toArray, List.set_cons_succ, List.set_cons_zero]
  refine ⟨fun j w1 hj hC => by exact Chn.upon_pure hC (fun F hF => by (go_simp <;> exact hF)), ?_⟩
  simp only [Act.put, List.setIfInBounds_toArray, List.set_cons_succ, List.set_cons_zero]
  refine ⟨fun j w1 hj hC => by exact Chn.upon_pure hC (fun F hF => by (go_simp <;> exact hF)), ?_⟩
  simp only [Act.put, List.setIfInBounds_toArray, List.set_cons_succ, List.set_cons_zero]
  refine ⟨fun j w1 hj hC => by exact Chn.upon_pure hC (fun F hF => by (go_simp <;> exact hF)), ?_⟩
  simp only [Act.put, List.setIfInBounds_toArray, List.set_cons_succ, List.set_cons_zero]
  refine ⟨fun j w1 hj hC => by exact Chn.upon_pure hC (fun F hF => by (go_simp <;> exact hF)), ?_⟩
  simp only [Act.put, List.setIfInBounds_toArray, List.set_cons_succ, List.set_cons_zero]
  refine ⟨fun j w1 hj hC => by have hq := at_i hC.1 2 (.int .i64 i.rd) (by decide) rfl; exact Chn.upon_pure hC (fun F hF => by (go_simp <;> exact hF)), ?_⟩
  simp only [Act.put, List.setIfInBounds_toArray, List.set_cons_succ, List.set_cons_zero]
  refine ⟨fun w1 hC => by exact Chn.upon_call (sx_c g ⟨i, c, k, e⟩ i.rd w1 hC.1) (fun e2 w2 hh => ⟨by rw [hh.1]; show _ = Ending.returned (.int .u64 X); rw [← hX], hC.same rfl hh.2⟩) (fun F hF => by (go_simp <;> exact hF)), ?_⟩
  simp only [Act.put, List.setIfInBounds_toArray, List.set_cons_succ, List.set_cons_zero]
  refine ⟨fun w1 hC => by exact Chn.upon_call (Set_c c i.sys X hU w1) (fun e2 w2 hh => ⟨by rw [hh.1, hd], hC.same rfl hh.2⟩) (fun F hF => by (go_simp <;> exact hF)), ?_⟩
  simp only [Act.put, List.setIfInBounds_toArray, List.set_cons_succ, List.set_cons_zero]
  refine ⟨fun j w1 hj hC => by exact Chn.upon_pure hC (fun F hF => by (go_simp <;> exact hF)), ?_⟩
  simp only [Act.put, List.setIfInBounds_toArray, List.set_cons_succ, List.set_cons_zero]
  refine ⟨fun j w1 hj hC => by exact Chn.upon_pure hC (fun F hF => by (go_simp <;> exact hF)), ?_⟩
  simp only [Act.put, List.setIfInBounds_toArray, List.set_cons_succ, List.set_cons_zero]
  refine ⟨fun j w1 hj hC => by exact Chn.upon_pure hC (fun F hF => by (go_simp <;> exact hF)), ?_⟩
  simp only [Act.put, List.setIfInBounds_toArray, List.set_cons_succ, List.set_cons_zero]
  refine ⟨fun j w1 hj hC => by exact Chn.upon_pure hC (fun F hF => by (go_simp <;> exact hF)), ?_⟩
  simp only [Act.put, List.setIfInBounds_toArray, List.set_cons_succ, List.set_cons_zero]
  refine ⟨fun j w1 hj hC => by exact Chn.upon_pure hC (fun F hF => by (go_simp <;> exact hF)), ?_⟩
  simp only [Act.put, List.setIfInBounds_toArray, List.set_cons_succ, List.set_cons_zero]
  refine ⟨fun w1 hC => by (have h0 : w1.heap[g]? = some (.cells (Stp.cells ⟨i, c, k, e⟩) 58) := hC.1); (have hb0 : But g w w1 := hC.2); (have hh : ∀ w2 : World, w2.heap[g]? = some (.cells ({ (⟨i, c, k, e⟩ : Stp) with c := d } : Stp).cells 58) → But g w1 w2 → Ph g i (pick3 c d) k e w (0 + 1 + 1 + 1) w2 := fun w2 h2 hB => ⟨h2, hb0.trans hB⟩); with_reducible exact chn_store_core (s := ⟨i, c, k, e⟩) (C := Ph g i (pick3 c d) k e w (0 + 1 + 1 + 1)) _ _ rfl g rfl d rfl h0 hh, ?_⟩
  simp only [Act.put]
  intro w2 hC
  go_wp2
  first | go_end0 | ((try simp only [Exit.inBlock, Exit.then]); refine bodyPost_ret (results_none rfl _ _ _) rfl ?_)
  exact ⟨rfl, hC⟩
theorem wpList_store_err {ops : Array Oper} {rest : List Oper} {o : Oper} {a : Act} {w : World} {Q : Exit → Act → World → Prop} (hgd : o.guard = none) (x y : Operand) (ho : o.op = .store 31 x y)
    (g : Nat) (hx : a.eval x = .pointer (some ⟨g, 68, none⟩)) (hy : a.eval y = .int .i64 0) {i : Ins} {c : Cor} {k : Gt} (hg : w.heap[g]? = some (.cells (Stp.cells ⟨i, c, k, 0⟩) 58))
    (h : ∀ w2 : World, w2.heap[g]? = some (.cells (Stp.cells ⟨i, c, k, 0⟩) 58) → But g w w2 → wpList Tryz.prog ops Q rest (a.put o.dst undef) w2) : wpList Tryz.prog ops Q (o :: rest) a w := by
  refine wpList_store_int hgd 31 x y ho g 68 .i64 0 hx hy (.int .i64 0) (at_e hg) (frozen_of_row _ _ _ _ _ hg) size31 (h _ ?_ (but_setCell _ _ _ _))
  rw [heap_setCell_same _ _ _ _ _ _ hg]
  have e : (Stp.cells ⟨i, c, k, 0⟩).setIfInBounds 68 (.int .i64 0) = Stp.cells ⟨i, c, k, 0⟩ := by
    have h68 := (Stp.mk i c k 0).atE
    apply Array.ext_getElem?
    intro q
    by_cases hq : q = 68
    · subst hq
      rw [h68, Array.getElem?_setIfInBounds_self_of_lt (by rw [Stp.size]; decide)]
    · rw [Array.getElem?_setIfInBounds_ne (by omega)]
  rw [e]
set_option maxRecDepth 4000 in
set_option maxHeartbeats 2000000 in
theorem stEret_c (g : Nat) (i : Ins) (c : Cor) (k : Gt) (e : Int) (w : World) (h : w.heap[g]? = some (.cells (Stp.cells ⟨i, c, k, e⟩) 58)) (he : e = 0) (d : Cor) (hr : rightC c = true) (hU : Hid (U64 c.spsr)) (hd : backV c = d) : Calls Tryz.prog 147 #[.pointer (some ⟨g, 0, none⟩)] w fun e2 w' => e2 = .returned (.tuple #[]) ∧ w'.heap[g]? = some (.cells (Stp.cells ⟨i, d, k, e⟩) 58) ∧ But g w w' := by
  subst he
  have e0 : errB true = 0 := rfl
  go_enter Tryz.func147, Tryz.ntmps147
  go_wp2_with (first | ((with_reducible refine wpList_load_core rfl _ rfl g rfl _ h ?_); simp only [Act.put, List.setIfInBounds_toArray, List.set_cons_succ, List.set_cons_zero]) | (go_at_call 208; refine (Back_c _ hU _).mono ?_; rw [hr, hd, e0]; rintro e2 w1 ⟨rfl, hB⟩; dsimp only; have hs1 := keep_row h hB) | ((with_reducible refine wpList_store_core rfl _ _ rfl g rfl _ _ rfl hs1 ?_); intro w3 hs3 hB3; simp only [Act.put]) | ((with_reducible refine wpList_store_err rfl _ _ rfl g rfl rfl hs3 ?_); intro w4 hs4 hB4; simp only [Act.put]))
  first | go_end0 | ((try simp only [Exit.inBlock, Exit.then]); refine bodyPost_ret (results_none rfl _ _ _) rfl ?_)
  exact ⟨rfl, hs4, ((but_below hB).trans hB3).trans hB4⟩
end Go.Proofs.YtbjcdpmhmebjnaaGreat
/- What an instruction makes of a state, where nothing is an exception: a plain function. -/
namespace Go.Proofs.YtbjcdpmhmebjnaaGreat
open Go.RowKit
set_option linter.unusedVariables false

def mx (b : Int) : Int := bits .xor .u64 IntKind.u64.max b
def immU (i : Ins) : Int := i.imm % 18446744073709551616
def immS2 (i : Ins) : Int := IntKind.u64.wrap (immU i * 2 ^ i.amount.toNat)
def fromV (c : Cor) : Int := IntKind.u64.wrap (c.pc - 4)
def toV (i : Ins) (c : Cor) : Int := (fromV c + immU i) % 18446744073709551616
def sumB (i : Ins) (Z : Int) : Int := bif i.minus then mx Z else Z
def addD (i : Ins) (c : Cor) (X Z : Int) : Cor := setfV i c (addF X (sumB i Z) i.minus)
def addNV (i : Ins) (X Z : Int) : Int := sumV X (sumB i Z) i.minus
def logNV (i : Ins) (X Z : Int) : Int := reckonV (3 + i.sub) X (bif i.not then mx Z else Z)
def shNV (i : Ins) (c : Cor) : Int := shiftV (xV c i.rm) i.shift i.amount
def movNV (i : Ins) (c : Cor) : Int := bif i.sub == 0 then mx (immS2 i) else bif i.sub == 3 then bits .or .u64 (immS2 i) (bits .andNot .u64 (xV c i.rd) (IntKind.u64.wrap (65535 * 2 ^ i.amount.toNat))) else immS2 i
def selNV (s Y : Int) : Int := if s = 0 then Y else if s = 1 then IntKind.u64.wrap (Y + 1) else if s = 2 then mx Y else IntKind.u64.wrap (-Y)
def hintC (i : Ins) (c : Cor) : Cor := if i.imm = 2 then (bif c.event then { c with event := false } else { c with wait := 2 }) else if i.imm = 3 then { c with wait := 1 } else if i.imm = 4 ∨ i.imm = 5 then { c with event := true } else c
def linkV (b : Bool) (c : Cor) : Cor := bif b then setXV c 30 c.pc else c
def doV (i : Ins) (c : Cor) (k : Gt) : Cor :=
  if i.op = 1 then withImmV i (addD i c (spX c i.rn) (immS2 i)) (addNV i (spX c i.rn) (immS2 i))
  else if i.op = 2 then setXV (addD i c (xV c i.rn) (shNV i c)) i.rd (addNV i (xV c i.rn) (shNV i c))
  else if i.op = 3 then setXV (setfV i c (logF (logNV i (xV c i.rn) (shNV i c)))) i.rd (logNV i (xV c i.rn) (shNV i c))
  else if i.op = 4 then withImmV i (setfV i c (logF (logNV i (xV c i.rn) (maskV i.amount i.imm i.imm2)))) (logNV i (xV c i.rn) (maskV i.amount i.imm i.imm2))
  else if i.op = 5 then setXV c i.rd (movNV i c)
  else if i.op = 6 then setXV c i.rd (moveV (xV c i.rn) (i.sub == 0) i.imm i.imm2)
  else if i.op = 7 then setXV c i.rd (shiftV (xV c i.rn) i.sub (xV c i.rm % 64))
  else if i.op = 8 then setXV c i.rd (reckonV (bif i.minus then 2 else 1) (xV c i.ra) (reckonV 6 (xV c i.rn) (xV c i.rm)))
  else if i.op = 9 then setXV c i.rd (reckonV (7 + i.sub) (xV c i.rn) (xV c i.rm))
  else if i.op = 10 then setXV c i.rd (bif holdsV c i.cond then xV c i.rn else selNV i.sub (xV c i.rm))
  else if i.op = 11 then setXV c i.rd (((bif i.sub == 1 then bits .andNot .u64 (fromV c) 4095 else fromV c) + immU i) % 18446744073709551616)
  else if i.op = 12 then { linkV i.link c with pc := toV i c }
  else if i.op = 13 then jumpV c (holdsV c i.cond) (toV i c)
  else if i.op = 14 then jumpV c ((xV c i.rd == 0) != i.not) (toV i c)
  else if i.op = 15 then jumpV c ((bits .and .u64 (xV c i.rd / 2 ^ i.amount.toNat) 1 == 1) == i.not) (toV i c)
  else if i.op = 16 then { linkV (i.sub == 1) c with pc := xV c i.rn }
  else if i.op = 17 ∨ i.op = 19 ∨ i.op = 21 ∨ i.op = 23 then setXV c i.rd k.value
  else if i.op = 24 then setXV c i.rm (bif k.ok then 0 else 1)
  else if i.op = 31 then setXV c i.rd (bif outB i.sys then k.value else getV c i.sys)
  else if i.op = 32 then (bif outB i.sys then c else setV c i.sys (xV c i.rd))
  else if i.op = 33 then (bif bits .and .i64 i.imm 2 != 0 then { c with mask := i.sub == 0 } else c)
  else if i.op = 36 then backV c
  else if i.op = 37 then hintC i c
  else c
/-- What is known of an instruction that was decoded, for what it does. -/
structure Deed (i : Ins) : Prop where
  op : 0 ≤ i.op ∧ i.op ≤ 37
  am : i.op = 1 ∨ i.op = 5 ∨ i.op = 15 → 0 ≤ i.amount ∧ i.amount ≤ 63
  lg : i.op = 3 ∨ i.op = 4 → i.sub = 0 ∨ i.sub = 1 ∨ i.sub = 2
  dv : i.op = 9 → i.sub = 0 ∨ i.sub = 1
  se : i.op = 10 → i.sub = 0 ∨ i.sub = 1 ∨ i.sub = 2 ∨ i.sub = 3
theorem nil_deed : Deed nilI := ⟨⟨by decide, by decide⟩, fun e => absurd e (by decide), fun e => absurd e (by decide), fun e => absurd e (by decide), fun e => absurd e (by decide)⟩
theorem right_deed {i : Ins} (h : rightB i = true) : Deed i := by
  have R := right_rb h
  refine ⟨⟨by have := R.op; omega, R.op.2⟩, fun e => ?_, fun e => ?_, fun e => ?_, fun e => ?_⟩
  · obtain ⟨h1, h2, _⟩ := rb_in R.amount
    rcases e with e | e | e <;> rw [e] at h1 h2
    · have h1 : 0 ≤ i.amount := h1
      have h2 : i.amount ≤ 12 := h2
      omega
    · have h1 : 0 ≤ i.amount := h1
      have h2 : i.amount ≤ 48 := h2
      omega
    · have h1 : 0 ≤ i.amount := h1
      have h2 : i.amount ≤ 63 := h2
      omega
  · obtain ⟨h1, h2, _⟩ := rb_in R.sub
    rcases e with e | e <;> rw [e] at h1 h2
    · have h1 : 0 ≤ i.sub := h1
      have h2 : i.sub ≤ 2 := h2
      omega
    · have h1 : 0 ≤ i.sub := h1
      have h2 : i.sub ≤ 2 := h2
      omega
  · obtain ⟨h1, h2, _⟩ := rb_in R.sub
    rw [e] at h1 h2
    have h1 : 0 ≤ i.sub := h1
    have h2 : i.sub ≤ 1 := h2
    omega
  · obtain ⟨h1, h2, _⟩ := rb_in R.sub
    rw [e] at h1 h2
    have h1 : 0 ≤ i.sub := h1
    have h2 : i.sub ≤ 3 := h2
    omega
theorem dec_deed {word : Int} (hW : W32 word) : Deed (decV word) := by
  rcases dec_right hW with e | e
  · rw [e]; exact nil_deed
  · exact right_deed e
theorem bits_u64 (o : BinOp) (a b : Int) : U64 (IntKind.u64.wrap (bits o .u64 a b)) := by
  rw [IntKind.wrap_u64]; constructor <;> omega
theorem wrapU_in (a : Int) : U64 (IntKind.u64.wrap a) := by rw [IntKind.wrap_u64]; constructor <;> omega
theorem mx_in (b : Int) : U64 (mx b) := wrapU_in _
theorem xa_in {c : Cor} (hx : ∀ (i : Nat) (h : i < 31), U64 c.x[i]) (r : Int) : U64 (xV c r) := by
  unfold xV
  split
  · by_cases hr : r.toNat < 31
    · have := hx r.toNat hr
      simpa [hr] using this
    · have : c.x.toArray.getD r.toNat 0 = 0 := by simp [hr]
      rw [this]; exact ⟨by decide, by decide⟩
  · exact ⟨by decide, by decide⟩
theorem spx_in {c : Cor} (hx : ∀ (i : Nat) (h : i < 31), U64 c.x[i]) (h0 : U64 c.sp0) (h1 : U64 c.sp1) (r : Int) : U64 (spX c r) := by
  unfold spX spV
  split
  · split
    · exact h0
    · split
      · exact h1
      · exact ⟨by decide, by decide⟩
  · exact xa_in hx r
theorem or_in (f : Nat → Bool) (m : Nat) (hm : m ≤ 64) : U64 ((orBits f m : Nat) : Int) := by
  have := orBits_lt64 f m hm
  constructor <;> omega
theorem mask_in (n r s : Int) : U64 (maskV n r s) := by
  unfold maskV
  split
  · exact or_in _ _ (Nat.le_refl _)
  · exact ⟨by decide, by decide⟩
theorem ror_in64 (a b : Int) : U64 (rorV a b 64) := by
  unfold rorV
  split
  · exact or_in _ _ (by decide)
  · exact ⟨by decide, by decide⟩
theorem shift_in {v : Int} (hv : U64 v) (k y : Int) : U64 (shiftV v k y) := by
  unfold shiftV
  split
  · rename_i h
    have hk : 0 ≤ k ∧ k ≤ 3 := by
      simp only [shiftB, Bool.and_eq_true, decide_eq_true_eq] at h
      omega
    rcases (by omega : k = 0 ∨ k = 1 ∨ k = 2 ∨ k = 3) with rfl | rfl | rfl | rfl
    · show U64 (v * 2 ^ (y % 64).toNat % 18446744073709551616)
      constructor <;> omega
    · show U64 (v / 2 ^ (y % 64).toNat)
      exact div_lt hv
    · show U64 (wrap64 v / 2 ^ (y % 64).toNat % 18446744073709551616)
      constructor <;> omega
    · show U64 (rorV v (y % 64) 64)
      exact ror_in64 _ _
  · exact ⟨by decide, by decide⟩
end Go.Proofs.YtbjcdpmhmebjnaaGreat
/- What an instruction does not read does not matter: of the plain functions. -/
namespace Go.Proofs.YtbjcdpmhmebjnaaGreat
open Go.RowKit
set_option linter.unusedVariables false

/-- A state with another number in one register. -/
def putX (c : Cor) (r : Nat) (hr : r < 31) (o : Int) : Cor := { c with x := c.x.set r o hr }
section
variable {c : Cor} {r : Nat} {hr : r < 31} {o : Int}
theorem xV_ne {s : Int} (h : s ≠ (r : Int)) : xV (putX c r hr o) s = xV c s := by
  unfold xV putX
  split
  · by_cases hs : s.toNat < 31
    · have hne : ¬ r = s.toNat := by omega
      simp [hs, hne]
    · simp [hs]
  · rfl
theorem spX_ne {s : Int} (h : s ≠ (r : Int)) : spX (putX c r hr o) s = spX c s := by
  unfold spX
  split
  · rfl
  · exact xV_ne h
theorem wr (s v : Int) (h0 : 0 ≤ s) (h1 : s ≤ 31) : setXV (putX c r hr o) s v = bif s == (r : Int) then setXV c s v else putX (setXV c s v) r hr o := by
  have hb : regB s = true := by simp [regB, h0, h1]
  unfold setXV
  rw [hb]
  simp only [cond_true]
  by_cases hs : 0 ≤ s ∧ s < 31
  · rw [dif_pos hs, dif_pos hs]
    by_cases e : s = (r : Int)
    · subst e
      simp only [beq_self_eq_true, cond_true, putX, Cor.mk.injEq, and_true]
      apply Vector.ext
      intro q hq
      simp only [Vector.getElem_set, Int.toNat_natCast]
      split <;> rfl
    · rw [beq_false_of_ne e, cond_false]
      simp only [putX, Cor.mk.injEq, and_true]
      apply Vector.ext
      intro q hq
      simp only [Vector.getElem_set]
      have : ¬ (s.toNat = q ∧ r = q) := by omega
      split <;> split <;> first | rfl | (exfalso; omega)
  · rw [dif_neg hs, dif_neg hs, beq_false_of_ne (by omega), cond_false]
theorem wr_sp (h : c.el = 0 ∨ c.el = 1) (v : Int) : setSPV (putX c r hr o) v = putX (setSPV c v) r hr o := by
  unfold setSPV putX
  rcases h with h | h <;> simp [h]
theorem wr_preg (h : c.el = 0 ∨ c.el = 1) (s v : Int) (h0 : 0 ≤ s) (h1 : s ≤ 31) : pregV (putX c r hr o) s v = bif s == (r : Int) then pregV c s v else putX (pregV c s v) r hr o := by
  unfold pregV
  split
  · rename_i e
    rw [beq_false_of_ne (by omega), cond_false]
    exact wr_sp h v
  · exact wr s v h0 h1
theorem wr_imm (i : Ins) (h : c.el = 0 ∨ c.el = 1) (v : Int) (h0 : 0 ≤ i.rd) (h1 : i.rd ≤ 31) : withImmV i (putX c r hr o) v = bif i.rd == (r : Int) then withImmV i c v else putX (withImmV i c v) r hr o := by
  unfold withImmV
  cases i.flags
  · exact wr_preg h _ _ h0 h1
  · exact wr _ _ h0 h1
theorem wr_fl (i : Ins) (f : Flg) : setfV i (putX c r hr o) f = putX (setfV i c f) r hr o := by
  unfold setfV
  cases i.flags <;> rfl
theorem el_fl (i : Ins) (f : Flg) : (setfV i c f).el = c.el := by
  unfold setfV
  cases i.flags <;> rfl
theorem wr_jump (b : Bool) (t : Int) : jumpV (putX c r hr o) b t = putX (jumpV c b t) r hr o := by
  cases b <;> rfl
theorem wr_link (b : Bool) (t : Int) : ({ linkV b (putX c r hr o) with pc := t } : Cor) = bif b && (30 == (r : Int)) then { linkV b c with pc := t } else putX { linkV b c with pc := t } r hr o := by
  cases b
  · rfl
  · have := wr (c := c) (r := r) (hr := hr) (o := o) 30 c.pc (by decide) (by decide)
    have e : linkV true (putX c r hr o) = setXV (putX c r hr o) 30 c.pc := rfl
    rw [e, this]
    show _ = bif (30 == (r : Int)) then ({ setXV c 30 c.pc with pc := t } : Cor) else putX { setXV c 30 c.pc with pc := t } r hr o
    cases (30 == (r : Int)) <;> rfl
theorem wr_set (sys v : Int) (h : setB sys = true) : setV (putX c r hr o) sys v = putX (setV c sys v) r hr o := by
  simp only [setB, Bool.or_eq_true, beq_iff_eq] at h
  rcases h with (((((((h | h) | h) | h) | h) | h) | h) | h) | h <;> subst h <;> rfl
theorem get_same (sys : Int) : getV (putX c r hr o) sys = getV c sys := rfl
theorem holds_same (n : Int) : holdsV (putX c r hr o) n = holdsV c n := rfl
theorem right_same : rightC (putX c r hr o) = rightC c := rfl
theorem bar_same (i : Ins) : barB (putX c r hr o) i = barB c i := rfl
theorem wr_back (h : rightC c = true) : backV (putX c r hr o) = putX (backV c) r hr o := by
  have h2 : rightC (putX c r hr o) = true := h
  rw [backV, backV, h, h2, cond_true, cond_true, backC, backC]
  show (let d := bif mayB c.spsr then withV (putX c r hr o) c.spsr else putX c r hr o; ({ d with pc := c.elr, event := true } : Cor)) = _
  cases mayB c.spsr <;> rfl
theorem wr_hint (i : Ins) : hintC i (putX c r hr o) = putX (hintC i c) r hr o := by
  unfold hintC
  split
  · have e : ∀ b : Bool, (bif b then ({ putX c r hr o with event := false } : Cor) else { putX c r hr o with wait := 2 }) = putX (bif b then ({ c with event := false } : Cor) else { c with wait := 2 }) r hr o := fun b => by cases b <;> rfl
    exact e c.event
  · split
    · rfl
    · split <;> rfl
end
end Go.Proofs.YtbjcdpmhmebjnaaGreat
