/- The chapter's examples, which each statement asks first, come out as they should. -/
import Derived.Test.YtakmnbahogogiaaAdd
import Derived.Test.YtakmnbahogogiaaFld
import Derived.Test.YtakmnbahogogiaaShf
namespace Go.Proofs.Ytakmnbahogogiaa
open Go.RowKit

theorem ex_1 (w : World) : Calls Try.prog 12 #[.int .u64 18446744073709551615, .int .u64 1, .bool false] w fun e w' => e = .returned (.tuple #[.int .u64 0, (Flg.mk false true true false).val]) ∧ Below w.heap.size w w' := by
  have h := Add_c 18446744073709551615 1 false ⟨by decide, by decide⟩ ⟨by decide, by decide⟩ w
  rwa [show sumV 18446744073709551615 1 false = 0 by decide +kernel, show addF 18446744073709551615 1 false = ⟨false, true, true, false⟩ by rfl] at h
theorem ex_2 (w : World) : Calls Try.prog 12 #[.int .u64 9223372036854775807, .int .u64 1, .bool false] w fun e w' => e = .returned (.tuple #[.int .u64 9223372036854775808, (Flg.mk true false false true).val]) ∧ Below w.heap.size w w' := by
  have h := Add_c 9223372036854775807 1 false ⟨by decide, by decide⟩ ⟨by decide, by decide⟩ w
  rwa [show sumV 9223372036854775807 1 false = 9223372036854775808 by decide +kernel, show addF 9223372036854775807 1 false = ⟨true, false, false, true⟩ by rfl] at h
theorem ex_3 (w : World) : Calls Try.prog 10 #[.int .i64 8, .int .u64 9223372036854775808, .int .u64 18446744073709551615] w fun e w' => e = .returned (.tuple #[.int .u64 9223372036854775808, .int .i64 0]) ∧ Below w.heap.size w w' := by
  have h := Reckon_c 8 9223372036854775808 18446744073709551615 ⟨by decide, by decide⟩ ⟨by decide, by decide⟩ w
  rwa [show reckonV 8 9223372036854775808 18446744073709551615 = 9223372036854775808 by decide +kernel, show kindE 8 = 0 by decide] at h
theorem ex_4 (w : World) : Calls Try.prog 10 #[.int .i64 7, .int .u64 5, .int .u64 0] w fun e w' => e = .returned (.tuple #[.int .u64 0, .int .i64 0]) ∧ Below w.heap.size w w' := by
  have h := Reckon_c 7 5 0 ⟨by decide, by decide⟩ ⟨by decide, by decide⟩ w
  rwa [show reckonV 7 5 0 = 0 by decide +kernel, show kindE 7 = 0 by decide] at h
theorem ex_5 (w : World) : Calls Try.prog 16 #[.int .u64 3, .bool false, .int .i64 60, .int .i64 1] w fun e w' => e = .returned (.tuple #[.int .u64 48, .int .i64 0]) ∧ w' = w := by
  have h := Field_c 3 false 60 1 w
  rwa [show moveV 3 false 60 1 = 48 by decide +kernel, show moveE 60 1 = 0 by decide] at h
set_option maxRecDepth 4000 in
set_option maxHeartbeats 4000000 in
theorem examples_c (w : World) : Calls Try.prog 9 #[] w fun e w' => e = .returned (.bool true) ∧ Below w.heap.size w w' := by
  have H := has_none w
  go_enter Try.func9, Try.ntmps9
  go_upto_region 2 with (first | (go_at_call 12; refine (ex_1 _).mono ?_; rintro e w1 ⟨rfl, hb⟩; replace H := H.grow hb; clear hb; dsimp only) | ((with_reducible refine wpList_new31 H rfl _ _ rfl _ rfl rfl ?_); intro w2 H; try simp only [Act.put]))
  go_upto_region 3 with (first | (go_at_call 12; refine (ex_2 _).mono ?_; rintro e w1 ⟨rfl, hb⟩; replace H := H.grow hb; clear hb; dsimp only) | ((with_reducible refine wpList_new31 H rfl _ _ rfl _ rfl rfl ?_); intro w2 H; try simp only [Act.put]))
  go_upto_region 4 with (go_at_call 10; refine (ex_3 _).mono ?_; rintro e w1 ⟨rfl, hb⟩; replace H := H.grow hb; clear hb; dsimp only)
  go_upto_region 5 with (go_at_call 10; refine (ex_4 _).mono ?_; rintro e w1 ⟨rfl, hb⟩; replace H := H.grow hb; clear hb; dsimp only)
  go_upto_region 6 with (go_at_call 16; refine (ex_5 _).mono ?_; rintro e w1 ⟨rfl, rfl⟩)
  go_wp2_with (first | ((with_reducible refine wpList_load_if rfl 31 _ rfl _ rfl 31 _ (0, 0) _ (H.get (by first | exact List.mem_cons_self | exact List.mem_cons_of_mem _ (List.mem_cons_self) | exact List.mem_cons_of_mem _ (List.mem_cons_of_mem _ (List.mem_cons_self)) | exact List.mem_cons_of_mem _ (List.mem_cons_of_mem _ (List.mem_cons_of_mem _ (List.mem_cons_self))))) Try.underlying31 rfl (four31 _ _ _ _) ?_); simp only [Act.put, List.setIfInBounds_toArray, List.set_cons_succ, List.set_cons_zero]) | ((with_reducible refine wpList_eql_flg rfl _ _ rfl ⟨false, true, true, false⟩ ⟨false, true, true, false⟩ ?_ ?_ true (eqF_refl _) ?_); (focus rfl); (focus rfl); simp only [Act.put, List.setIfInBounds_toArray, List.set_cons_succ, List.set_cons_zero]) | ((with_reducible refine wpList_eql_flg rfl _ _ rfl ⟨true, false, false, true⟩ ⟨true, false, false, true⟩ ?_ ?_ true (eqF_refl _) ?_); (focus rfl); (focus rfl); simp only [Act.put, List.setIfInBounds_toArray, List.set_cons_succ, List.set_cons_zero]))
  go_ret
  exact ⟨rfl, H.below⟩
end Go.Proofs.Ytakmnbahogogiaa
