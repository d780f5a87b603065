/- Whether a block ends behind an instruction: a contract, for every instruction. -/
import Derived.Test.YtmbefmmnkfoneaaDoorLists
namespace Go.Proofs.YtmbefmmnkfoneaaDoor
open Go.RowKit Go.Rel

def endsB (i : Ins) : Bool :=
  bif i.op == 12 || i.op == 13 || i.op == 14 || i.op == 15 || i.op == 16 || i.op == 34 || i.op == 35 || i.op == 36 then true
  else bif i.op == 25 || i.op == 27 || i.op == 28 || i.op == 29 || i.op == 30 || i.op == 31 || i.op == 32 || i.op == 33 then true
  else bif i.op == 26 then i.sub == 1 else bif i.op == 37 then decide (1 < i.imm) else false

set_option maxRecDepth 4000 in
set_option maxHeartbeats 4000000 in
theorem ends_c (i : Ins) (w : World) : Calls Tryd.prog 26 #[i.val] w fun e w' => e = .returned (.bool (endsB i)) ∧ Below w.heap.size w w' := by
  go_enter Tryd.func26, Tryd.ntmps26
  repeat' (first | with_reducible refine then_exit ?_ | with_reducible refine then_normal ?_ | with_reducible refine inBlock_eq ?_ | with_reducible refine inBlock_ne rfl ?_ | with_reducible refine inBlock_normal ?_ | go_step)
  all_goals (go_ret; refine ⟨ret_bool ?_, below_alloc _ _⟩; simp only [endsB, cond_true, cond_false, Bool.or_true, Bool.true_or, Bool.or_false, *])

set_option maxRecDepth 4000 in
set_option maxHeartbeats 4000000 in
theorem Ends_c (i : Ins) (w : World) : Calls Tryd.prog 13 #[i.val] w fun e w' => e = .returned (.bool (rightB i && endsB i)) ∧ Below w.heap.size w w' := by
  have H1 := one_start i w
  cases hR : rightB i
  all_goals
    go_enter Tryd.func13, Tryd.ntmps13
    repeat' (first | with_reducible refine then_exit ?_ | with_reducible refine then_normal ?_ | with_reducible refine inBlock_eq ?_ | with_reducible refine inBlock_ne rfl ?_ | with_reducible refine inBlock_normal ?_ | (refine wpList_load_if rfl 23 _ rfl w.heap.size rfl 23 _ (0, 0) _ H1.box Tryd.underlying23 rfl (by kernel_rfl) ?_; simp only [Act.put, List.setIfInBounds_toArray, List.set_cons_succ, List.set_cons_zero]) | (go_at_call 10; refine (right_c i _).mono ?_; rw [hR]; rintro e w2 ⟨rfl, hb2⟩; replace H1 := H1.grow hb2; clear hb2; dsimp only) | (go_at_call 26; refine (ends_c i _).mono ?_; rintro e w2 ⟨rfl, hb2⟩; replace H1 := H1.grow hb2; clear hb2; dsimp only) | go_step)
    go_ret
    exact ⟨rfl, H1.below⟩
end Go.Proofs.YtmbefmmnkfoneaaDoor
