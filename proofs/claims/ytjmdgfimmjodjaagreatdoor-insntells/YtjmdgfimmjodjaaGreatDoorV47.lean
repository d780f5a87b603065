/- Whether an instruction reads or writes flags, as package insn tells: a contract, for every instruction. -/
import Derived.Test.YtjmdgfimmjodjaaGreatDoorV18
namespace Go.Proofs.YtjmdgfimmjodjaaGreatDoor
open Go.RowKit Go.Rel
set_option maxRecDepth 8000 in
set_option maxHeartbeats 4000000 in
theorem Flags_c (i : Ins) (w : World) : Calls Tryz.prog 6 #[i.val] w fun e w' => e = .returned (.tuple #[.bool (rightB i && flag1 i), .bool (rightB i && flag2 i)]) ∧ Below w.heap.size w w' := by
  have H1 := one_start i w
  cases hR : rightB i
  · go_enter Tryz.func6, Tryz.ntmps6
    repeat' (first | with_reducible refine then_exit ?_ | with_reducible refine then_normal ?_ | with_reducible refine inBlock_eq ?_ | with_reducible refine inBlock_ne rfl ?_ | with_reducible refine inBlock_normal ?_ | (refine wpList_load_if rfl 23 _ rfl w.heap.size rfl 23 _ (0, 0) _ H1.box Tryz.underlying23 rfl (by kernel_rfl) ?_; simp only [Act.put, List.setIfInBounds_toArray, List.set_cons_succ, List.set_cons_zero]) | (go_at_call 11; refine (right_c i _).mono ?_; rw [hR]; rintro e w2 ⟨rfl, hb2⟩; replace H1 := H1.grow hb2; clear hb2; dsimp only) | go_step)
    go_ret2
    exact ⟨rfl, H1.below⟩
  · go_enter Tryz.func6, Tryz.ntmps6
    go_upto_region 3 with (first | (refine wpList_load_if rfl 23 _ rfl w.heap.size rfl 23 _ (0, 0) _ H1.box Tryz.underlying23 rfl (by kernel_rfl) ?_; simp only [Act.put, List.setIfInBounds_toArray, List.set_cons_succ, List.set_cons_zero]) | (go_at_call 11; refine (right_c i _).mono ?_; rw [hR]; rintro e w2 ⟨rfl, hb2⟩; replace H1 := H1.grow hb2; clear hb2; dsimp only))
    by_cases c10 : i.op = 10
    · have n10 : (i.op == 10) = true := by simpa using c10
      have nf : i.flags = false := no_flags hR (by rw [c10]; rfl)
      have n13 : (i.op == 13) = false := by rw [c10]; rfl
      have n31 : (i.op == 31) = false := by rw [c10]; rfl
      have n32 : (i.op == 32) = false := by rw [c10]; rfl
      have hE : Hid (true = (true && flag1 i) ∧ false = (true && flag2 i)) := by show _ ∧ _; simp [flag1, flag2, *]
      clear c10
      repeat' (first | with_reducible refine then_exit ?_ | with_reducible refine then_normal ?_ | with_reducible refine inBlock_eq ?_ | with_reducible refine inBlock_ne rfl ?_ | with_reducible refine inBlock_normal ?_ | ((with_reducible refine wpList_load_cell rfl 3 _ rfl _ _ rfl _ (H1.at _ _ rfl) (agg3 _) ?_); simp only [Act.put, List.setIfInBounds_toArray, List.set_cons_succ, List.set_cons_zero]) | ((with_reducible refine wpList_load_cell rfl 4 _ rfl _ _ rfl _ (H1.at _ _ rfl) (agg4 _) ?_); simp only [Act.put, List.setIfInBounds_toArray, List.set_cons_succ, List.set_cons_zero]) | go_step)
      all_goals (go_ret2; exact ⟨ret_bb hE.out.1 hE.out.2, H1.below⟩)
    by_cases c13 : i.op = 13
    · have n10 : (i.op == 10) = false := by rw [c13]; rfl
      have nf : i.flags = false := no_flags hR (by rw [c13]; rfl)
      have n13 : (i.op == 13) = true := by simpa using c13
      have n31 : (i.op == 31) = false := by rw [c13]; rfl
      have n32 : (i.op == 32) = false := by rw [c13]; rfl
      have hE : Hid (true = (true && flag1 i) ∧ false = (true && flag2 i)) := by show _ ∧ _; simp [flag1, flag2, *]
      clear c13 c10
      repeat' (first | with_reducible refine then_exit ?_ | with_reducible refine then_normal ?_ | with_reducible refine inBlock_eq ?_ | with_reducible refine inBlock_ne rfl ?_ | with_reducible refine inBlock_normal ?_ | ((with_reducible refine wpList_load_cell rfl 3 _ rfl _ _ rfl _ (H1.at _ _ rfl) (agg3 _) ?_); simp only [Act.put, List.setIfInBounds_toArray, List.set_cons_succ, List.set_cons_zero]) | ((with_reducible refine wpList_load_cell rfl 4 _ rfl _ _ rfl _ (H1.at _ _ rfl) (agg4 _) ?_); simp only [Act.put, List.setIfInBounds_toArray, List.set_cons_succ, List.set_cons_zero]) | go_step)
      all_goals (go_ret2; exact ⟨ret_bb hE.out.1 hE.out.2, H1.below⟩)
    have n10 : (i.op == 10) = false := by simpa using c10
    have n13 : (i.op == 13) = false := by simpa using c13
    clear c10 c13
    by_cases c31 : i.op = 31
    · have n31 : (i.op == 31) = true := by simpa using c31
      have nf : i.flags = false := no_flags hR (by rw [c31]; rfl)
      have n32 : (i.op == 32) = false := by rw [c31]; rfl
      clear c31
      cases hs : i.sys == 23056
      · have hE : Hid (false = (true && flag1 i) ∧ false = (true && flag2 i)) := by show _ ∧ _; simp [flag1, flag2, *]
        repeat' (first | with_reducible refine then_exit ?_ | with_reducible refine then_normal ?_ | with_reducible refine inBlock_eq ?_ | with_reducible refine inBlock_ne rfl ?_ | with_reducible refine inBlock_normal ?_ | ((with_reducible refine wpList_load_cell rfl 3 _ rfl _ _ rfl _ (H1.at _ _ rfl) (agg3 _) ?_); simp only [Act.put, List.setIfInBounds_toArray, List.set_cons_succ, List.set_cons_zero]) | ((with_reducible refine wpList_load_cell rfl 4 _ rfl _ _ rfl _ (H1.at _ _ rfl) (agg4 _) ?_); simp only [Act.put, List.setIfInBounds_toArray, List.set_cons_succ, List.set_cons_zero]) | go_step)
        all_goals (go_ret2; exact ⟨ret_bb hE.out.1 hE.out.2, H1.below⟩)
      · have hE : Hid (true = (true && flag1 i) ∧ false = (true && flag2 i)) := by show _ ∧ _; simp [flag1, flag2, *]
        repeat' (first | with_reducible refine then_exit ?_ | with_reducible refine then_normal ?_ | with_reducible refine inBlock_eq ?_ | with_reducible refine inBlock_ne rfl ?_ | with_reducible refine inBlock_normal ?_ | ((with_reducible refine wpList_load_cell rfl 3 _ rfl _ _ rfl _ (H1.at _ _ rfl) (agg3 _) ?_); simp only [Act.put, List.setIfInBounds_toArray, List.set_cons_succ, List.set_cons_zero]) | ((with_reducible refine wpList_load_cell rfl 4 _ rfl _ _ rfl _ (H1.at _ _ rfl) (agg4 _) ?_); simp only [Act.put, List.setIfInBounds_toArray, List.set_cons_succ, List.set_cons_zero]) | go_step)
        all_goals (go_ret2; exact ⟨ret_bb hE.out.1 hE.out.2, H1.below⟩)
    by_cases c32 : i.op = 32
    · have n31 : (i.op == 31) = false := by rw [c32]; rfl
      have nf : i.flags = false := no_flags hR (by rw [c32]; rfl)
      have n32 : (i.op == 32) = true := by simpa using c32
      clear c32 c31
      cases hs : i.sys == 23056
      · have hE : Hid (false = (true && flag1 i) ∧ false = (true && flag2 i)) := by show _ ∧ _; simp [flag1, flag2, *]
        repeat' (first | with_reducible refine then_exit ?_ | with_reducible refine then_normal ?_ | with_reducible refine inBlock_eq ?_ | with_reducible refine inBlock_ne rfl ?_ | with_reducible refine inBlock_normal ?_ | ((with_reducible refine wpList_load_cell rfl 3 _ rfl _ _ rfl _ (H1.at _ _ rfl) (agg3 _) ?_); simp only [Act.put, List.setIfInBounds_toArray, List.set_cons_succ, List.set_cons_zero]) | ((with_reducible refine wpList_load_cell rfl 4 _ rfl _ _ rfl _ (H1.at _ _ rfl) (agg4 _) ?_); simp only [Act.put, List.setIfInBounds_toArray, List.set_cons_succ, List.set_cons_zero]) | go_step)
        all_goals (go_ret2; exact ⟨ret_bb hE.out.1 hE.out.2, H1.below⟩)
      · have hE : Hid (false = (true && flag1 i) ∧ true = (true && flag2 i)) := by show _ ∧ _; simp [flag1, flag2, *]
        repeat' (first | with_reducible refine then_exit ?_ | with_reducible refine then_normal ?_ | with_reducible refine inBlock_eq ?_ | with_reducible refine inBlock_ne rfl ?_ | with_reducible refine inBlock_normal ?_ | ((with_reducible refine wpList_load_cell rfl 3 _ rfl _ _ rfl _ (H1.at _ _ rfl) (agg3 _) ?_); simp only [Act.put, List.setIfInBounds_toArray, List.set_cons_succ, List.set_cons_zero]) | ((with_reducible refine wpList_load_cell rfl 4 _ rfl _ _ rfl _ (H1.at _ _ rfl) (agg4 _) ?_); simp only [Act.put, List.setIfInBounds_toArray, List.set_cons_succ, List.set_cons_zero]) | go_step)
        all_goals (go_ret2; exact ⟨ret_bb hE.out.1 hE.out.2, H1.below⟩)
    have n31 : (i.op == 31) = false := by simpa using c31
    have n32 : (i.op == 32) = false := by simpa using c32
    clear c31 c32
    have hE : Hid (false = (true && flag1 i) ∧ i.flags = (true && flag2 i)) := by show _ ∧ _; simp [flag1, flag2, *]
    repeat' (first | with_reducible refine then_exit ?_ | with_reducible refine then_normal ?_ | with_reducible refine inBlock_eq ?_ | with_reducible refine inBlock_ne rfl ?_ | with_reducible refine inBlock_normal ?_ | ((with_reducible refine wpList_load_cell rfl 3 _ rfl _ _ rfl _ (H1.at _ _ rfl) (agg3 _) ?_); simp only [Act.put, List.setIfInBounds_toArray, List.set_cons_succ, List.set_cons_zero]) | ((with_reducible refine wpList_load_cell rfl 4 _ rfl _ _ rfl _ (H1.at _ _ rfl) (agg4 _) ?_); simp only [Act.put, List.setIfInBounds_toArray, List.set_cons_succ, List.set_cons_zero]) | go_step)
    have hc := H1.at 12 (.bool i.flags) rfl
    go_quiet (fail)
    go_wp2
    all_goals (go_ret2; exact ⟨ret_bb hE.out.1 hE.out.2, below_draws H1.below⟩)
end Go.Proofs.YtjmdgfimmjodjaaGreatDoor
