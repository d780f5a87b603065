/- The word of an instruction of the other Ops: contracts. -/
import Derived.Test.YtmbefmmnkfoneaaDoorOuts
namespace Go.Proofs.YtmbefmmnkfoneaaDoor
open Go.RowKit Go.Rel

set_option maxRecDepth 4000 in
set_option maxHeartbeats 4000000 in
theorem word17 (sub rd rn rm ra imm imm2 amount shift cond sys : Int) (flags minus not link : Bool) (w : World) : Calls Tryd.prog 24 #[(⟨17, sub, rd, rn, rm, ra, imm, imm2, amount, shift, cond, sys, flags, minus, not, link⟩ : Ins).val] w fun e w' => e = .returned (strV (wordV ⟨17, sub, rd, rn, rm, ra, imm, imm2, amount, shift, cond, sys, flags, minus, not, link⟩)) ∧ Below w.heap.size w w' := by
  have HB := one_start ⟨17, sub, rd, rn, rm, ra, imm, imm2, amount, shift, cond, sys, flags, minus, not, link⟩ w
  go_enter Tryd.func24, Tryd.ntmps24
  repeat' (first | with_reducible refine then_exit ?_ | with_reducible refine then_normal ?_ | with_reducible refine inBlock_eq ?_ | with_reducible refine inBlock_ne rfl ?_ | with_reducible refine inBlock_normal ?_ | (refine wpList_load_if rfl 23 _ rfl w.heap.size rfl 23 _ (0, 0) _ HB.box Tryd.underlying23 rfl (by kernel_rfl) ?_; simp only [Act.put, List.setIfInBounds_toArray, List.set_cons_succ, List.set_cons_zero]) | (go_at_call 50; refine (out17 _ _ _ _ _ _ _ _ _ _ _ _ _ _ _ _).mono ?_; rintro e w' ⟨rfl, hb⟩; dsimp only) | go_step)
  go_ret
  exact ⟨rfl, below_then (below_alloc _ _) hb⟩
set_option maxRecDepth 4000 in
set_option maxHeartbeats 4000000 in
theorem word18 (sub rd rn rm ra imm imm2 amount shift cond sys : Int) (flags minus not link : Bool) (w : World) : Calls Tryd.prog 24 #[(⟨18, sub, rd, rn, rm, ra, imm, imm2, amount, shift, cond, sys, flags, minus, not, link⟩ : Ins).val] w fun e w' => e = .returned (strV (wordV ⟨18, sub, rd, rn, rm, ra, imm, imm2, amount, shift, cond, sys, flags, minus, not, link⟩)) ∧ Below w.heap.size w w' := by
  have HB := one_start ⟨18, sub, rd, rn, rm, ra, imm, imm2, amount, shift, cond, sys, flags, minus, not, link⟩ w
  go_enter Tryd.func24, Tryd.ntmps24
  repeat' (first | with_reducible refine then_exit ?_ | with_reducible refine then_normal ?_ | with_reducible refine inBlock_eq ?_ | with_reducible refine inBlock_ne rfl ?_ | with_reducible refine inBlock_normal ?_ | (refine wpList_load_if rfl 23 _ rfl w.heap.size rfl 23 _ (0, 0) _ HB.box Tryd.underlying23 rfl (by kernel_rfl) ?_; simp only [Act.put, List.setIfInBounds_toArray, List.set_cons_succ, List.set_cons_zero]) | (go_at_call 50; refine (out18 _ _ _ _ _ _ _ _ _ _ _ _ _ _ _ _).mono ?_; rintro e w' ⟨rfl, hb⟩; dsimp only) | go_step)
  go_ret
  exact ⟨rfl, below_then (below_alloc _ _) hb⟩
set_option maxRecDepth 4000 in
set_option maxHeartbeats 4000000 in
theorem word19 (sub rd rn rm ra imm imm2 amount shift cond sys : Int) (flags minus not link : Bool) (w : World) : Calls Tryd.prog 24 #[(⟨19, sub, rd, rn, rm, ra, imm, imm2, amount, shift, cond, sys, flags, minus, not, link⟩ : Ins).val] w fun e w' => e = .returned (strV (wordV ⟨19, sub, rd, rn, rm, ra, imm, imm2, amount, shift, cond, sys, flags, minus, not, link⟩)) ∧ Below w.heap.size w w' := by
  have HB := one_start ⟨19, sub, rd, rn, rm, ra, imm, imm2, amount, shift, cond, sys, flags, minus, not, link⟩ w
  go_enter Tryd.func24, Tryd.ntmps24
  repeat' (first | with_reducible refine then_exit ?_ | with_reducible refine then_normal ?_ | with_reducible refine inBlock_eq ?_ | with_reducible refine inBlock_ne rfl ?_ | with_reducible refine inBlock_normal ?_ | (refine wpList_load_if rfl 23 _ rfl w.heap.size rfl 23 _ (0, 0) _ HB.box Tryd.underlying23 rfl (by kernel_rfl) ?_; simp only [Act.put, List.setIfInBounds_toArray, List.set_cons_succ, List.set_cons_zero]) | (go_at_call 50; refine (out19 _ _ _ _ _ _ _ _ _ _ _ _ _ _ _ _).mono ?_; rintro e w' ⟨rfl, hb⟩; dsimp only) | go_step)
  go_ret
  exact ⟨rfl, below_then (below_alloc _ _) hb⟩
set_option maxRecDepth 4000 in
set_option maxHeartbeats 4000000 in
theorem word20 (sub rd rn rm ra imm imm2 amount shift cond sys : Int) (flags minus not link : Bool) (w : World) : Calls Tryd.prog 24 #[(⟨20, sub, rd, rn, rm, ra, imm, imm2, amount, shift, cond, sys, flags, minus, not, link⟩ : Ins).val] w fun e w' => e = .returned (strV (wordV ⟨20, sub, rd, rn, rm, ra, imm, imm2, amount, shift, cond, sys, flags, minus, not, link⟩)) ∧ Below w.heap.size w w' := by
  have HB := one_start ⟨20, sub, rd, rn, rm, ra, imm, imm2, amount, shift, cond, sys, flags, minus, not, link⟩ w
  go_enter Tryd.func24, Tryd.ntmps24
  repeat' (first | with_reducible refine then_exit ?_ | with_reducible refine then_normal ?_ | with_reducible refine inBlock_eq ?_ | with_reducible refine inBlock_ne rfl ?_ | with_reducible refine inBlock_normal ?_ | (refine wpList_load_if rfl 23 _ rfl w.heap.size rfl 23 _ (0, 0) _ HB.box Tryd.underlying23 rfl (by kernel_rfl) ?_; simp only [Act.put, List.setIfInBounds_toArray, List.set_cons_succ, List.set_cons_zero]) | (go_at_call 50; refine (out20 _ _ _ _ _ _ _ _ _ _ _ _ _ _ _ _).mono ?_; rintro e w' ⟨rfl, hb⟩; dsimp only) | go_step)
  go_ret
  exact ⟨rfl, below_then (below_alloc _ _) hb⟩
set_option maxRecDepth 4000 in
set_option maxHeartbeats 4000000 in
theorem word21 (sub rd rn rm ra imm imm2 amount shift cond sys : Int) (flags minus not link : Bool) (h0 : 0 ≤ sub) (h1 : sub ≤ 1) (w : World) : Calls Tryd.prog 24 #[(⟨21, sub, rd, rn, rm, ra, imm, imm2, amount, shift, cond, sys, flags, minus, not, link⟩ : Ins).val] w fun e w' => e = .returned (strV (wordV ⟨21, sub, rd, rn, rm, ra, imm, imm2, amount, shift, cond, sys, flags, minus, not, link⟩)) ∧ Below w.heap.size w w' := by
  have H0 : Hid (0 ≤ sub) := h0
  have H1 : Hid (sub ≤ 1) := h1
  clear h0 h1
  have HB := one_start ⟨21, sub, rd, rn, rm, ra, imm, imm2, amount, shift, cond, sys, flags, minus, not, link⟩ w
  go_enter Tryd.func24, Tryd.ntmps24
  repeat' (first | with_reducible refine then_exit ?_ | with_reducible refine then_normal ?_ | with_reducible refine inBlock_eq ?_ | with_reducible refine inBlock_ne rfl ?_ | with_reducible refine inBlock_normal ?_ | (refine wpList_load_if rfl 23 _ rfl w.heap.size rfl 23 _ (0, 0) _ HB.box Tryd.underlying23 rfl (by kernel_rfl) ?_; simp only [Act.put, List.setIfInBounds_toArray, List.set_cons_succ, List.set_cons_zero]) | (go_at_call 50; refine (out21 _ _ _ _ _ _ _ _ _ _ _ _ _ _ _ H0.out H1.out _).mono ?_; rintro e w' ⟨rfl, hb⟩; dsimp only) | go_step)
  go_ret
  exact ⟨rfl, below_then (below_alloc _ _) hb⟩
set_option maxRecDepth 4000 in
set_option maxHeartbeats 4000000 in
theorem word22 (sub rd rn rm ra imm imm2 amount shift cond sys : Int) (flags minus not link : Bool) (w : World) : Calls Tryd.prog 24 #[(⟨22, sub, rd, rn, rm, ra, imm, imm2, amount, shift, cond, sys, flags, minus, not, link⟩ : Ins).val] w fun e w' => e = .returned (strV (wordV ⟨22, sub, rd, rn, rm, ra, imm, imm2, amount, shift, cond, sys, flags, minus, not, link⟩)) ∧ Below w.heap.size w w' := by
  have HB := one_start ⟨22, sub, rd, rn, rm, ra, imm, imm2, amount, shift, cond, sys, flags, minus, not, link⟩ w
  go_enter Tryd.func24, Tryd.ntmps24
  repeat' (first | with_reducible refine then_exit ?_ | with_reducible refine then_normal ?_ | with_reducible refine inBlock_eq ?_ | with_reducible refine inBlock_ne rfl ?_ | with_reducible refine inBlock_normal ?_ | (refine wpList_load_if rfl 23 _ rfl w.heap.size rfl 23 _ (0, 0) _ HB.box Tryd.underlying23 rfl (by kernel_rfl) ?_; simp only [Act.put, List.setIfInBounds_toArray, List.set_cons_succ, List.set_cons_zero]) | (go_at_call 50; refine (out22 _ _ _ _ _ _ _ _ _ _ _ _ _ _ _ _).mono ?_; rintro e w' ⟨rfl, hb⟩; dsimp only) | go_step)
  go_ret
  exact ⟨rfl, below_then (below_alloc _ _) hb⟩
set_option maxRecDepth 4000 in
set_option maxHeartbeats 4000000 in
theorem word23 (sub rd rn rm ra imm imm2 amount shift cond sys : Int) (flags minus not link : Bool) (h0 : 0 ≤ sub) (h1 : sub ≤ 1) (w : World) : Calls Tryd.prog 24 #[(⟨23, sub, rd, rn, rm, ra, imm, imm2, amount, shift, cond, sys, flags, minus, not, link⟩ : Ins).val] w fun e w' => e = .returned (strV (wordV ⟨23, sub, rd, rn, rm, ra, imm, imm2, amount, shift, cond, sys, flags, minus, not, link⟩)) ∧ Below w.heap.size w w' := by
  have H0 : Hid (0 ≤ sub) := h0
  have H1 : Hid (sub ≤ 1) := h1
  clear h0 h1
  have HB := one_start ⟨23, sub, rd, rn, rm, ra, imm, imm2, amount, shift, cond, sys, flags, minus, not, link⟩ w
  go_enter Tryd.func24, Tryd.ntmps24
  repeat' (first | with_reducible refine then_exit ?_ | with_reducible refine then_normal ?_ | with_reducible refine inBlock_eq ?_ | with_reducible refine inBlock_ne rfl ?_ | with_reducible refine inBlock_normal ?_ | (refine wpList_load_if rfl 23 _ rfl w.heap.size rfl 23 _ (0, 0) _ HB.box Tryd.underlying23 rfl (by kernel_rfl) ?_; simp only [Act.put, List.setIfInBounds_toArray, List.set_cons_succ, List.set_cons_zero]) | (go_at_call 50; refine (out23 _ _ _ _ _ _ _ _ _ _ _ _ _ _ _ H0.out H1.out _).mono ?_; rintro e w' ⟨rfl, hb⟩; dsimp only) | go_step)
  go_ret
  exact ⟨rfl, below_then (below_alloc _ _) hb⟩
set_option maxRecDepth 4000 in
set_option maxHeartbeats 4000000 in
theorem word24 (sub rd rn rm ra imm imm2 amount shift cond sys : Int) (flags minus not link : Bool) (h0 : 0 ≤ sub) (h1 : sub ≤ 1) (w : World) : Calls Tryd.prog 24 #[(⟨24, sub, rd, rn, rm, ra, imm, imm2, amount, shift, cond, sys, flags, minus, not, link⟩ : Ins).val] w fun e w' => e = .returned (strV (wordV ⟨24, sub, rd, rn, rm, ra, imm, imm2, amount, shift, cond, sys, flags, minus, not, link⟩)) ∧ Below w.heap.size w w' := by
  have H0 : Hid (0 ≤ sub) := h0
  have H1 : Hid (sub ≤ 1) := h1
  clear h0 h1
  have HB := one_start ⟨24, sub, rd, rn, rm, ra, imm, imm2, amount, shift, cond, sys, flags, minus, not, link⟩ w
  go_enter Tryd.func24, Tryd.ntmps24
  repeat' (first | with_reducible refine then_exit ?_ | with_reducible refine then_normal ?_ | with_reducible refine inBlock_eq ?_ | with_reducible refine inBlock_ne rfl ?_ | with_reducible refine inBlock_normal ?_ | (refine wpList_load_if rfl 23 _ rfl w.heap.size rfl 23 _ (0, 0) _ HB.box Tryd.underlying23 rfl (by kernel_rfl) ?_; simp only [Act.put, List.setIfInBounds_toArray, List.set_cons_succ, List.set_cons_zero]) | (go_at_call 50; refine (out24 _ _ _ _ _ _ _ _ _ _ _ _ _ _ _ H0.out H1.out _).mono ?_; rintro e w' ⟨rfl, hb⟩; dsimp only) | go_step)
  go_ret
  exact ⟨rfl, below_then (below_alloc _ _) hb⟩
set_option maxRecDepth 4000 in
set_option maxHeartbeats 4000000 in
theorem word25 (sub rd rn rm ra imm imm2 amount shift cond sys : Int) (flags minus not link : Bool) (w : World) : Calls Tryd.prog 24 #[(⟨25, sub, rd, rn, rm, ra, imm, imm2, amount, shift, cond, sys, flags, minus, not, link⟩ : Ins).val] w fun e w' => e = .returned (strV (wordV ⟨25, sub, rd, rn, rm, ra, imm, imm2, amount, shift, cond, sys, flags, minus, not, link⟩)) ∧ Below w.heap.size w w' := by
  have HB := one_start ⟨25, sub, rd, rn, rm, ra, imm, imm2, amount, shift, cond, sys, flags, minus, not, link⟩ w
  go_enter Tryd.func24, Tryd.ntmps24
  repeat' (first | with_reducible refine then_exit ?_ | with_reducible refine then_normal ?_ | with_reducible refine inBlock_eq ?_ | with_reducible refine inBlock_ne rfl ?_ | with_reducible refine inBlock_normal ?_ | (refine wpList_load_if rfl 23 _ rfl w.heap.size rfl 23 _ (0, 0) _ HB.box Tryd.underlying23 rfl (by kernel_rfl) ?_; simp only [Act.put, List.setIfInBounds_toArray, List.set_cons_succ, List.set_cons_zero]) | (go_at_call 50; refine (out25 _ _ _ _ _ _ _ _ _ _ _ _ _ _ _ _).mono ?_; rintro e w' ⟨rfl, hb⟩; dsimp only) | go_step)
  go_ret
  exact ⟨rfl, below_then (below_alloc _ _) hb⟩
set_option maxRecDepth 4000 in
set_option maxHeartbeats 4000000 in
theorem word26 (sub rd rn rm ra imm imm2 amount shift cond sys : Int) (flags minus not link : Bool) (h0 : 0 ≤ sub) (h1 : sub ≤ 1) (w : World) : Calls Tryd.prog 24 #[(⟨26, sub, rd, rn, rm, ra, imm, imm2, amount, shift, cond, sys, flags, minus, not, link⟩ : Ins).val] w fun e w' => e = .returned (strV (wordV ⟨26, sub, rd, rn, rm, ra, imm, imm2, amount, shift, cond, sys, flags, minus, not, link⟩)) ∧ Below w.heap.size w w' := by
  have H0 : Hid (0 ≤ sub) := h0
  have H1 : Hid (sub ≤ 1) := h1
  clear h0 h1
  have HB := one_start ⟨26, sub, rd, rn, rm, ra, imm, imm2, amount, shift, cond, sys, flags, minus, not, link⟩ w
  go_enter Tryd.func24, Tryd.ntmps24
  repeat' (first | with_reducible refine then_exit ?_ | with_reducible refine then_normal ?_ | with_reducible refine inBlock_eq ?_ | with_reducible refine inBlock_ne rfl ?_ | with_reducible refine inBlock_normal ?_ | (refine wpList_load_if rfl 23 _ rfl w.heap.size rfl 23 _ (0, 0) _ HB.box Tryd.underlying23 rfl (by kernel_rfl) ?_; simp only [Act.put, List.setIfInBounds_toArray, List.set_cons_succ, List.set_cons_zero]) | (go_at_call 50; refine (out26 _ _ _ _ _ _ _ _ _ _ _ _ _ _ _ H0.out H1.out _).mono ?_; rintro e w' ⟨rfl, hb⟩; dsimp only) | go_step)
  go_ret
  exact ⟨rfl, below_then (below_alloc _ _) hb⟩
set_option maxRecDepth 4000 in
set_option maxHeartbeats 4000000 in
theorem word27 (sub rd rn rm ra imm imm2 amount shift cond sys : Int) (flags minus not link : Bool) (w : World) : Calls Tryd.prog 24 #[(⟨27, sub, rd, rn, rm, ra, imm, imm2, amount, shift, cond, sys, flags, minus, not, link⟩ : Ins).val] w fun e w' => e = .returned (strV (wordV ⟨27, sub, rd, rn, rm, ra, imm, imm2, amount, shift, cond, sys, flags, minus, not, link⟩)) ∧ Below w.heap.size w w' := by
  have HB := one_start ⟨27, sub, rd, rn, rm, ra, imm, imm2, amount, shift, cond, sys, flags, minus, not, link⟩ w
  go_enter Tryd.func24, Tryd.ntmps24
  repeat' (first | with_reducible refine then_exit ?_ | with_reducible refine then_normal ?_ | with_reducible refine inBlock_eq ?_ | with_reducible refine inBlock_ne rfl ?_ | with_reducible refine inBlock_normal ?_ | (refine wpList_load_if rfl 23 _ rfl w.heap.size rfl 23 _ (0, 0) _ HB.box Tryd.underlying23 rfl (by kernel_rfl) ?_; simp only [Act.put, List.setIfInBounds_toArray, List.set_cons_succ, List.set_cons_zero]) | (go_at_call 50; refine (out27 _ _ _ _ _ _ _ _ _ _ _ _ _ _ _ _).mono ?_; rintro e w' ⟨rfl, hb⟩; dsimp only) | go_step)
  go_ret
  exact ⟨rfl, below_then (below_alloc _ _) hb⟩
set_option maxRecDepth 4000 in
set_option maxHeartbeats 4000000 in
theorem word28 (sub rd rn rm ra imm imm2 amount shift cond sys : Int) (flags minus not link : Bool) (w : World) : Calls Tryd.prog 24 #[(⟨28, sub, rd, rn, rm, ra, imm, imm2, amount, shift, cond, sys, flags, minus, not, link⟩ : Ins).val] w fun e w' => e = .returned (strV (wordV ⟨28, sub, rd, rn, rm, ra, imm, imm2, amount, shift, cond, sys, flags, minus, not, link⟩)) ∧ Below w.heap.size w w' := by
  have HB := one_start ⟨28, sub, rd, rn, rm, ra, imm, imm2, amount, shift, cond, sys, flags, minus, not, link⟩ w
  go_enter Tryd.func24, Tryd.ntmps24
  repeat' (first | with_reducible refine then_exit ?_ | with_reducible refine then_normal ?_ | with_reducible refine inBlock_eq ?_ | with_reducible refine inBlock_ne rfl ?_ | with_reducible refine inBlock_normal ?_ | (refine wpList_load_if rfl 23 _ rfl w.heap.size rfl 23 _ (0, 0) _ HB.box Tryd.underlying23 rfl (by kernel_rfl) ?_; simp only [Act.put, List.setIfInBounds_toArray, List.set_cons_succ, List.set_cons_zero]) | (go_at_call 50; refine (out28 _ _ _ _ _ _ _ _ _ _ _ _ _ _ _ _).mono ?_; rintro e w' ⟨rfl, hb⟩; dsimp only) | go_step)
  go_ret
  exact ⟨rfl, below_then (below_alloc _ _) hb⟩
set_option maxRecDepth 4000 in
set_option maxHeartbeats 4000000 in
theorem word29 (sub rd rn rm ra imm imm2 amount shift cond sys : Int) (flags minus not link : Bool) (w : World) : Calls Tryd.prog 24 #[(⟨29, sub, rd, rn, rm, ra, imm, imm2, amount, shift, cond, sys, flags, minus, not, link⟩ : Ins).val] w fun e w' => e = .returned (strV (wordV ⟨29, sub, rd, rn, rm, ra, imm, imm2, amount, shift, cond, sys, flags, minus, not, link⟩)) ∧ Below w.heap.size w w' := by
  have HB := one_start ⟨29, sub, rd, rn, rm, ra, imm, imm2, amount, shift, cond, sys, flags, minus, not, link⟩ w
  go_enter Tryd.func24, Tryd.ntmps24
  repeat' (first | with_reducible refine then_exit ?_ | with_reducible refine then_normal ?_ | with_reducible refine inBlock_eq ?_ | with_reducible refine inBlock_ne rfl ?_ | with_reducible refine inBlock_normal ?_ | (refine wpList_load_if rfl 23 _ rfl w.heap.size rfl 23 _ (0, 0) _ HB.box Tryd.underlying23 rfl (by kernel_rfl) ?_; simp only [Act.put, List.setIfInBounds_toArray, List.set_cons_succ, List.set_cons_zero]) | (go_at_call 50; refine (out29 _ _ _ _ _ _ _ _ _ _ _ _ _ _ _ _).mono ?_; rintro e w' ⟨rfl, hb⟩; dsimp only) | go_step)
  go_ret
  exact ⟨rfl, below_then (below_alloc _ _) hb⟩
set_option maxRecDepth 4000 in
set_option maxHeartbeats 4000000 in
theorem word30 (sub rd rn rm ra imm imm2 amount shift cond sys : Int) (flags minus not link : Bool) (w : World) : Calls Tryd.prog 24 #[(⟨30, sub, rd, rn, rm, ra, imm, imm2, amount, shift, cond, sys, flags, minus, not, link⟩ : Ins).val] w fun e w' => e = .returned (strV (wordV ⟨30, sub, rd, rn, rm, ra, imm, imm2, amount, shift, cond, sys, flags, minus, not, link⟩)) ∧ Below w.heap.size w w' := by
  have HB := one_start ⟨30, sub, rd, rn, rm, ra, imm, imm2, amount, shift, cond, sys, flags, minus, not, link⟩ w
  go_enter Tryd.func24, Tryd.ntmps24
  repeat' (first | with_reducible refine then_exit ?_ | with_reducible refine then_normal ?_ | with_reducible refine inBlock_eq ?_ | with_reducible refine inBlock_ne rfl ?_ | with_reducible refine inBlock_normal ?_ | (refine wpList_load_if rfl 23 _ rfl w.heap.size rfl 23 _ (0, 0) _ HB.box Tryd.underlying23 rfl (by kernel_rfl) ?_; simp only [Act.put, List.setIfInBounds_toArray, List.set_cons_succ, List.set_cons_zero]) | (go_at_call 50; refine (out30 _ _ _ _ _ _ _ _ _ _ _ _ _ _ _ _).mono ?_; rintro e w' ⟨rfl, hb⟩; dsimp only) | go_step)
  go_ret
  exact ⟨rfl, below_then (below_alloc _ _) hb⟩
set_option maxRecDepth 4000 in
set_option maxHeartbeats 4000000 in
theorem word31 (sub rd rn rm ra imm imm2 amount shift cond sys : Int) (flags minus not link : Bool) (w : World) : Calls Tryd.prog 24 #[(⟨31, sub, rd, rn, rm, ra, imm, imm2, amount, shift, cond, sys, flags, minus, not, link⟩ : Ins).val] w fun e w' => e = .returned (strV (wordV ⟨31, sub, rd, rn, rm, ra, imm, imm2, amount, shift, cond, sys, flags, minus, not, link⟩)) ∧ Below w.heap.size w w' := by
  have HB := one_start ⟨31, sub, rd, rn, rm, ra, imm, imm2, amount, shift, cond, sys, flags, minus, not, link⟩ w
  go_enter Tryd.func24, Tryd.ntmps24
  repeat' (first | with_reducible refine then_exit ?_ | with_reducible refine then_normal ?_ | with_reducible refine inBlock_eq ?_ | with_reducible refine inBlock_ne rfl ?_ | with_reducible refine inBlock_normal ?_ | (refine wpList_load_if rfl 23 _ rfl w.heap.size rfl 23 _ (0, 0) _ HB.box Tryd.underlying23 rfl (by kernel_rfl) ?_; simp only [Act.put, List.setIfInBounds_toArray, List.set_cons_succ, List.set_cons_zero]) | (go_at_call 50; refine (out31 _ _ _ _ _ _ _ _ _ _ _ _ _ _ _ _).mono ?_; rintro e w' ⟨rfl, hb⟩; dsimp only) | go_step)
  go_ret
  exact ⟨rfl, below_then (below_alloc _ _) hb⟩
set_option maxRecDepth 4000 in
set_option maxHeartbeats 4000000 in
theorem word32 (sub rd rn rm ra imm imm2 amount shift cond sys : Int) (flags minus not link : Bool) (w : World) : Calls Tryd.prog 24 #[(⟨32, sub, rd, rn, rm, ra, imm, imm2, amount, shift, cond, sys, flags, minus, not, link⟩ : Ins).val] w fun e w' => e = .returned (strV (wordV ⟨32, sub, rd, rn, rm, ra, imm, imm2, amount, shift, cond, sys, flags, minus, not, link⟩)) ∧ Below w.heap.size w w' := by
  have HB := one_start ⟨32, sub, rd, rn, rm, ra, imm, imm2, amount, shift, cond, sys, flags, minus, not, link⟩ w
  go_enter Tryd.func24, Tryd.ntmps24
  repeat' (first | with_reducible refine then_exit ?_ | with_reducible refine then_normal ?_ | with_reducible refine inBlock_eq ?_ | with_reducible refine inBlock_ne rfl ?_ | with_reducible refine inBlock_normal ?_ | (refine wpList_load_if rfl 23 _ rfl w.heap.size rfl 23 _ (0, 0) _ HB.box Tryd.underlying23 rfl (by kernel_rfl) ?_; simp only [Act.put, List.setIfInBounds_toArray, List.set_cons_succ, List.set_cons_zero]) | (go_at_call 50; refine (out32 _ _ _ _ _ _ _ _ _ _ _ _ _ _ _ _).mono ?_; rintro e w' ⟨rfl, hb⟩; dsimp only) | go_step)
  go_ret
  exact ⟨rfl, below_then (below_alloc _ _) hb⟩
set_option maxRecDepth 4000 in
set_option maxHeartbeats 4000000 in
theorem word33 (sub rd rn rm ra imm imm2 amount shift cond sys : Int) (flags minus not link : Bool) (w : World) : Calls Tryd.prog 24 #[(⟨33, sub, rd, rn, rm, ra, imm, imm2, amount, shift, cond, sys, flags, minus, not, link⟩ : Ins).val] w fun e w' => e = .returned (strV (wordV ⟨33, sub, rd, rn, rm, ra, imm, imm2, amount, shift, cond, sys, flags, minus, not, link⟩)) ∧ Below w.heap.size w w' := by
  have HB := one_start ⟨33, sub, rd, rn, rm, ra, imm, imm2, amount, shift, cond, sys, flags, minus, not, link⟩ w
  go_enter Tryd.func24, Tryd.ntmps24
  repeat' (first | with_reducible refine then_exit ?_ | with_reducible refine then_normal ?_ | with_reducible refine inBlock_eq ?_ | with_reducible refine inBlock_ne rfl ?_ | with_reducible refine inBlock_normal ?_ | (refine wpList_load_if rfl 23 _ rfl w.heap.size rfl 23 _ (0, 0) _ HB.box Tryd.underlying23 rfl (by kernel_rfl) ?_; simp only [Act.put, List.setIfInBounds_toArray, List.set_cons_succ, List.set_cons_zero]) | (go_at_call 50; refine (out33 _ _ _ _ _ _ _ _ _ _ _ _ _ _ _ _).mono ?_; rintro e w' ⟨rfl, hb⟩; dsimp only) | go_step)
  go_ret
  exact ⟨rfl, below_then (below_alloc _ _) hb⟩
set_option maxRecDepth 4000 in
set_option maxHeartbeats 4000000 in
theorem word34 (sub rd rn rm ra imm imm2 amount shift cond sys : Int) (flags minus not link : Bool) (w : World) : Calls Tryd.prog 24 #[(⟨34, sub, rd, rn, rm, ra, imm, imm2, amount, shift, cond, sys, flags, minus, not, link⟩ : Ins).val] w fun e w' => e = .returned (strV (wordV ⟨34, sub, rd, rn, rm, ra, imm, imm2, amount, shift, cond, sys, flags, minus, not, link⟩)) ∧ Below w.heap.size w w' := by
  have HB := one_start ⟨34, sub, rd, rn, rm, ra, imm, imm2, amount, shift, cond, sys, flags, minus, not, link⟩ w
  go_enter Tryd.func24, Tryd.ntmps24
  repeat' (first | with_reducible refine then_exit ?_ | with_reducible refine then_normal ?_ | with_reducible refine inBlock_eq ?_ | with_reducible refine inBlock_ne rfl ?_ | with_reducible refine inBlock_normal ?_ | (refine wpList_load_if rfl 23 _ rfl w.heap.size rfl 23 _ (0, 0) _ HB.box Tryd.underlying23 rfl (by kernel_rfl) ?_; simp only [Act.put, List.setIfInBounds_toArray, List.set_cons_succ, List.set_cons_zero]) | (go_at_call 50; refine (out34 _ _ _ _ _ _ _ _ _ _ _ _ _ _ _ _).mono ?_; rintro e w' ⟨rfl, hb⟩; dsimp only) | go_step)
  go_ret
  exact ⟨rfl, below_then (below_alloc _ _) hb⟩
set_option maxRecDepth 4000 in
set_option maxHeartbeats 4000000 in
theorem word35 (sub rd rn rm ra imm imm2 amount shift cond sys : Int) (flags minus not link : Bool) (w : World) : Calls Tryd.prog 24 #[(⟨35, sub, rd, rn, rm, ra, imm, imm2, amount, shift, cond, sys, flags, minus, not, link⟩ : Ins).val] w fun e w' => e = .returned (strV (wordV ⟨35, sub, rd, rn, rm, ra, imm, imm2, amount, shift, cond, sys, flags, minus, not, link⟩)) ∧ Below w.heap.size w w' := by
  have HB := one_start ⟨35, sub, rd, rn, rm, ra, imm, imm2, amount, shift, cond, sys, flags, minus, not, link⟩ w
  go_enter Tryd.func24, Tryd.ntmps24
  repeat' (first | with_reducible refine then_exit ?_ | with_reducible refine then_normal ?_ | with_reducible refine inBlock_eq ?_ | with_reducible refine inBlock_ne rfl ?_ | with_reducible refine inBlock_normal ?_ | (refine wpList_load_if rfl 23 _ rfl w.heap.size rfl 23 _ (0, 0) _ HB.box Tryd.underlying23 rfl (by kernel_rfl) ?_; simp only [Act.put, List.setIfInBounds_toArray, List.set_cons_succ, List.set_cons_zero]) | (go_at_call 50; refine (out35 _ _ _ _ _ _ _ _ _ _ _ _ _ _ _ _).mono ?_; rintro e w' ⟨rfl, hb⟩; dsimp only) | go_step)
  go_ret
  exact ⟨rfl, below_then (below_alloc _ _) hb⟩
set_option maxRecDepth 4000 in
set_option maxHeartbeats 4000000 in
theorem word36 (sub rd rn rm ra imm imm2 amount shift cond sys : Int) (flags minus not link : Bool) (w : World) : Calls Tryd.prog 24 #[(⟨36, sub, rd, rn, rm, ra, imm, imm2, amount, shift, cond, sys, flags, minus, not, link⟩ : Ins).val] w fun e w' => e = .returned (strV (wordV ⟨36, sub, rd, rn, rm, ra, imm, imm2, amount, shift, cond, sys, flags, minus, not, link⟩)) ∧ Below w.heap.size w w' := by
  have HB := one_start ⟨36, sub, rd, rn, rm, ra, imm, imm2, amount, shift, cond, sys, flags, minus, not, link⟩ w
  go_enter Tryd.func24, Tryd.ntmps24
  repeat' (first | with_reducible refine then_exit ?_ | with_reducible refine then_normal ?_ | with_reducible refine inBlock_eq ?_ | with_reducible refine inBlock_ne rfl ?_ | with_reducible refine inBlock_normal ?_ | (refine wpList_load_if rfl 23 _ rfl w.heap.size rfl 23 _ (0, 0) _ HB.box Tryd.underlying23 rfl (by kernel_rfl) ?_; simp only [Act.put, List.setIfInBounds_toArray, List.set_cons_succ, List.set_cons_zero]) | (go_at_call 50; refine (out36 _ _ _ _ _ _ _ _ _ _ _ _ _ _ _ _).mono ?_; rintro e w' ⟨rfl, hb⟩; dsimp only) | go_step)
  go_ret
  exact ⟨rfl, below_then (below_alloc _ _) hb⟩
set_option maxRecDepth 4000 in
set_option maxHeartbeats 4000000 in
theorem word37 (sub rd rn rm ra imm imm2 amount shift cond sys : Int) (flags minus not link : Bool) (w : World) : Calls Tryd.prog 24 #[(⟨37, sub, rd, rn, rm, ra, imm, imm2, amount, shift, cond, sys, flags, minus, not, link⟩ : Ins).val] w fun e w' => e = .returned (strV (wordV ⟨37, sub, rd, rn, rm, ra, imm, imm2, amount, shift, cond, sys, flags, minus, not, link⟩)) ∧ Below w.heap.size w w' := by
  have HB := one_start ⟨37, sub, rd, rn, rm, ra, imm, imm2, amount, shift, cond, sys, flags, minus, not, link⟩ w
  go_enter Tryd.func24, Tryd.ntmps24
  repeat' (first | with_reducible refine then_exit ?_ | with_reducible refine then_normal ?_ | with_reducible refine inBlock_eq ?_ | with_reducible refine inBlock_ne rfl ?_ | with_reducible refine inBlock_normal ?_ | (refine wpList_load_if rfl 23 _ rfl w.heap.size rfl 23 _ (0, 0) _ HB.box Tryd.underlying23 rfl (by kernel_rfl) ?_; simp only [Act.put, List.setIfInBounds_toArray, List.set_cons_succ, List.set_cons_zero]) | (go_at_call 50; refine (out37 _ _ _ _ _ _ _ _ _ _ _ _ _ _ _ _).mono ?_; rintro e w' ⟨rfl, hb⟩; dsimp only) | go_step)
  go_ret
  exact ⟨rfl, below_then (below_alloc _ _) hb⟩

end Go.Proofs.YtmbefmmnkfoneaaDoor
