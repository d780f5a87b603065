/- The word of an instruction of the other Ops: contracts. -/
import Derived.Test.YtjmdgfimmjodjaaGreatDoorV36
import Derived.Test.YtjmdgfimmjodjaaGreatDoorV35
namespace Go.Proofs.YtjmdgfimmjodjaaGreatDoor
open Go.RowKit Go.Rel

set_option maxRecDepth 4000 in
set_option maxHeartbeats 4000000 in
theorem word17 (S D N M A I J U F C Y : Int) (G X O L : Bool) (w : World) : Calls Tryz.prog 27 #[(⟨17, S, D, N, M, A, I, J, U, F, C, Y, G, X, O, L⟩ : Ins).val] w fun e w' => e = .returned (strV (wordV ⟨17, S, D, N, M, A, I, J, U, F, C, Y, G, X, O, L⟩)) ∧ Below w.heap.size w w' := by
  have HB := one_start ⟨17, S, D, N, M, A, I, J, U, F, C, Y, G, X, O, L⟩ w
  go_enter Tryz.func27, Tryz.ntmps27
  repeat' (first | with_reducible refine then_exit ?_ | with_reducible refine then_normal ?_ | with_reducible refine inBlock_eq ?_ | with_reducible refine inBlock_ne rfl ?_ | with_reducible refine inBlock_normal ?_ | (refine wpList_load_if rfl 23 _ rfl w.heap.size rfl 23 _ (0, 0) _ HB.box Tryz.underlying23 rfl (by kernel_rfl) ?_; simp only [Act.put, List.setIfInBounds_toArray, List.set_cons_succ, List.set_cons_zero]) | (go_at_call 64; refine (out17 _ _ _ _ _ _ _ _ _ _ _ _ _ _ _ _).mono ?_; rintro e w' ⟨rfl, hb⟩; dsimp only) | go_step)
  go_ret
  exact ⟨rfl, below_then (below_alloc _ _) hb⟩
set_option maxRecDepth 4000 in
set_option maxHeartbeats 4000000 in
theorem word18 (S D N M A I J U F C Y : Int) (G X O L : Bool) (w : World) : Calls Tryz.prog 27 #[(⟨18, S, D, N, M, A, I, J, U, F, C, Y, G, X, O, L⟩ : Ins).val] w fun e w' => e = .returned (strV (wordV ⟨18, S, D, N, M, A, I, J, U, F, C, Y, G, X, O, L⟩)) ∧ Below w.heap.size w w' := by
  have HB := one_start ⟨18, S, D, N, M, A, I, J, U, F, C, Y, G, X, O, L⟩ w
  go_enter Tryz.func27, Tryz.ntmps27
  repeat' (first | with_reducible refine then_exit ?_ | with_reducible refine then_normal ?_ | with_reducible refine inBlock_eq ?_ | with_reducible refine inBlock_ne rfl ?_ | with_reducible refine inBlock_normal ?_ | (refine wpList_load_if rfl 23 _ rfl w.heap.size rfl 23 _ (0, 0) _ HB.box Tryz.underlying23 rfl (by kernel_rfl) ?_; simp only [Act.put, List.setIfInBounds_toArray, List.set_cons_succ, List.set_cons_zero]) | (go_at_call 64; refine (out18 _ _ _ _ _ _ _ _ _ _ _ _ _ _ _ _).mono ?_; rintro e w' ⟨rfl, hb⟩; dsimp only) | go_step)
  go_ret
  exact ⟨rfl, below_then (below_alloc _ _) hb⟩
set_option maxRecDepth 4000 in
set_option maxHeartbeats 4000000 in
theorem word19 (S D N M A I J U F C Y : Int) (G X O L : Bool) (w : World) : Calls Tryz.prog 27 #[(⟨19, S, D, N, M, A, I, J, U, F, C, Y, G, X, O, L⟩ : Ins).val] w fun e w' => e = .returned (strV (wordV ⟨19, S, D, N, M, A, I, J, U, F, C, Y, G, X, O, L⟩)) ∧ Below w.heap.size w w' := by
  have HB := one_start ⟨19, S, D, N, M, A, I, J, U, F, C, Y, G, X, O, L⟩ w
  go_enter Tryz.func27, Tryz.ntmps27
  repeat' (first | with_reducible refine then_exit ?_ | with_reducible refine then_normal ?_ | with_reducible refine inBlock_eq ?_ | with_reducible refine inBlock_ne rfl ?_ | with_reducible refine inBlock_normal ?_ | (refine wpList_load_if rfl 23 _ rfl w.heap.size rfl 23 _ (0, 0) _ HB.box Tryz.underlying23 rfl (by kernel_rfl) ?_; simp only [Act.put, List.setIfInBounds_toArray, List.set_cons_succ, List.set_cons_zero]) | (go_at_call 64; refine (out19 _ _ _ _ _ _ _ _ _ _ _ _ _ _ _ _).mono ?_; rintro e w' ⟨rfl, hb⟩; dsimp only) | go_step)
  go_ret
  exact ⟨rfl, below_then (below_alloc _ _) hb⟩
set_option maxRecDepth 4000 in
set_option maxHeartbeats 4000000 in
theorem word20 (S D N M A I J U F C Y : Int) (G X O L : Bool) (w : World) : Calls Tryz.prog 27 #[(⟨20, S, D, N, M, A, I, J, U, F, C, Y, G, X, O, L⟩ : Ins).val] w fun e w' => e = .returned (strV (wordV ⟨20, S, D, N, M, A, I, J, U, F, C, Y, G, X, O, L⟩)) ∧ Below w.heap.size w w' := by
  have HB := one_start ⟨20, S, D, N, M, A, I, J, U, F, C, Y, G, X, O, L⟩ w
  go_enter Tryz.func27, Tryz.ntmps27
  repeat' (first | with_reducible refine then_exit ?_ | with_reducible refine then_normal ?_ | with_reducible refine inBlock_eq ?_ | with_reducible refine inBlock_ne rfl ?_ | with_reducible refine inBlock_normal ?_ | (refine wpList_load_if rfl 23 _ rfl w.heap.size rfl 23 _ (0, 0) _ HB.box Tryz.underlying23 rfl (by kernel_rfl) ?_; simp only [Act.put, List.setIfInBounds_toArray, List.set_cons_succ, List.set_cons_zero]) | (go_at_call 64; refine (out20 _ _ _ _ _ _ _ _ _ _ _ _ _ _ _ _).mono ?_; rintro e w' ⟨rfl, hb⟩; dsimp only) | go_step)
  go_ret
  exact ⟨rfl, below_then (below_alloc _ _) hb⟩
set_option maxRecDepth 4000 in
set_option maxHeartbeats 4000000 in
theorem word21 (S D N M A I J U F C Y : Int) (G X O L : Bool) (h0 : 0 ≤ S) (h1 : S ≤ 1) (w : World) : Calls Tryz.prog 27 #[(⟨21, S, D, N, M, A, I, J, U, F, C, Y, G, X, O, L⟩ : Ins).val] w fun e w' => e = .returned (strV (wordV ⟨21, S, D, N, M, A, I, J, U, F, C, Y, G, X, O, L⟩)) ∧ Below w.heap.size w w' := by
  have H0 : Hid (0 ≤ S) := h0
  have H1 : Hid (S ≤ 1) := h1
  clear h0 h1
  have HB := one_start ⟨21, S, D, N, M, A, I, J, U, F, C, Y, G, X, O, L⟩ w
  go_enter Tryz.func27, Tryz.ntmps27
  repeat' (first | with_reducible refine then_exit ?_ | with_reducible refine then_normal ?_ | with_reducible refine inBlock_eq ?_ | with_reducible refine inBlock_ne rfl ?_ | with_reducible refine inBlock_normal ?_ | (refine wpList_load_if rfl 23 _ rfl w.heap.size rfl 23 _ (0, 0) _ HB.box Tryz.underlying23 rfl (by kernel_rfl) ?_; simp only [Act.put, List.setIfInBounds_toArray, List.set_cons_succ, List.set_cons_zero]) | (go_at_call 64; refine (out21 _ _ _ _ _ _ _ _ _ _ _ _ _ _ _ H0.out H1.out _).mono ?_; rintro e w' ⟨rfl, hb⟩; dsimp only) | go_step)
  go_ret
  exact ⟨rfl, below_then (below_alloc _ _) hb⟩
set_option maxRecDepth 4000 in
set_option maxHeartbeats 4000000 in
theorem word22 (S D N M A I J U F C Y : Int) (G X O L : Bool) (w : World) : Calls Tryz.prog 27 #[(⟨22, S, D, N, M, A, I, J, U, F, C, Y, G, X, O, L⟩ : Ins).val] w fun e w' => e = .returned (strV (wordV ⟨22, S, D, N, M, A, I, J, U, F, C, Y, G, X, O, L⟩)) ∧ Below w.heap.size w w' := by
  have HB := one_start ⟨22, S, D, N, M, A, I, J, U, F, C, Y, G, X, O, L⟩ w
  go_enter Tryz.func27, Tryz.ntmps27
  repeat' (first | with_reducible refine then_exit ?_ | with_reducible refine then_normal ?_ | with_reducible refine inBlock_eq ?_ | with_reducible refine inBlock_ne rfl ?_ | with_reducible refine inBlock_normal ?_ | (refine wpList_load_if rfl 23 _ rfl w.heap.size rfl 23 _ (0, 0) _ HB.box Tryz.underlying23 rfl (by kernel_rfl) ?_; simp only [Act.put, List.setIfInBounds_toArray, List.set_cons_succ, List.set_cons_zero]) | (go_at_call 64; refine (out22 _ _ _ _ _ _ _ _ _ _ _ _ _ _ _ _).mono ?_; rintro e w' ⟨rfl, hb⟩; dsimp only) | go_step)
  go_ret
  exact ⟨rfl, below_then (below_alloc _ _) hb⟩
set_option maxRecDepth 4000 in
set_option maxHeartbeats 4000000 in
theorem word23 (S D N M A I J U F C Y : Int) (G X O L : Bool) (h0 : 0 ≤ S) (h1 : S ≤ 1) (w : World) : Calls Tryz.prog 27 #[(⟨23, S, D, N, M, A, I, J, U, F, C, Y, G, X, O, L⟩ : Ins).val] w fun e w' => e = .returned (strV (wordV ⟨23, S, D, N, M, A, I, J, U, F, C, Y, G, X, O, L⟩)) ∧ Below w.heap.size w w' := by
  have H0 : Hid (0 ≤ S) := h0
  have H1 : Hid (S ≤ 1) := h1
  clear h0 h1
  have HB := one_start ⟨23, S, D, N, M, A, I, J, U, F, C, Y, G, X, O, L⟩ w
  go_enter Tryz.func27, Tryz.ntmps27
  repeat' (first | with_reducible refine then_exit ?_ | with_reducible refine then_normal ?_ | with_reducible refine inBlock_eq ?_ | with_reducible refine inBlock_ne rfl ?_ | with_reducible refine inBlock_normal ?_ | (refine wpList_load_if rfl 23 _ rfl w.heap.size rfl 23 _ (0, 0) _ HB.box Tryz.underlying23 rfl (by kernel_rfl) ?_; simp only [Act.put, List.setIfInBounds_toArray, List.set_cons_succ, List.set_cons_zero]) | (go_at_call 64; refine (out23 _ _ _ _ _ _ _ _ _ _ _ _ _ _ _ H0.out H1.out _).mono ?_; rintro e w' ⟨rfl, hb⟩; dsimp only) | go_step)
  go_ret
  exact ⟨rfl, below_then (below_alloc _ _) hb⟩
set_option maxRecDepth 4000 in
set_option maxHeartbeats 4000000 in
theorem word24 (S D N M A I J U F C Y : Int) (G X O L : Bool) (h0 : 0 ≤ S) (h1 : S ≤ 1) (w : World) : Calls Tryz.prog 27 #[(⟨24, S, D, N, M, A, I, J, U, F, C, Y, G, X, O, L⟩ : Ins).val] w fun e w' => e = .returned (strV (wordV ⟨24, S, D, N, M, A, I, J, U, F, C, Y, G, X, O, L⟩)) ∧ Below w.heap.size w w' := by
  have H0 : Hid (0 ≤ S) := h0
  have H1 : Hid (S ≤ 1) := h1
  clear h0 h1
  have HB := one_start ⟨24, S, D, N, M, A, I, J, U, F, C, Y, G, X, O, L⟩ w
  go_enter Tryz.func27, Tryz.ntmps27
  repeat' (first | with_reducible refine then_exit ?_ | with_reducible refine then_normal ?_ | with_reducible refine inBlock_eq ?_ | with_reducible refine inBlock_ne rfl ?_ | with_reducible refine inBlock_normal ?_ | (refine wpList_load_if rfl 23 _ rfl w.heap.size rfl 23 _ (0, 0) _ HB.box Tryz.underlying23 rfl (by kernel_rfl) ?_; simp only [Act.put, List.setIfInBounds_toArray, List.set_cons_succ, List.set_cons_zero]) | (go_at_call 64; refine (out24 _ _ _ _ _ _ _ _ _ _ _ _ _ _ _ H0.out H1.out _).mono ?_; rintro e w' ⟨rfl, hb⟩; dsimp only) | go_step)
  go_ret
  exact ⟨rfl, below_then (below_alloc _ _) hb⟩
set_option maxRecDepth 4000 in
set_option maxHeartbeats 4000000 in
theorem word25 (S D N M A I J U F C Y : Int) (G X O L : Bool) (w : World) : Calls Tryz.prog 27 #[(⟨25, S, D, N, M, A, I, J, U, F, C, Y, G, X, O, L⟩ : Ins).val] w fun e w' => e = .returned (strV (wordV ⟨25, S, D, N, M, A, I, J, U, F, C, Y, G, X, O, L⟩)) ∧ Below w.heap.size w w' := by
  have HB := one_start ⟨25, S, D, N, M, A, I, J, U, F, C, Y, G, X, O, L⟩ w
  go_enter Tryz.func27, Tryz.ntmps27
  repeat' (first | with_reducible refine then_exit ?_ | with_reducible refine then_normal ?_ | with_reducible refine inBlock_eq ?_ | with_reducible refine inBlock_ne rfl ?_ | with_reducible refine inBlock_normal ?_ | (refine wpList_load_if rfl 23 _ rfl w.heap.size rfl 23 _ (0, 0) _ HB.box Tryz.underlying23 rfl (by kernel_rfl) ?_; simp only [Act.put, List.setIfInBounds_toArray, List.set_cons_succ, List.set_cons_zero]) | (go_at_call 64; refine (out25 _ _ _ _ _ _ _ _ _ _ _ _ _ _ _ _).mono ?_; rintro e w' ⟨rfl, hb⟩; dsimp only) | go_step)
  go_ret
  exact ⟨rfl, below_then (below_alloc _ _) hb⟩
set_option maxRecDepth 4000 in
set_option maxHeartbeats 4000000 in
theorem word26 (S D N M A I J U F C Y : Int) (G X O L : Bool) (h0 : 0 ≤ S) (h1 : S ≤ 1) (w : World) : Calls Tryz.prog 27 #[(⟨26, S, D, N, M, A, I, J, U, F, C, Y, G, X, O, L⟩ : Ins).val] w fun e w' => e = .returned (strV (wordV ⟨26, S, D, N, M, A, I, J, U, F, C, Y, G, X, O, L⟩)) ∧ Below w.heap.size w w' := by
  have H0 : Hid (0 ≤ S) := h0
  have H1 : Hid (S ≤ 1) := h1
  clear h0 h1
  have HB := one_start ⟨26, S, D, N, M, A, I, J, U, F, C, Y, G, X, O, L⟩ w
  go_enter Tryz.func27, Tryz.ntmps27
  repeat' (first | with_reducible refine then_exit ?_ | with_reducible refine then_normal ?_ | with_reducible refine inBlock_eq ?_ | with_reducible refine inBlock_ne rfl ?_ | with_reducible refine inBlock_normal ?_ | (refine wpList_load_if rfl 23 _ rfl w.heap.size rfl 23 _ (0, 0) _ HB.box Tryz.underlying23 rfl (by kernel_rfl) ?_; simp only [Act.put, List.setIfInBounds_toArray, List.set_cons_succ, List.set_cons_zero]) | (go_at_call 64; refine (out26 _ _ _ _ _ _ _ _ _ _ _ _ _ _ _ H0.out H1.out _).mono ?_; rintro e w' ⟨rfl, hb⟩; dsimp only) | go_step)
  go_ret
  exact ⟨rfl, below_then (below_alloc _ _) hb⟩
set_option maxRecDepth 4000 in
set_option maxHeartbeats 4000000 in
theorem word27 (S D N M A I J U F C Y : Int) (G X O L : Bool) (w : World) : Calls Tryz.prog 27 #[(⟨27, S, D, N, M, A, I, J, U, F, C, Y, G, X, O, L⟩ : Ins).val] w fun e w' => e = .returned (strV (wordV ⟨27, S, D, N, M, A, I, J, U, F, C, Y, G, X, O, L⟩)) ∧ Below w.heap.size w w' := by
  have HB := one_start ⟨27, S, D, N, M, A, I, J, U, F, C, Y, G, X, O, L⟩ w
  go_enter Tryz.func27, Tryz.ntmps27
  repeat' (first | with_reducible refine then_exit ?_ | with_reducible refine then_normal ?_ | with_reducible refine inBlock_eq ?_ | with_reducible refine inBlock_ne rfl ?_ | with_reducible refine inBlock_normal ?_ | (refine wpList_load_if rfl 23 _ rfl w.heap.size rfl 23 _ (0, 0) _ HB.box Tryz.underlying23 rfl (by kernel_rfl) ?_; simp only [Act.put, List.setIfInBounds_toArray, List.set_cons_succ, List.set_cons_zero]) | (go_at_call 64; refine (out27 _ _ _ _ _ _ _ _ _ _ _ _ _ _ _ _).mono ?_; rintro e w' ⟨rfl, hb⟩; dsimp only) | go_step)
  go_ret
  exact ⟨rfl, below_then (below_alloc _ _) hb⟩
set_option maxRecDepth 4000 in
set_option maxHeartbeats 4000000 in
theorem word28 (S D N M A I J U F C Y : Int) (G X O L : Bool) (w : World) : Calls Tryz.prog 27 #[(⟨28, S, D, N, M, A, I, J, U, F, C, Y, G, X, O, L⟩ : Ins).val] w fun e w' => e = .returned (strV (wordV ⟨28, S, D, N, M, A, I, J, U, F, C, Y, G, X, O, L⟩)) ∧ Below w.heap.size w w' := by
  have HB := one_start ⟨28, S, D, N, M, A, I, J, U, F, C, Y, G, X, O, L⟩ w
  go_enter Tryz.func27, Tryz.ntmps27
  repeat' (first | with_reducible refine then_exit ?_ | with_reducible refine then_normal ?_ | with_reducible refine inBlock_eq ?_ | with_reducible refine inBlock_ne rfl ?_ | with_reducible refine inBlock_normal ?_ | (refine wpList_load_if rfl 23 _ rfl w.heap.size rfl 23 _ (0, 0) _ HB.box Tryz.underlying23 rfl (by kernel_rfl) ?_; simp only [Act.put, List.setIfInBounds_toArray, List.set_cons_succ, List.set_cons_zero]) | (go_at_call 64; refine (out28 _ _ _ _ _ _ _ _ _ _ _ _ _ _ _ _).mono ?_; rintro e w' ⟨rfl, hb⟩; dsimp only) | go_step)
  go_ret
  exact ⟨rfl, below_then (below_alloc _ _) hb⟩
set_option maxRecDepth 4000 in
set_option maxHeartbeats 4000000 in
theorem word29 (S D N M A I J U F C Y : Int) (G X O L : Bool) (w : World) : Calls Tryz.prog 27 #[(⟨29, S, D, N, M, A, I, J, U, F, C, Y, G, X, O, L⟩ : Ins).val] w fun e w' => e = .returned (strV (wordV ⟨29, S, D, N, M, A, I, J, U, F, C, Y, G, X, O, L⟩)) ∧ Below w.heap.size w w' := by
  have HB := one_start ⟨29, S, D, N, M, A, I, J, U, F, C, Y, G, X, O, L⟩ w
  go_enter Tryz.func27, Tryz.ntmps27
  repeat' (first | with_reducible refine then_exit ?_ | with_reducible refine then_normal ?_ | with_reducible refine inBlock_eq ?_ | with_reducible refine inBlock_ne rfl ?_ | with_reducible refine inBlock_normal ?_ | (refine wpList_load_if rfl 23 _ rfl w.heap.size rfl 23 _ (0, 0) _ HB.box Tryz.underlying23 rfl (by kernel_rfl) ?_; simp only [Act.put, List.setIfInBounds_toArray, List.set_cons_succ, List.set_cons_zero]) | (go_at_call 64; refine (out29 _ _ _ _ _ _ _ _ _ _ _ _ _ _ _ _).mono ?_; rintro e w' ⟨rfl, hb⟩; dsimp only) | go_step)
  go_ret
  exact ⟨rfl, below_then (below_alloc _ _) hb⟩
set_option maxRecDepth 4000 in
set_option maxHeartbeats 4000000 in
theorem word30 (S D N M A I J U F C Y : Int) (G X O L : Bool) (w : World) : Calls Tryz.prog 27 #[(⟨30, S, D, N, M, A, I, J, U, F, C, Y, G, X, O, L⟩ : Ins).val] w fun e w' => e = .returned (strV (wordV ⟨30, S, D, N, M, A, I, J, U, F, C, Y, G, X, O, L⟩)) ∧ Below w.heap.size w w' := by
  have HB := one_start ⟨30, S, D, N, M, A, I, J, U, F, C, Y, G, X, O, L⟩ w
  go_enter Tryz.func27, Tryz.ntmps27
  repeat' (first | with_reducible refine then_exit ?_ | with_reducible refine then_normal ?_ | with_reducible refine inBlock_eq ?_ | with_reducible refine inBlock_ne rfl ?_ | with_reducible refine inBlock_normal ?_ | (refine wpList_load_if rfl 23 _ rfl w.heap.size rfl 23 _ (0, 0) _ HB.box Tryz.underlying23 rfl (by kernel_rfl) ?_; simp only [Act.put, List.setIfInBounds_toArray, List.set_cons_succ, List.set_cons_zero]) | (go_at_call 64; refine (out30 _ _ _ _ _ _ _ _ _ _ _ _ _ _ _ _).mono ?_; rintro e w' ⟨rfl, hb⟩; dsimp only) | go_step)
  go_ret
  exact ⟨rfl, below_then (below_alloc _ _) hb⟩
set_option maxRecDepth 4000 in
set_option maxHeartbeats 4000000 in
theorem word31 (S D N M A I J U F C Y : Int) (G X O L : Bool) (w : World) : Calls Tryz.prog 27 #[(⟨31, S, D, N, M, A, I, J, U, F, C, Y, G, X, O, L⟩ : Ins).val] w fun e w' => e = .returned (strV (wordV ⟨31, S, D, N, M, A, I, J, U, F, C, Y, G, X, O, L⟩)) ∧ Below w.heap.size w w' := by
  have HB := one_start ⟨31, S, D, N, M, A, I, J, U, F, C, Y, G, X, O, L⟩ w
  go_enter Tryz.func27, Tryz.ntmps27
  repeat' (first | with_reducible refine then_exit ?_ | with_reducible refine then_normal ?_ | with_reducible refine inBlock_eq ?_ | with_reducible refine inBlock_ne rfl ?_ | with_reducible refine inBlock_normal ?_ | (refine wpList_load_if rfl 23 _ rfl w.heap.size rfl 23 _ (0, 0) _ HB.box Tryz.underlying23 rfl (by kernel_rfl) ?_; simp only [Act.put, List.setIfInBounds_toArray, List.set_cons_succ, List.set_cons_zero]) | (go_at_call 64; refine (out31 _ _ _ _ _ _ _ _ _ _ _ _ _ _ _ _).mono ?_; rintro e w' ⟨rfl, hb⟩; dsimp only) | go_step)
  go_ret
  exact ⟨rfl, below_then (below_alloc _ _) hb⟩
set_option maxRecDepth 4000 in
set_option maxHeartbeats 4000000 in
theorem word32 (S D N M A I J U F C Y : Int) (G X O L : Bool) (w : World) : Calls Tryz.prog 27 #[(⟨32, S, D, N, M, A, I, J, U, F, C, Y, G, X, O, L⟩ : Ins).val] w fun e w' => e = .returned (strV (wordV ⟨32, S, D, N, M, A, I, J, U, F, C, Y, G, X, O, L⟩)) ∧ Below w.heap.size w w' := by
  have HB := one_start ⟨32, S, D, N, M, A, I, J, U, F, C, Y, G, X, O, L⟩ w
  go_enter Tryz.func27, Tryz.ntmps27
  repeat' (first | with_reducible refine then_exit ?_ | with_reducible refine then_normal ?_ | with_reducible refine inBlock_eq ?_ | with_reducible refine inBlock_ne rfl ?_ | with_reducible refine inBlock_normal ?_ | (refine wpList_load_if rfl 23 _ rfl w.heap.size rfl 23 _ (0, 0) _ HB.box Tryz.underlying23 rfl (by kernel_rfl) ?_; simp only [Act.put, List.setIfInBounds_toArray, List.set_cons_succ, List.set_cons_zero]) | (go_at_call 64; refine (out32 _ _ _ _ _ _ _ _ _ _ _ _ _ _ _ _).mono ?_; rintro e w' ⟨rfl, hb⟩; dsimp only) | go_step)
  go_ret
  exact ⟨rfl, below_then (below_alloc _ _) hb⟩
set_option maxRecDepth 4000 in
set_option maxHeartbeats 4000000 in
theorem word33 (S D N M A I J U F C Y : Int) (G X O L : Bool) (w : World) : Calls Tryz.prog 27 #[(⟨33, S, D, N, M, A, I, J, U, F, C, Y, G, X, O, L⟩ : Ins).val] w fun e w' => e = .returned (strV (wordV ⟨33, S, D, N, M, A, I, J, U, F, C, Y, G, X, O, L⟩)) ∧ Below w.heap.size w w' := by
  have HB := one_start ⟨33, S, D, N, M, A, I, J, U, F, C, Y, G, X, O, L⟩ w
  go_enter Tryz.func27, Tryz.ntmps27
  repeat' (first | with_reducible refine then_exit ?_ | with_reducible refine then_normal ?_ | with_reducible refine inBlock_eq ?_ | with_reducible refine inBlock_ne rfl ?_ | with_reducible refine inBlock_normal ?_ | (refine wpList_load_if rfl 23 _ rfl w.heap.size rfl 23 _ (0, 0) _ HB.box Tryz.underlying23 rfl (by kernel_rfl) ?_; simp only [Act.put, List.setIfInBounds_toArray, List.set_cons_succ, List.set_cons_zero]) | (go_at_call 64; refine (out33 _ _ _ _ _ _ _ _ _ _ _ _ _ _ _ _).mono ?_; rintro e w' ⟨rfl, hb⟩; dsimp only) | go_step)
  go_ret
  exact ⟨rfl, below_then (below_alloc _ _) hb⟩
set_option maxRecDepth 4000 in
set_option maxHeartbeats 4000000 in
theorem word34 (S D N M A I J U F C Y : Int) (G X O L : Bool) (w : World) : Calls Tryz.prog 27 #[(⟨34, S, D, N, M, A, I, J, U, F, C, Y, G, X, O, L⟩ : Ins).val] w fun e w' => e = .returned (strV (wordV ⟨34, S, D, N, M, A, I, J, U, F, C, Y, G, X, O, L⟩)) ∧ Below w.heap.size w w' := by
  have HB := one_start ⟨34, S, D, N, M, A, I, J, U, F, C, Y, G, X, O, L⟩ w
  go_enter Tryz.func27, Tryz.ntmps27
  repeat' (first | with_reducible refine then_exit ?_ | with_reducible refine then_normal ?_ | with_reducible refine inBlock_eq ?_ | with_reducible refine inBlock_ne rfl ?_ | with_reducible refine inBlock_normal ?_ | (refine wpList_load_if rfl 23 _ rfl w.heap.size rfl 23 _ (0, 0) _ HB.box Tryz.underlying23 rfl (by kernel_rfl) ?_; simp only [Act.put, List.setIfInBounds_toArray, List.set_cons_succ, List.set_cons_zero]) | (go_at_call 64; refine (out34 _ _ _ _ _ _ _ _ _ _ _ _ _ _ _ _).mono ?_; rintro e w' ⟨rfl, hb⟩; dsimp only) | go_step)
  go_ret
  exact ⟨rfl, below_then (below_alloc _ _) hb⟩
set_option maxRecDepth 4000 in
set_option maxHeartbeats 4000000 in
theorem word35 (S D N M A I J U F C Y : Int) (G X O L : Bool) (w : World) : Calls Tryz.prog 27 #[(⟨35, S, D, N, M, A, I, J, U, F, C, Y, G, X, O, L⟩ : Ins).val] w fun e w' => e = .returned (strV (wordV ⟨35, S, D, N, M, A, I, J, U, F, C, Y, G, X, O, L⟩)) ∧ Below w.heap.size w w' := by
  have HB := one_start ⟨35, S, D, N, M, A, I, J, U, F, C, Y, G, X, O, L⟩ w
  go_enter Tryz.func27, Tryz.ntmps27
  repeat' (first | with_reducible refine then_exit ?_ | with_reducible refine then_normal ?_ | with_reducible refine inBlock_eq ?_ | with_reducible refine inBlock_ne rfl ?_ | with_reducible refine inBlock_normal ?_ | (refine wpList_load_if rfl 23 _ rfl w.heap.size rfl 23 _ (0, 0) _ HB.box Tryz.underlying23 rfl (by kernel_rfl) ?_; simp only [Act.put, List.setIfInBounds_toArray, List.set_cons_succ, List.set_cons_zero]) | (go_at_call 64; refine (out35 _ _ _ _ _ _ _ _ _ _ _ _ _ _ _ _).mono ?_; rintro e w' ⟨rfl, hb⟩; dsimp only) | go_step)
  go_ret
  exact ⟨rfl, below_then (below_alloc _ _) hb⟩
set_option maxRecDepth 4000 in
set_option maxHeartbeats 4000000 in
theorem word36 (S D N M A I J U F C Y : Int) (G X O L : Bool) (w : World) : Calls Tryz.prog 27 #[(⟨36, S, D, N, M, A, I, J, U, F, C, Y, G, X, O, L⟩ : Ins).val] w fun e w' => e = .returned (strV (wordV ⟨36, S, D, N, M, A, I, J, U, F, C, Y, G, X, O, L⟩)) ∧ Below w.heap.size w w' := by
  have HB := one_start ⟨36, S, D, N, M, A, I, J, U, F, C, Y, G, X, O, L⟩ w
  go_enter Tryz.func27, Tryz.ntmps27
  repeat' (first | with_reducible refine then_exit ?_ | with_reducible refine then_normal ?_ | with_reducible refine inBlock_eq ?_ | with_reducible refine inBlock_ne rfl ?_ | with_reducible refine inBlock_normal ?_ | (refine wpList_load_if rfl 23 _ rfl w.heap.size rfl 23 _ (0, 0) _ HB.box Tryz.underlying23 rfl (by kernel_rfl) ?_; simp only [Act.put, List.setIfInBounds_toArray, List.set_cons_succ, List.set_cons_zero]) | (go_at_call 64; refine (out36 _ _ _ _ _ _ _ _ _ _ _ _ _ _ _ _).mono ?_; rintro e w' ⟨rfl, hb⟩; dsimp only) | go_step)
  go_ret
  exact ⟨rfl, below_then (below_alloc _ _) hb⟩
set_option maxRecDepth 4000 in
set_option maxHeartbeats 4000000 in
theorem word37 (S D N M A I J U F C Y : Int) (G X O L : Bool) (w : World) : Calls Tryz.prog 27 #[(⟨37, S, D, N, M, A, I, J, U, F, C, Y, G, X, O, L⟩ : Ins).val] w fun e w' => e = .returned (strV (wordV ⟨37, S, D, N, M, A, I, J, U, F, C, Y, G, X, O, L⟩)) ∧ Below w.heap.size w w' := by
  have HB := one_start ⟨37, S, D, N, M, A, I, J, U, F, C, Y, G, X, O, L⟩ w
  go_enter Tryz.func27, Tryz.ntmps27
  repeat' (first | with_reducible refine then_exit ?_ | with_reducible refine then_normal ?_ | with_reducible refine inBlock_eq ?_ | with_reducible refine inBlock_ne rfl ?_ | with_reducible refine inBlock_normal ?_ | (refine wpList_load_if rfl 23 _ rfl w.heap.size rfl 23 _ (0, 0) _ HB.box Tryz.underlying23 rfl (by kernel_rfl) ?_; simp only [Act.put, List.setIfInBounds_toArray, List.set_cons_succ, List.set_cons_zero]) | (go_at_call 64; refine (out37 _ _ _ _ _ _ _ _ _ _ _ _ _ _ _ _).mono ?_; rintro e w' ⟨rfl, hb⟩; dsimp only) | go_step)
  go_ret
  exact ⟨rfl, below_then (below_alloc _ _) hb⟩

end Go.Proofs.YtjmdgfimmjodjaaGreatDoor
/- The word of every instruction: a contract. -/
namespace Go.Proofs.YtjmdgfimmjodjaaGreatDoor
open Go.RowKit Go.Rel

theorem wordOf_c (i : Ins) (R : rightB i = true) (w : World) : Calls Tryz.prog 27 #[i.val] w fun e w' => e = .returned (strV (wordV i)) ∧ Below w.heap.size w w' := by
  have F := fits R
  have hm := ops_mem F.o0 F.o1
  obtain ⟨op, sub, rd, rn, rm, ra, imm, imm2, amount, shift, cond, sys, flags, minus, not, link⟩ := i
  simp only [opsL, List.mem_cons, List.not_mem_nil, or_false] at hm
  rcases hm with rfl | rfl | rfl | rfl | rfl | rfl | rfl | rfl | rfl | rfl | rfl | rfl | rfl | rfl | rfl | rfl | rfl | rfl | rfl | rfl | rfl | rfl | rfl | rfl | rfl | rfl | rfl | rfl | rfl | rfl | rfl | rfl | rfl | rfl | rfl | rfl | rfl
  · exact word1 _ _ _ _ _ _ _ _ _ _ _ _ _ _ _ w
  · exact word2 _ _ _ _ _ _ _ _ _ _ _ _ _ _ _ w
  · exact word3 _ _ _ _ _ _ _ _ _ _ _ _ _ _ _ F.s0 F.s1 w
  · exact word4 _ _ _ _ _ _ _ _ _ _ _ _ _ _ _ F.s0 F.s1 w
  · exact word5 _ _ _ _ _ _ _ _ _ _ _ _ _ _ _ F.s0 F.s1 w
  · exact word6 _ _ _ _ _ _ _ _ _ _ _ _ _ _ _ F.s0 F.s1 w
  · exact word7 _ _ _ _ _ _ _ _ _ _ _ _ _ _ _ F.s0 F.s1 w
  · exact word8 _ _ _ _ _ _ _ _ _ _ _ _ _ _ _ w
  · exact word9 _ _ _ _ _ _ _ _ _ _ _ _ _ _ _ F.s0 F.s1 w
  · exact word10 _ _ _ _ _ _ _ _ _ _ _ _ _ _ _ F.s0 F.s1 w
  · exact word11 _ _ _ _ _ _ _ _ _ _ _ _ _ _ _ F.s0 F.s1 w
  · exact word12 _ _ _ _ _ _ _ _ _ _ _ _ _ _ _ w
  · exact word13 _ _ _ _ _ _ _ _ _ _ _ _ _ _ _ F.c0 F.c1 w
  · exact word14 _ _ _ _ _ _ _ _ _ _ _ _ _ _ _ w
  · exact word15 _ _ _ _ _ _ _ _ _ _ _ _ _ _ _ w
  · exact word16 _ _ _ _ _ _ _ _ _ _ _ _ _ _ _ F.s0 F.s1 w
  · exact word17 _ _ _ _ _ _ _ _ _ _ _ _ _ _ _ w
  · exact word18 _ _ _ _ _ _ _ _ _ _ _ _ _ _ _ w
  · exact word19 _ _ _ _ _ _ _ _ _ _ _ _ _ _ _ w
  · exact word20 _ _ _ _ _ _ _ _ _ _ _ _ _ _ _ w
  · exact word21 _ _ _ _ _ _ _ _ _ _ _ _ _ _ _ F.s0 F.s1 w
  · exact word22 _ _ _ _ _ _ _ _ _ _ _ _ _ _ _ w
  · exact word23 _ _ _ _ _ _ _ _ _ _ _ _ _ _ _ F.s0 F.s1 w
  · exact word24 _ _ _ _ _ _ _ _ _ _ _ _ _ _ _ F.s0 F.s1 w
  · exact word25 _ _ _ _ _ _ _ _ _ _ _ _ _ _ _ w
  · exact word26 _ _ _ _ _ _ _ _ _ _ _ _ _ _ _ F.s0 F.s1 w
  · exact word27 _ _ _ _ _ _ _ _ _ _ _ _ _ _ _ w
  · exact word28 _ _ _ _ _ _ _ _ _ _ _ _ _ _ _ w
  · exact word29 _ _ _ _ _ _ _ _ _ _ _ _ _ _ _ w
  · exact word30 _ _ _ _ _ _ _ _ _ _ _ _ _ _ _ w
  · exact word31 _ _ _ _ _ _ _ _ _ _ _ _ _ _ _ w
  · exact word32 _ _ _ _ _ _ _ _ _ _ _ _ _ _ _ w
  · exact word33 _ _ _ _ _ _ _ _ _ _ _ _ _ _ _ w
  · exact word34 _ _ _ _ _ _ _ _ _ _ _ _ _ _ _ w
  · exact word35 _ _ _ _ _ _ _ _ _ _ _ _ _ _ _ w
  · exact word36 _ _ _ _ _ _ _ _ _ _ _ _ _ _ _ w
  · exact word37 _ _ _ _ _ _ _ _ _ _ _ _ _ _ _ w
end Go.Proofs.YtjmdgfimmjodjaaGreatDoor
