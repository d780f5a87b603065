/- What InsnApart gives back, whatever two instructions: true: a contract. -/
import Derived.Test.YtmbefmmnkfoneaaDoorEx
import Derived.Test.YtmbefmmnkfoneaaDoorEqs
namespace Go.Proofs.YtmbefmmnkfoneaaDoor
open Go.RowKit Go.Rel

/-- Two blocks of the call's own: the two instructions' boxes. -/
structure Pair (i j : Ins) (w0 w : World) : Prop where
  below : Below w0.heap.size w0 w
  b1 : w.heap[w0.heap.size]? = some (.cells i.cells 23)
  b2 : w.heap[w0.heap.size + 1]? = some (.cells j.cells 23)
theorem Pair.grow {i j : Ins} {w0 w w' : World} (h : Pair i j w0 w) (hb : Below w.heap.size w w') : Pair i j w0 w' := by
  have h1 := (Array.getElem?_eq_some_iff.1 h.b1).1
  have h2 := (Array.getElem?_eq_some_iff.1 h.b2).1
  exact ⟨below_then h.below hb, by rw [hb.block _ h1]; exact h.b1, by rw [hb.block _ h2]; exact h.b2⟩
theorem pair_start (i j : Ins) (w : World) : Pair i j w ((w.alloc (.cells i.cells 23)).alloc (.cells j.cells 23)) := by
  have e1 : (w.alloc (.cells i.cells 23)).heap.size = w.heap.size + 1 := Array.size_push ..
  refine ⟨below_alloc2 _ _ _, ?_, ?_⟩
  · rw [Below.heap_alloc _ _ _ (by omega), heap_alloc_new]
  · rw [← e1, heap_alloc_new]
theorem wpList_move_if {ops : Array Oper} {rest : List Oper} {o : Oper} {a : Act} {w : World} {Q : Exit → Act → World → Prop} (hw : Region.wanted o (yielded ops a.tmps) = true) (x : Operand) (ho : o.op = .move x)
    (v : Value) (hx : a.eval x = v) (h : wpList Tryd.prog ops Q rest (a.put o.dst v) w) : wpList Tryd.prog ops Q (o :: rest) a w := by
  refine BigFrame.wpList_want hw fun K hK => ?_
  unfold Oper.wp execOp
  simp only [ho, hx]
  exact hK _ _ h
theorem Pair.op1 {i j : Ins} {w0 w : World} (h : Pair i j w0 w) : w.cell? ⟨w0.heap.size, 0, none⟩ = some (vI i.op) := by simp [World.cell?, h.b1]
theorem Pair.op2 {i j : Ins} {w0 w : World} (h : Pair i j w0 w) : w.cell? ⟨w0.heap.size + 1, 0, none⟩ = some (vI j.op) := by simp [World.cell?, h.b2]

set_option maxRecDepth 8000 in
set_option maxHeartbeats 4000000 in
theorem apart_nn (i j : Ins) (Ri : rightB i = false) (Rj : rightB j = false) (w : World) (T : Tab w) : Calls Tryd.prog 4 #[i.val, j.val] w fun e w' => e = .returned (.bool true) ∧ Below w.heap.size w w' := by
  have H := pair_start i j w
  go_enter Tryd.func4, Tryd.ntmps4
  repeat' (first | with_reducible refine then_exit ?_ | with_reducible refine then_normal ?_ | with_reducible refine inBlock_eq ?_ | with_reducible refine inBlock_ne rfl ?_ | with_reducible refine inBlock_normal ?_ | (refine wpList_load_if ?_ 23 _ rfl w.heap.size rfl 23 _ (0, 0) _ H.b1 Tryd.underlying23 rfl (by kernel_rfl) ?_; (focus rfl); simp only [Act.put, List.setIfInBounds_toArray, List.set_cons_succ, List.set_cons_zero]) | (refine wpList_load_if ?_ 23 _ rfl (w.heap.size + 1) rfl 23 _ (0, 0) _ H.b2 Tryd.underlying23 rfl (by kernel_rfl) ?_; (focus rfl); simp only [Act.put, List.setIfInBounds_toArray, List.set_cons_succ, List.set_cons_zero]) | go_step)
  go_at_call 5
  refine (examples_c _ (T.grow H.below)).mono ?_
  rintro e w' ⟨rfl, hb⟩
  dsimp only
  replace H := H.grow hb
  clear hb
  repeat' (first | with_reducible refine then_exit ?_ | with_reducible refine then_normal ?_ | with_reducible refine inBlock_eq ?_ | with_reducible refine inBlock_ne rfl ?_ | with_reducible refine inBlock_normal ?_ | (refine wpList_load_if ?_ 23 _ rfl w.heap.size rfl 23 _ (0, 0) _ H.b1 Tryd.underlying23 rfl (by kernel_rfl) ?_; (focus rfl); simp only [Act.put, List.setIfInBounds_toArray, List.set_cons_succ, List.set_cons_zero]) | (refine wpList_load_if ?_ 23 _ rfl (w.heap.size + 1) rfl 23 _ (0, 0) _ H.b2 Tryd.underlying23 rfl (by kernel_rfl) ?_; (focus rfl); simp only [Act.put, List.setIfInBounds_toArray, List.set_cons_succ, List.set_cons_zero]) | go_step)
  go_at_call 11
  refine (Text_no i Ri _ (T.grow H.below)).mono ?_
  rintro e w' ⟨rfl, hb⟩
  dsimp only
  replace H := H.grow hb
  clear hb
  repeat' (first | with_reducible refine then_exit ?_ | with_reducible refine then_normal ?_ | with_reducible refine inBlock_eq ?_ | with_reducible refine inBlock_ne rfl ?_ | with_reducible refine inBlock_normal ?_ | (refine wpList_load_if ?_ 23 _ rfl w.heap.size rfl 23 _ (0, 0) _ H.b1 Tryd.underlying23 rfl (by kernel_rfl) ?_; (focus rfl); simp only [Act.put, List.setIfInBounds_toArray, List.set_cons_succ, List.set_cons_zero]) | (refine wpList_load_if ?_ 23 _ rfl (w.heap.size + 1) rfl 23 _ (0, 0) _ H.b2 Tryd.underlying23 rfl (by kernel_rfl) ?_; (focus rfl); simp only [Act.put, List.setIfInBounds_toArray, List.set_cons_succ, List.set_cons_zero]) | go_step)
  go_at_call 11
  refine (Text_no j Rj _ (T.grow H.below)).mono ?_
  rintro e w' ⟨rfl, hb⟩
  dsimp only
  replace H := H.grow hb
  clear hb
  repeat' (first | with_reducible refine then_exit ?_ | with_reducible refine then_normal ?_ | with_reducible refine inBlock_eq ?_ | with_reducible refine inBlock_ne rfl ?_ | with_reducible refine inBlock_normal ?_ | (refine wpList_load_if ?_ 23 _ rfl w.heap.size rfl 23 _ (0, 0) _ H.b1 Tryd.underlying23 rfl (by kernel_rfl) ?_; (focus rfl); simp only [Act.put, List.setIfInBounds_toArray, List.set_cons_succ, List.set_cons_zero]) | (refine wpList_load_if ?_ 23 _ rfl (w.heap.size + 1) rfl 23 _ (0, 0) _ H.b2 Tryd.underlying23 rfl (by kernel_rfl) ?_; (focus rfl); simp only [Act.put, List.setIfInBounds_toArray, List.set_cons_succ, List.set_cons_zero]) | go_step)
  go_ret
  exact ⟨rfl, H.below⟩

set_option maxRecDepth 8000 in
set_option maxHeartbeats 4000000 in
theorem apart_ny (i j : Ins) (Ri : rightB i = false) (Rj : rightB j = true) (w : World) (T : Tab w) : Calls Tryd.prog 4 #[i.val, j.val] w fun e w' => e = .returned (.bool true) ∧ Below w.heap.size w w' := by
  have H := pair_start i j w
  go_enter Tryd.func4, Tryd.ntmps4
  repeat' (first | with_reducible refine then_exit ?_ | with_reducible refine then_normal ?_ | with_reducible refine inBlock_eq ?_ | with_reducible refine inBlock_ne rfl ?_ | with_reducible refine inBlock_normal ?_ | (refine wpList_load_if ?_ 23 _ rfl w.heap.size rfl 23 _ (0, 0) _ H.b1 Tryd.underlying23 rfl (by kernel_rfl) ?_; (focus rfl); simp only [Act.put, List.setIfInBounds_toArray, List.set_cons_succ, List.set_cons_zero]) | (refine wpList_load_if ?_ 23 _ rfl (w.heap.size + 1) rfl 23 _ (0, 0) _ H.b2 Tryd.underlying23 rfl (by kernel_rfl) ?_; (focus rfl); simp only [Act.put, List.setIfInBounds_toArray, List.set_cons_succ, List.set_cons_zero]) | go_step)
  go_at_call 5
  refine (examples_c _ (T.grow H.below)).mono ?_
  rintro e w' ⟨rfl, hb⟩
  dsimp only
  replace H := H.grow hb
  clear hb
  repeat' (first | with_reducible refine then_exit ?_ | with_reducible refine then_normal ?_ | with_reducible refine inBlock_eq ?_ | with_reducible refine inBlock_ne rfl ?_ | with_reducible refine inBlock_normal ?_ | (refine wpList_load_if ?_ 23 _ rfl w.heap.size rfl 23 _ (0, 0) _ H.b1 Tryd.underlying23 rfl (by kernel_rfl) ?_; (focus rfl); simp only [Act.put, List.setIfInBounds_toArray, List.set_cons_succ, List.set_cons_zero]) | (refine wpList_load_if ?_ 23 _ rfl (w.heap.size + 1) rfl 23 _ (0, 0) _ H.b2 Tryd.underlying23 rfl (by kernel_rfl) ?_; (focus rfl); simp only [Act.put, List.setIfInBounds_toArray, List.set_cons_succ, List.set_cons_zero]) | go_step)
  go_at_call 11
  refine (Text_no i Ri _ (T.grow H.below)).mono ?_
  rintro e w' ⟨rfl, hb⟩
  dsimp only
  replace H := H.grow hb
  clear hb
  repeat' (first | with_reducible refine then_exit ?_ | with_reducible refine then_normal ?_ | with_reducible refine inBlock_eq ?_ | with_reducible refine inBlock_ne rfl ?_ | with_reducible refine inBlock_normal ?_ | (refine wpList_load_if ?_ 23 _ rfl w.heap.size rfl 23 _ (0, 0) _ H.b1 Tryd.underlying23 rfl (by kernel_rfl) ?_; (focus rfl); simp only [Act.put, List.setIfInBounds_toArray, List.set_cons_succ, List.set_cons_zero]) | (refine wpList_load_if ?_ 23 _ rfl (w.heap.size + 1) rfl 23 _ (0, 0) _ H.b2 Tryd.underlying23 rfl (by kernel_rfl) ?_; (focus rfl); simp only [Act.put, List.setIfInBounds_toArray, List.set_cons_succ, List.set_cons_zero]) | go_step)
  go_at_call 11
  refine (Text_yes j Rj _ (T.grow H.below)).mono ?_
  rintro e w' ⟨rfl, hb⟩
  dsimp only
  replace H := H.grow hb
  clear hb
  repeat' (first | with_reducible refine then_exit ?_ | with_reducible refine then_normal ?_ | with_reducible refine inBlock_eq ?_ | with_reducible refine inBlock_ne rfl ?_ | with_reducible refine inBlock_normal ?_ | (refine wpList_load_if ?_ 23 _ rfl w.heap.size rfl 23 _ (0, 0) _ H.b1 Tryd.underlying23 rfl (by kernel_rfl) ?_; (focus rfl); simp only [Act.put, List.setIfInBounds_toArray, List.set_cons_succ, List.set_cons_zero]) | (refine wpList_load_if ?_ 23 _ rfl (w.heap.size + 1) rfl 23 _ (0, 0) _ H.b2 Tryd.underlying23 rfl (by kernel_rfl) ?_; (focus rfl); simp only [Act.put, List.setIfInBounds_toArray, List.set_cons_succ, List.set_cons_zero]) | go_step)
  go_ret
  exact ⟨rfl, H.below⟩

set_option maxRecDepth 8000 in
set_option maxHeartbeats 4000000 in
theorem apart_yn (i j : Ins) (Ri : rightB i = true) (Rj : rightB j = false) (w : World) (T : Tab w) : Calls Tryd.prog 4 #[i.val, j.val] w fun e w' => e = .returned (.bool true) ∧ Below w.heap.size w w' := by
  have H := pair_start i j w
  go_enter Tryd.func4, Tryd.ntmps4
  repeat' (first | with_reducible refine then_exit ?_ | with_reducible refine then_normal ?_ | with_reducible refine inBlock_eq ?_ | with_reducible refine inBlock_ne rfl ?_ | with_reducible refine inBlock_normal ?_ | (refine wpList_load_if ?_ 23 _ rfl w.heap.size rfl 23 _ (0, 0) _ H.b1 Tryd.underlying23 rfl (by kernel_rfl) ?_; (focus rfl); simp only [Act.put, List.setIfInBounds_toArray, List.set_cons_succ, List.set_cons_zero]) | (refine wpList_load_if ?_ 23 _ rfl (w.heap.size + 1) rfl 23 _ (0, 0) _ H.b2 Tryd.underlying23 rfl (by kernel_rfl) ?_; (focus rfl); simp only [Act.put, List.setIfInBounds_toArray, List.set_cons_succ, List.set_cons_zero]) | go_step)
  go_at_call 5
  refine (examples_c _ (T.grow H.below)).mono ?_
  rintro e w' ⟨rfl, hb⟩
  dsimp only
  replace H := H.grow hb
  clear hb
  repeat' (first | with_reducible refine then_exit ?_ | with_reducible refine then_normal ?_ | with_reducible refine inBlock_eq ?_ | with_reducible refine inBlock_ne rfl ?_ | with_reducible refine inBlock_normal ?_ | (refine wpList_load_if ?_ 23 _ rfl w.heap.size rfl 23 _ (0, 0) _ H.b1 Tryd.underlying23 rfl (by kernel_rfl) ?_; (focus rfl); simp only [Act.put, List.setIfInBounds_toArray, List.set_cons_succ, List.set_cons_zero]) | (refine wpList_load_if ?_ 23 _ rfl (w.heap.size + 1) rfl 23 _ (0, 0) _ H.b2 Tryd.underlying23 rfl (by kernel_rfl) ?_; (focus rfl); simp only [Act.put, List.setIfInBounds_toArray, List.set_cons_succ, List.set_cons_zero]) | go_step)
  go_at_call 11
  refine (Text_yes i Ri _ (T.grow H.below)).mono ?_
  rintro e w' ⟨rfl, hb⟩
  dsimp only
  replace H := H.grow hb
  clear hb
  repeat' (first | with_reducible refine then_exit ?_ | with_reducible refine then_normal ?_ | with_reducible refine inBlock_eq ?_ | with_reducible refine inBlock_ne rfl ?_ | with_reducible refine inBlock_normal ?_ | (refine wpList_load_if ?_ 23 _ rfl w.heap.size rfl 23 _ (0, 0) _ H.b1 Tryd.underlying23 rfl (by kernel_rfl) ?_; (focus rfl); simp only [Act.put, List.setIfInBounds_toArray, List.set_cons_succ, List.set_cons_zero]) | (refine wpList_load_if ?_ 23 _ rfl (w.heap.size + 1) rfl 23 _ (0, 0) _ H.b2 Tryd.underlying23 rfl (by kernel_rfl) ?_; (focus rfl); simp only [Act.put, List.setIfInBounds_toArray, List.set_cons_succ, List.set_cons_zero]) | go_step)
  go_at_call 11
  refine (Text_no j Rj _ (T.grow H.below)).mono ?_
  rintro e w' ⟨rfl, hb⟩
  dsimp only
  replace H := H.grow hb
  clear hb
  repeat' (first | with_reducible refine then_exit ?_ | with_reducible refine then_normal ?_ | with_reducible refine inBlock_eq ?_ | with_reducible refine inBlock_ne rfl ?_ | with_reducible refine inBlock_normal ?_ | (refine wpList_load_if ?_ 23 _ rfl w.heap.size rfl 23 _ (0, 0) _ H.b1 Tryd.underlying23 rfl (by kernel_rfl) ?_; (focus rfl); simp only [Act.put, List.setIfInBounds_toArray, List.set_cons_succ, List.set_cons_zero]) | (refine wpList_load_if ?_ 23 _ rfl (w.heap.size + 1) rfl 23 _ (0, 0) _ H.b2 Tryd.underlying23 rfl (by kernel_rfl) ?_; (focus rfl); simp only [Act.put, List.setIfInBounds_toArray, List.set_cons_succ, List.set_cons_zero]) | go_step)
  go_ret
  exact ⟨rfl, H.below⟩

set_option maxRecDepth 8000 in
set_option maxHeartbeats 4000000 in
theorem apart_diff (i j : Ins) (Ri : rightB i = true) (Rj : rightB j = true) (hS : (textV i == textV j) = false) (hE : eqI i j = false) (w : World) (T : Tab w) : Calls Tryd.prog 4 #[i.val, j.val] w fun e w' => e = .returned (.bool true) ∧ Below w.heap.size w w' := by
  have H := pair_start i j w
  go_enter Tryd.func4, Tryd.ntmps4
  repeat' (first | with_reducible refine then_exit ?_ | with_reducible refine then_normal ?_ | with_reducible refine inBlock_eq ?_ | with_reducible refine inBlock_ne rfl ?_ | with_reducible refine inBlock_normal ?_ | (refine wpList_load_if ?_ 23 _ rfl w.heap.size rfl 23 _ (0, 0) _ H.b1 Tryd.underlying23 rfl (by kernel_rfl) ?_; (focus rfl); simp only [Act.put, List.setIfInBounds_toArray, List.set_cons_succ, List.set_cons_zero]) | (refine wpList_load_if ?_ 23 _ rfl (w.heap.size + 1) rfl 23 _ (0, 0) _ H.b2 Tryd.underlying23 rfl (by kernel_rfl) ?_; (focus rfl); simp only [Act.put, List.setIfInBounds_toArray, List.set_cons_succ, List.set_cons_zero]) | go_step)
  go_at_call 5
  refine (examples_c _ (T.grow H.below)).mono ?_
  rintro e w' ⟨rfl, hb⟩
  dsimp only
  replace H := H.grow hb
  clear hb
  repeat' (first | with_reducible refine then_exit ?_ | with_reducible refine then_normal ?_ | with_reducible refine inBlock_eq ?_ | with_reducible refine inBlock_ne rfl ?_ | with_reducible refine inBlock_normal ?_ | (refine wpList_load_if ?_ 23 _ rfl w.heap.size rfl 23 _ (0, 0) _ H.b1 Tryd.underlying23 rfl (by kernel_rfl) ?_; (focus rfl); simp only [Act.put, List.setIfInBounds_toArray, List.set_cons_succ, List.set_cons_zero]) | (refine wpList_load_if ?_ 23 _ rfl (w.heap.size + 1) rfl 23 _ (0, 0) _ H.b2 Tryd.underlying23 rfl (by kernel_rfl) ?_; (focus rfl); simp only [Act.put, List.setIfInBounds_toArray, List.set_cons_succ, List.set_cons_zero]) | go_step)
  go_at_call 11
  refine (Text_yes i Ri _ (T.grow H.below)).mono ?_
  rintro e w' ⟨rfl, hb⟩
  dsimp only
  replace H := H.grow hb
  clear hb
  repeat' (first | with_reducible refine then_exit ?_ | with_reducible refine then_normal ?_ | with_reducible refine inBlock_eq ?_ | with_reducible refine inBlock_ne rfl ?_ | with_reducible refine inBlock_normal ?_ | (refine wpList_load_if ?_ 23 _ rfl w.heap.size rfl 23 _ (0, 0) _ H.b1 Tryd.underlying23 rfl (by kernel_rfl) ?_; (focus rfl); simp only [Act.put, List.setIfInBounds_toArray, List.set_cons_succ, List.set_cons_zero]) | (refine wpList_load_if ?_ 23 _ rfl (w.heap.size + 1) rfl 23 _ (0, 0) _ H.b2 Tryd.underlying23 rfl (by kernel_rfl) ?_; (focus rfl); simp only [Act.put, List.setIfInBounds_toArray, List.set_cons_succ, List.set_cons_zero]) | go_step)
  go_at_call 11
  refine (Text_yes j Rj _ (T.grow H.below)).mono ?_
  rintro e w' ⟨rfl, hb⟩
  dsimp only
  replace H := H.grow hb
  clear hb
  go_upto_region 6 with fail
  iterate 14 (first | (refine wpList_load_if ?_ 23 _ rfl w.heap.size rfl 23 _ (0, 0) _ H.b1 Tryd.underlying23 rfl (by kernel_rfl) ?_; (focus rfl); simp only [Act.put, List.setIfInBounds_toArray, List.set_cons_succ, List.set_cons_zero]) | (refine wpList_load_if ?_ 23 _ rfl (w.heap.size + 1) rfl 23 _ (0, 0) _ H.b2 Tryd.underlying23 rfl (by kernel_rfl) ?_; (focus rfl); simp only [Act.put, List.setIfInBounds_toArray, List.set_cons_succ, List.set_cons_zero]) | (refine wpList_eql_str ?_ _ _ rfl (textV i) (textV j) rfl rfl _ hS ?_; (focus rfl); simp only [Act.put, List.setIfInBounds_toArray, List.set_cons_succ, List.set_cons_zero]) | go_step)
  refine wpList_eql_insn ?_ _ _ rfl i j ?_ ?_ _ hE ?_
  · rfl
  · rfl
  · rfl
  simp only [Act.put, List.setIfInBounds_toArray, List.set_cons_succ, List.set_cons_zero]
  iterate 2 go_step
  with_reducible refine wpList_move_if ?_ (.tmp 52) ?_ (.bool true) ?_ ?_
  · rfl
  · rfl
  · rfl
  simp only [Act.put, List.setIfInBounds_toArray, List.set_cons_succ, List.set_cons_zero]
  iterate 13 ((with_reducible refine wpList_skip ?_ ?_); (focus rfl); simp only [Act.put, List.setIfInBounds_toArray, List.set_cons_succ, List.set_cons_zero])
  repeat' (first | with_reducible refine then_exit ?_ | with_reducible refine then_normal ?_ | with_reducible refine inBlock_eq ?_ | with_reducible refine inBlock_ne rfl ?_ | with_reducible refine inBlock_normal ?_ | go_step)
  go_ret
  exact ⟨rfl, H.below⟩

set_option maxRecDepth 8000 in
set_option maxHeartbeats 4000000 in
theorem apart_same (i j : Ins) (Ri : rightB i = true) (Rj : rightB j = true) (hS : (textV i == textV j) = true) (hE : eqI i j = true) (w : World) (T : Tab w) : Calls Tryd.prog 4 #[i.val, j.val] w fun e w' => e = .returned (.bool true) ∧ Below w.heap.size w w' := by
  have H := pair_start i j w
  go_enter Tryd.func4, Tryd.ntmps4
  repeat' (first | with_reducible refine then_exit ?_ | with_reducible refine then_normal ?_ | with_reducible refine inBlock_eq ?_ | with_reducible refine inBlock_ne rfl ?_ | with_reducible refine inBlock_normal ?_ | (refine wpList_load_if ?_ 23 _ rfl w.heap.size rfl 23 _ (0, 0) _ H.b1 Tryd.underlying23 rfl (by kernel_rfl) ?_; (focus rfl); simp only [Act.put, List.setIfInBounds_toArray, List.set_cons_succ, List.set_cons_zero]) | (refine wpList_load_if ?_ 23 _ rfl (w.heap.size + 1) rfl 23 _ (0, 0) _ H.b2 Tryd.underlying23 rfl (by kernel_rfl) ?_; (focus rfl); simp only [Act.put, List.setIfInBounds_toArray, List.set_cons_succ, List.set_cons_zero]) | go_step)
  go_at_call 5
  refine (examples_c _ (T.grow H.below)).mono ?_
  rintro e w' ⟨rfl, hb⟩
  dsimp only
  replace H := H.grow hb
  clear hb
  repeat' (first | with_reducible refine then_exit ?_ | with_reducible refine then_normal ?_ | with_reducible refine inBlock_eq ?_ | with_reducible refine inBlock_ne rfl ?_ | with_reducible refine inBlock_normal ?_ | (refine wpList_load_if ?_ 23 _ rfl w.heap.size rfl 23 _ (0, 0) _ H.b1 Tryd.underlying23 rfl (by kernel_rfl) ?_; (focus rfl); simp only [Act.put, List.setIfInBounds_toArray, List.set_cons_succ, List.set_cons_zero]) | (refine wpList_load_if ?_ 23 _ rfl (w.heap.size + 1) rfl 23 _ (0, 0) _ H.b2 Tryd.underlying23 rfl (by kernel_rfl) ?_; (focus rfl); simp only [Act.put, List.setIfInBounds_toArray, List.set_cons_succ, List.set_cons_zero]) | go_step)
  go_at_call 11
  refine (Text_yes i Ri _ (T.grow H.below)).mono ?_
  rintro e w' ⟨rfl, hb⟩
  dsimp only
  replace H := H.grow hb
  clear hb
  repeat' (first | with_reducible refine then_exit ?_ | with_reducible refine then_normal ?_ | with_reducible refine inBlock_eq ?_ | with_reducible refine inBlock_ne rfl ?_ | with_reducible refine inBlock_normal ?_ | (refine wpList_load_if ?_ 23 _ rfl w.heap.size rfl 23 _ (0, 0) _ H.b1 Tryd.underlying23 rfl (by kernel_rfl) ?_; (focus rfl); simp only [Act.put, List.setIfInBounds_toArray, List.set_cons_succ, List.set_cons_zero]) | (refine wpList_load_if ?_ 23 _ rfl (w.heap.size + 1) rfl 23 _ (0, 0) _ H.b2 Tryd.underlying23 rfl (by kernel_rfl) ?_; (focus rfl); simp only [Act.put, List.setIfInBounds_toArray, List.set_cons_succ, List.set_cons_zero]) | go_step)
  go_at_call 11
  refine (Text_yes j Rj _ (T.grow H.below)).mono ?_
  rintro e w' ⟨rfl, hb⟩
  dsimp only
  replace H := H.grow hb
  clear hb
  go_upto_region 6 with fail
  iterate 14 (first | (refine wpList_load_if ?_ 23 _ rfl w.heap.size rfl 23 _ (0, 0) _ H.b1 Tryd.underlying23 rfl (by kernel_rfl) ?_; (focus rfl); simp only [Act.put, List.setIfInBounds_toArray, List.set_cons_succ, List.set_cons_zero]) | (refine wpList_load_if ?_ 23 _ rfl (w.heap.size + 1) rfl 23 _ (0, 0) _ H.b2 Tryd.underlying23 rfl (by kernel_rfl) ?_; (focus rfl); simp only [Act.put, List.setIfInBounds_toArray, List.set_cons_succ, List.set_cons_zero]) | (refine wpList_eql_str ?_ _ _ rfl (textV i) (textV j) rfl rfl _ hS ?_; (focus rfl); simp only [Act.put, List.setIfInBounds_toArray, List.set_cons_succ, List.set_cons_zero]) | go_step)
  refine wpList_eql_insn ?_ _ _ rfl i j ?_ ?_ _ hE ?_
  · rfl
  · rfl
  · rfl
  simp only [Act.put, List.setIfInBounds_toArray, List.set_cons_succ, List.set_cons_zero]
  iterate 2 go_step
  with_reducible refine wpList_move_if ?_ (.tmp 52) ?_ (.bool true) ?_ ?_
  · rfl
  · rfl
  · rfl
  simp only [Act.put, List.setIfInBounds_toArray, List.set_cons_succ, List.set_cons_zero]
  iterate 13 ((with_reducible refine wpList_skip ?_ ?_); (focus rfl); simp only [Act.put, List.setIfInBounds_toArray, List.set_cons_succ, List.set_cons_zero])
  repeat' (first | with_reducible refine then_exit ?_ | with_reducible refine then_normal ?_ | with_reducible refine inBlock_eq ?_ | with_reducible refine inBlock_ne rfl ?_ | with_reducible refine inBlock_normal ?_ | go_step)
  go_ret
  exact ⟨rfl, H.below⟩

set_option maxRecDepth 8000 in
set_option maxHeartbeats 4000000 in
theorem apart_four (i j : Ins) (Ri : rightB i = true) (Rj : rightB j = true) (hS : (textV i == textV j) = true) (hE : eqI i j = false) (o1 : Hid (i.op = 4)) (o2 : Hid (j.op = 4)) (w : World) (T : Tab w) : Calls Tryd.prog 4 #[i.val, j.val] w fun e w' => e = .returned (.bool true) ∧ Below w.heap.size w w' := by
  have H := pair_start i j w
  go_enter Tryd.func4, Tryd.ntmps4
  repeat' (first | with_reducible refine then_exit ?_ | with_reducible refine then_normal ?_ | with_reducible refine inBlock_eq ?_ | with_reducible refine inBlock_ne rfl ?_ | with_reducible refine inBlock_normal ?_ | (refine wpList_load_if ?_ 23 _ rfl w.heap.size rfl 23 _ (0, 0) _ H.b1 Tryd.underlying23 rfl (by kernel_rfl) ?_; (focus rfl); simp only [Act.put, List.setIfInBounds_toArray, List.set_cons_succ, List.set_cons_zero]) | (refine wpList_load_if ?_ 23 _ rfl (w.heap.size + 1) rfl 23 _ (0, 0) _ H.b2 Tryd.underlying23 rfl (by kernel_rfl) ?_; (focus rfl); simp only [Act.put, List.setIfInBounds_toArray, List.set_cons_succ, List.set_cons_zero]) | go_step)
  go_at_call 5
  refine (examples_c _ (T.grow H.below)).mono ?_
  rintro e w' ⟨rfl, hb⟩
  dsimp only
  replace H := H.grow hb
  clear hb
  repeat' (first | with_reducible refine then_exit ?_ | with_reducible refine then_normal ?_ | with_reducible refine inBlock_eq ?_ | with_reducible refine inBlock_ne rfl ?_ | with_reducible refine inBlock_normal ?_ | (refine wpList_load_if ?_ 23 _ rfl w.heap.size rfl 23 _ (0, 0) _ H.b1 Tryd.underlying23 rfl (by kernel_rfl) ?_; (focus rfl); simp only [Act.put, List.setIfInBounds_toArray, List.set_cons_succ, List.set_cons_zero]) | (refine wpList_load_if ?_ 23 _ rfl (w.heap.size + 1) rfl 23 _ (0, 0) _ H.b2 Tryd.underlying23 rfl (by kernel_rfl) ?_; (focus rfl); simp only [Act.put, List.setIfInBounds_toArray, List.set_cons_succ, List.set_cons_zero]) | go_step)
  go_at_call 11
  refine (Text_yes i Ri _ (T.grow H.below)).mono ?_
  rintro e w' ⟨rfl, hb⟩
  dsimp only
  replace H := H.grow hb
  clear hb
  repeat' (first | with_reducible refine then_exit ?_ | with_reducible refine then_normal ?_ | with_reducible refine inBlock_eq ?_ | with_reducible refine inBlock_ne rfl ?_ | with_reducible refine inBlock_normal ?_ | (refine wpList_load_if ?_ 23 _ rfl w.heap.size rfl 23 _ (0, 0) _ H.b1 Tryd.underlying23 rfl (by kernel_rfl) ?_; (focus rfl); simp only [Act.put, List.setIfInBounds_toArray, List.set_cons_succ, List.set_cons_zero]) | (refine wpList_load_if ?_ 23 _ rfl (w.heap.size + 1) rfl 23 _ (0, 0) _ H.b2 Tryd.underlying23 rfl (by kernel_rfl) ?_; (focus rfl); simp only [Act.put, List.setIfInBounds_toArray, List.set_cons_succ, List.set_cons_zero]) | go_step)
  go_at_call 11
  refine (Text_yes j Rj _ (T.grow H.below)).mono ?_
  rintro e w' ⟨rfl, hb⟩
  dsimp only
  replace H := H.grow hb
  clear hb
  have c1 := H.op1
  have c2 := H.op2
  rw [o1.out] at c1
  rw [o2.out] at c2
  go_upto_region 6 with fail
  iterate 14 (first | (refine wpList_load_if ?_ 23 _ rfl w.heap.size rfl 23 _ (0, 0) _ H.b1 Tryd.underlying23 rfl (by kernel_rfl) ?_; (focus rfl); simp only [Act.put, List.setIfInBounds_toArray, List.set_cons_succ, List.set_cons_zero]) | (refine wpList_load_if ?_ 23 _ rfl (w.heap.size + 1) rfl 23 _ (0, 0) _ H.b2 Tryd.underlying23 rfl (by kernel_rfl) ?_; (focus rfl); simp only [Act.put, List.setIfInBounds_toArray, List.set_cons_succ, List.set_cons_zero]) | (refine wpList_eql_str ?_ _ _ rfl (textV i) (textV j) rfl rfl _ hS ?_; (focus rfl); simp only [Act.put, List.setIfInBounds_toArray, List.set_cons_succ, List.set_cons_zero]) | go_step)
  refine wpList_eql_insn ?_ _ _ rfl i j ?_ ?_ _ hE ?_
  · rfl
  · rfl
  · rfl
  simp only [Act.put, List.setIfInBounds_toArray, List.set_cons_succ, List.set_cons_zero]
  iterate 4 go_step
  repeat' (first | with_reducible refine then_exit ?_ | with_reducible refine then_normal ?_ | with_reducible refine inBlock_eq ?_ | with_reducible refine inBlock_ne rfl ?_ | with_reducible refine inBlock_normal ?_ | (refine wpList_eql_str ?_ _ _ rfl (textV i) (textV j) rfl rfl _ hS ?_; (focus rfl); simp only [Act.put, List.setIfInBounds_toArray, List.set_cons_succ, List.set_cons_zero]) | go_step)
  go_ret
  exact ⟨rfl, H.below⟩


theorem apart_c (i j : Ins) (w : World) (T : Tab w) : Calls Tryd.prog 4 #[i.val, j.val] w fun e w' => e = .returned (.bool true) ∧ Below w.heap.size w w' := by
  cases Ri : rightB i with
  | false =>
    cases Rj : rightB j with
    | false => exact apart_nn i j Ri Rj w T
    | true => exact apart_ny i j Ri Rj w T
  | true =>
    cases Rj : rightB j with
    | false => exact apart_yn i j Ri Rj w T
    | true =>
      cases hS : (textV i == textV j) with
      | false =>
        cases hE : eqI i j with
        | false => exact apart_diff i j Ri Rj hS hE w T
        | true =>
          rw [(eqI_iff i j).1 hE] at hS
          simp at hS
      | true =>
        cases hE : eqI i j with
        | true => exact apart_same i j Ri Rj hS hE w T
        | false =>
          rcases text_inj Ri Rj (eq_of_beq hS) with h | ⟨h1, h2⟩
          · rw [(eqI_iff i j).2 h] at hE; cases hE
          · exact apart_four i j Ri Rj hS hE h1 h2 w T
end Go.Proofs.YtmbefmmnkfoneaaDoor
