/- The word of an instruction that asks something of the world beside the registers: contracts. -/
import Derived.Test.YtjmdgfimmjodjaaGreatDoorV17
namespace Go.Proofs.YtjmdgfimmjodjaaGreatDoor
open Go.RowKit Go.Rel

set_option maxRecDepth 4000 in
set_option maxHeartbeats 4000000 in
theorem out17 (sub rd rn rm ra imm imm2 amount shift cond sys : Int) (flags minus not link : Bool) (w : World) : Calls Tryz.prog 64 #[(⟨17, sub, rd, rn, rm, ra, imm, imm2, amount, shift, cond, sys, flags, minus, not, link⟩ : Ins).val] w fun e w' => e = .returned (strV (wordV ⟨17, sub, rd, rn, rm, ra, imm, imm2, amount, shift, cond, sys, flags, minus, not, link⟩)) ∧ Below w.heap.size w w' := by
  go_enter Tryz.func64, Tryz.ntmps64
  repeat' (first | with_reducible refine then_exit ?_ | with_reducible refine then_normal ?_ | with_reducible refine inBlock_eq ?_ | with_reducible refine inBlock_ne rfl ?_ | with_reducible refine inBlock_normal ?_ | (go_at_call 60; refine (one_a _ _ _ _ _ _ (by decide) (by decide) (by simp) rfl).mono ?_; rintro e w' ⟨rfl, rfl⟩; dsimp only) | go_step)
  go_ret
  exact ⟨rfl, by repeat (first | exact Below.refl _ _ | apply below_more)⟩
set_option maxRecDepth 4000 in
set_option maxHeartbeats 4000000 in
theorem out18 (sub rd rn rm ra imm imm2 amount shift cond sys : Int) (flags minus not link : Bool) (w : World) : Calls Tryz.prog 64 #[(⟨18, sub, rd, rn, rm, ra, imm, imm2, amount, shift, cond, sys, flags, minus, not, link⟩ : Ins).val] w fun e w' => e = .returned (strV (wordV ⟨18, sub, rd, rn, rm, ra, imm, imm2, amount, shift, cond, sys, flags, minus, not, link⟩)) ∧ Below w.heap.size w w' := by
  go_enter Tryz.func64, Tryz.ntmps64
  repeat' (first | with_reducible refine then_exit ?_ | with_reducible refine then_normal ?_ | with_reducible refine inBlock_eq ?_ | with_reducible refine inBlock_ne rfl ?_ | with_reducible refine inBlock_normal ?_ | (go_at_call 60; refine (one_a _ _ _ _ _ _ (by decide) (by decide) (by simp) rfl).mono ?_; rintro e w' ⟨rfl, rfl⟩; dsimp only) | go_step)
  go_ret
  exact ⟨rfl, by repeat (first | exact Below.refl _ _ | apply below_more)⟩
set_option maxRecDepth 4000 in
set_option maxHeartbeats 4000000 in
theorem out19 (sub rd rn rm ra imm imm2 amount shift cond sys : Int) (flags minus not link : Bool) (w : World) : Calls Tryz.prog 64 #[(⟨19, sub, rd, rn, rm, ra, imm, imm2, amount, shift, cond, sys, flags, minus, not, link⟩ : Ins).val] w fun e w' => e = .returned (strV (wordV ⟨19, sub, rd, rn, rm, ra, imm, imm2, amount, shift, cond, sys, flags, minus, not, link⟩)) ∧ Below w.heap.size w w' := by
  go_enter Tryz.func64, Tryz.ntmps64
  repeat' (first | with_reducible refine then_exit ?_ | with_reducible refine then_normal ?_ | with_reducible refine inBlock_eq ?_ | with_reducible refine inBlock_ne rfl ?_ | with_reducible refine inBlock_normal ?_ | (go_at_call 60; refine (one_a _ _ _ _ _ _ (by decide) (by decide) (by simp) rfl).mono ?_; rintro e w' ⟨rfl, rfl⟩; dsimp only) | go_step)
  go_ret
  exact ⟨rfl, by repeat (first | exact Below.refl _ _ | apply below_more)⟩
set_option maxRecDepth 4000 in
set_option maxHeartbeats 4000000 in
theorem out20 (sub rd rn rm ra imm imm2 amount shift cond sys : Int) (flags minus not link : Bool) (w : World) : Calls Tryz.prog 64 #[(⟨20, sub, rd, rn, rm, ra, imm, imm2, amount, shift, cond, sys, flags, minus, not, link⟩ : Ins).val] w fun e w' => e = .returned (strV (wordV ⟨20, sub, rd, rn, rm, ra, imm, imm2, amount, shift, cond, sys, flags, minus, not, link⟩)) ∧ Below w.heap.size w w' := by
  go_enter Tryz.func64, Tryz.ntmps64
  repeat' (first | with_reducible refine then_exit ?_ | with_reducible refine then_normal ?_ | with_reducible refine inBlock_eq ?_ | with_reducible refine inBlock_ne rfl ?_ | with_reducible refine inBlock_normal ?_ | (go_at_call 60; refine (one_a _ _ _ _ _ _ (by decide) (by decide) (by simp) rfl).mono ?_; rintro e w' ⟨rfl, rfl⟩; dsimp only) | go_step)
  go_ret
  exact ⟨rfl, by repeat (first | exact Below.refl _ _ | apply below_more)⟩
set_option maxRecDepth 4000 in
set_option maxHeartbeats 4000000 in
theorem out21 (sub rd rn rm ra imm imm2 amount shift cond sys : Int) (flags minus not link : Bool) (h0 : 0 ≤ sub) (h1 : sub ≤ 1) (w : World) : Calls Tryz.prog 64 #[(⟨21, sub, rd, rn, rm, ra, imm, imm2, amount, shift, cond, sys, flags, minus, not, link⟩ : Ins).val] w fun e w' => e = .returned (strV (wordV ⟨21, sub, rd, rn, rm, ra, imm, imm2, amount, shift, cond, sys, flags, minus, not, link⟩)) ∧ Below w.heap.size w w' := by
  have : sub = 0 ∨ sub = 1 := by omega
  rcases this with rfl | rfl
  all_goals
    go_enter Tryz.func64, Tryz.ntmps64
    repeat' (first | with_reducible refine then_exit ?_ | with_reducible refine then_normal ?_ | with_reducible refine inBlock_eq ?_ | with_reducible refine inBlock_ne rfl ?_ | with_reducible refine inBlock_normal ?_ | (go_at_call 60; refine (one_a _ _ _ _ _ _ (by decide) (by decide) (by simp) rfl).mono ?_; rintro e w' ⟨rfl, rfl⟩; dsimp only) | go_step)
    go_ret
    exact ⟨rfl, by repeat (first | exact Below.refl _ _ | apply below_more)⟩
set_option maxRecDepth 4000 in
set_option maxHeartbeats 4000000 in
theorem out22 (sub rd rn rm ra imm imm2 amount shift cond sys : Int) (flags minus not link : Bool) (w : World) : Calls Tryz.prog 64 #[(⟨22, sub, rd, rn, rm, ra, imm, imm2, amount, shift, cond, sys, flags, minus, not, link⟩ : Ins).val] w fun e w' => e = .returned (strV (wordV ⟨22, sub, rd, rn, rm, ra, imm, imm2, amount, shift, cond, sys, flags, minus, not, link⟩)) ∧ Below w.heap.size w w' := by
  go_enter Tryz.func64, Tryz.ntmps64
  repeat' (first | with_reducible refine then_exit ?_ | with_reducible refine then_normal ?_ | with_reducible refine inBlock_eq ?_ | with_reducible refine inBlock_ne rfl ?_ | with_reducible refine inBlock_normal ?_ | (go_at_call 60; refine (one_a _ _ _ _ _ _ (by decide) (by decide) (by simp) rfl).mono ?_; rintro e w' ⟨rfl, rfl⟩; dsimp only) | go_step)
  go_ret
  exact ⟨rfl, by repeat (first | exact Below.refl _ _ | apply below_more)⟩
set_option maxRecDepth 4000 in
set_option maxHeartbeats 4000000 in
theorem out23 (sub rd rn rm ra imm imm2 amount shift cond sys : Int) (flags minus not link : Bool) (h0 : 0 ≤ sub) (h1 : sub ≤ 1) (w : World) : Calls Tryz.prog 64 #[(⟨23, sub, rd, rn, rm, ra, imm, imm2, amount, shift, cond, sys, flags, minus, not, link⟩ : Ins).val] w fun e w' => e = .returned (strV (wordV ⟨23, sub, rd, rn, rm, ra, imm, imm2, amount, shift, cond, sys, flags, minus, not, link⟩)) ∧ Below w.heap.size w w' := by
  have : sub = 0 ∨ sub = 1 := by omega
  rcases this with rfl | rfl
  all_goals
    go_enter Tryz.func64, Tryz.ntmps64
    repeat' (first | with_reducible refine then_exit ?_ | with_reducible refine then_normal ?_ | with_reducible refine inBlock_eq ?_ | with_reducible refine inBlock_ne rfl ?_ | with_reducible refine inBlock_normal ?_ | (go_at_call 60; refine (one_a _ _ _ _ _ _ (by decide) (by decide) (by simp) rfl).mono ?_; rintro e w' ⟨rfl, rfl⟩; dsimp only) | go_step)
    go_ret
    exact ⟨rfl, by repeat (first | exact Below.refl _ _ | apply below_more)⟩
set_option maxRecDepth 4000 in
set_option maxHeartbeats 4000000 in
theorem out24 (sub rd rn rm ra imm imm2 amount shift cond sys : Int) (flags minus not link : Bool) (h0 : 0 ≤ sub) (h1 : sub ≤ 1) (w : World) : Calls Tryz.prog 64 #[(⟨24, sub, rd, rn, rm, ra, imm, imm2, amount, shift, cond, sys, flags, minus, not, link⟩ : Ins).val] w fun e w' => e = .returned (strV (wordV ⟨24, sub, rd, rn, rm, ra, imm, imm2, amount, shift, cond, sys, flags, minus, not, link⟩)) ∧ Below w.heap.size w w' := by
  have : sub = 0 ∨ sub = 1 := by omega
  rcases this with rfl | rfl
  all_goals
    go_enter Tryz.func64, Tryz.ntmps64
    repeat' (first | with_reducible refine then_exit ?_ | with_reducible refine then_normal ?_ | with_reducible refine inBlock_eq ?_ | with_reducible refine inBlock_ne rfl ?_ | with_reducible refine inBlock_normal ?_ | (go_at_call 60; refine (one_a _ _ _ _ _ _ (by decide) (by decide) (by simp) rfl).mono ?_; rintro e w' ⟨rfl, rfl⟩; dsimp only) | go_step)
    go_ret
    exact ⟨rfl, by repeat (first | exact Below.refl _ _ | apply below_more)⟩
set_option maxRecDepth 4000 in
set_option maxHeartbeats 4000000 in
theorem out25 (sub rd rn rm ra imm imm2 amount shift cond sys : Int) (flags minus not link : Bool) (w : World) : Calls Tryz.prog 64 #[(⟨25, sub, rd, rn, rm, ra, imm, imm2, amount, shift, cond, sys, flags, minus, not, link⟩ : Ins).val] w fun e w' => e = .returned (strV (wordV ⟨25, sub, rd, rn, rm, ra, imm, imm2, amount, shift, cond, sys, flags, minus, not, link⟩)) ∧ Below w.heap.size w w' := by
  go_enter Tryz.func64, Tryz.ntmps64
  repeat' (first | with_reducible refine then_exit ?_ | with_reducible refine then_normal ?_ | with_reducible refine inBlock_eq ?_ | with_reducible refine inBlock_ne rfl ?_ | with_reducible refine inBlock_normal ?_ | (go_at_call 60; refine (one_a _ _ _ _ _ _ (by decide) (by decide) (by simp) rfl).mono ?_; rintro e w' ⟨rfl, rfl⟩; dsimp only) | go_step)
  go_ret
  exact ⟨rfl, by repeat (first | exact Below.refl _ _ | apply below_more)⟩
set_option maxRecDepth 4000 in
set_option maxHeartbeats 4000000 in
theorem out26 (sub rd rn rm ra imm imm2 amount shift cond sys : Int) (flags minus not link : Bool) (h0 : 0 ≤ sub) (h1 : sub ≤ 1) (w : World) : Calls Tryz.prog 64 #[(⟨26, sub, rd, rn, rm, ra, imm, imm2, amount, shift, cond, sys, flags, minus, not, link⟩ : Ins).val] w fun e w' => e = .returned (strV (wordV ⟨26, sub, rd, rn, rm, ra, imm, imm2, amount, shift, cond, sys, flags, minus, not, link⟩)) ∧ Below w.heap.size w w' := by
  have : sub = 0 ∨ sub = 1 := by omega
  rcases this with rfl | rfl
  all_goals
    go_enter Tryz.func64, Tryz.ntmps64
    repeat' (first | with_reducible refine then_exit ?_ | with_reducible refine then_normal ?_ | with_reducible refine inBlock_eq ?_ | with_reducible refine inBlock_ne rfl ?_ | with_reducible refine inBlock_normal ?_ | (go_at_call 60; refine (one_a _ _ _ _ _ _ (by decide) (by decide) (by simp) rfl).mono ?_; rintro e w' ⟨rfl, rfl⟩; dsimp only) | go_step)
    go_ret
    exact ⟨rfl, by repeat (first | exact Below.refl _ _ | apply below_more)⟩
set_option maxRecDepth 4000 in
set_option maxHeartbeats 4000000 in
theorem out27 (sub rd rn rm ra imm imm2 amount shift cond sys : Int) (flags minus not link : Bool) (w : World) : Calls Tryz.prog 64 #[(⟨27, sub, rd, rn, rm, ra, imm, imm2, amount, shift, cond, sys, flags, minus, not, link⟩ : Ins).val] w fun e w' => e = .returned (strV (wordV ⟨27, sub, rd, rn, rm, ra, imm, imm2, amount, shift, cond, sys, flags, minus, not, link⟩)) ∧ Below w.heap.size w w' := by
  go_enter Tryz.func64, Tryz.ntmps64
  repeat' (first | with_reducible refine then_exit ?_ | with_reducible refine then_normal ?_ | with_reducible refine inBlock_eq ?_ | with_reducible refine inBlock_ne rfl ?_ | with_reducible refine inBlock_normal ?_ | (go_at_call 60; refine (one_a _ _ _ _ _ _ (by decide) (by decide) (by simp) rfl).mono ?_; rintro e w' ⟨rfl, rfl⟩; dsimp only) | go_step)
  go_ret
  exact ⟨rfl, by repeat (first | exact Below.refl _ _ | apply below_more)⟩
set_option maxRecDepth 4000 in
set_option maxHeartbeats 4000000 in
theorem out28 (sub rd rn rm ra imm imm2 amount shift cond sys : Int) (flags minus not link : Bool) (w : World) : Calls Tryz.prog 64 #[(⟨28, sub, rd, rn, rm, ra, imm, imm2, amount, shift, cond, sys, flags, minus, not, link⟩ : Ins).val] w fun e w' => e = .returned (strV (wordV ⟨28, sub, rd, rn, rm, ra, imm, imm2, amount, shift, cond, sys, flags, minus, not, link⟩)) ∧ Below w.heap.size w w' := by
  go_enter Tryz.func64, Tryz.ntmps64
  repeat' (first | with_reducible refine then_exit ?_ | with_reducible refine then_normal ?_ | with_reducible refine inBlock_eq ?_ | with_reducible refine inBlock_ne rfl ?_ | with_reducible refine inBlock_normal ?_ | (go_at_call 60; refine (one_a _ _ _ _ _ _ (by decide) (by decide) (by simp) rfl).mono ?_; rintro e w' ⟨rfl, rfl⟩; dsimp only) | go_step)
  go_ret
  exact ⟨rfl, by repeat (first | exact Below.refl _ _ | apply below_more)⟩
set_option maxRecDepth 4000 in
set_option maxHeartbeats 4000000 in
theorem out29 (sub rd rn rm ra imm imm2 amount shift cond sys : Int) (flags minus not link : Bool) (w : World) : Calls Tryz.prog 64 #[(⟨29, sub, rd, rn, rm, ra, imm, imm2, amount, shift, cond, sys, flags, minus, not, link⟩ : Ins).val] w fun e w' => e = .returned (strV (wordV ⟨29, sub, rd, rn, rm, ra, imm, imm2, amount, shift, cond, sys, flags, minus, not, link⟩)) ∧ Below w.heap.size w w' := by
  go_enter Tryz.func64, Tryz.ntmps64
  repeat' (first | with_reducible refine then_exit ?_ | with_reducible refine then_normal ?_ | with_reducible refine inBlock_eq ?_ | with_reducible refine inBlock_ne rfl ?_ | with_reducible refine inBlock_normal ?_ | (go_at_call 60; refine (one_a _ _ _ _ _ _ (by decide) (by decide) (by simp) rfl).mono ?_; rintro e w' ⟨rfl, rfl⟩; dsimp only) | go_step)
  go_ret
  exact ⟨rfl, by repeat (first | exact Below.refl _ _ | apply below_more)⟩
set_option maxRecDepth 4000 in
set_option maxHeartbeats 4000000 in
theorem out30 (sub rd rn rm ra imm imm2 amount shift cond sys : Int) (flags minus not link : Bool) (w : World) : Calls Tryz.prog 64 #[(⟨30, sub, rd, rn, rm, ra, imm, imm2, amount, shift, cond, sys, flags, minus, not, link⟩ : Ins).val] w fun e w' => e = .returned (strV (wordV ⟨30, sub, rd, rn, rm, ra, imm, imm2, amount, shift, cond, sys, flags, minus, not, link⟩)) ∧ Below w.heap.size w w' := by
  go_enter Tryz.func64, Tryz.ntmps64
  repeat' (first | with_reducible refine then_exit ?_ | with_reducible refine then_normal ?_ | with_reducible refine inBlock_eq ?_ | with_reducible refine inBlock_ne rfl ?_ | with_reducible refine inBlock_normal ?_ | (go_at_call 60; refine (one_a _ _ _ _ _ _ (by decide) (by decide) (by simp) rfl).mono ?_; rintro e w' ⟨rfl, rfl⟩; dsimp only) | go_step)
  go_ret
  exact ⟨rfl, by repeat (first | exact Below.refl _ _ | apply below_more)⟩
set_option maxRecDepth 4000 in
set_option maxHeartbeats 4000000 in
theorem out31 (sub rd rn rm ra imm imm2 amount shift cond sys : Int) (flags minus not link : Bool) (w : World) : Calls Tryz.prog 64 #[(⟨31, sub, rd, rn, rm, ra, imm, imm2, amount, shift, cond, sys, flags, minus, not, link⟩ : Ins).val] w fun e w' => e = .returned (strV (wordV ⟨31, sub, rd, rn, rm, ra, imm, imm2, amount, shift, cond, sys, flags, minus, not, link⟩)) ∧ Below w.heap.size w w' := by
  go_enter Tryz.func64, Tryz.ntmps64
  repeat' (first | with_reducible refine then_exit ?_ | with_reducible refine then_normal ?_ | with_reducible refine inBlock_eq ?_ | with_reducible refine inBlock_ne rfl ?_ | with_reducible refine inBlock_normal ?_ | (go_at_call 60; refine (one_a _ _ _ _ _ _ (by decide) (by decide) (by simp) rfl).mono ?_; rintro e w' ⟨rfl, rfl⟩; dsimp only) | go_step)
  go_ret
  exact ⟨rfl, by repeat (first | exact Below.refl _ _ | apply below_more)⟩
set_option maxRecDepth 4000 in
set_option maxHeartbeats 4000000 in
theorem out32 (sub rd rn rm ra imm imm2 amount shift cond sys : Int) (flags minus not link : Bool) (w : World) : Calls Tryz.prog 64 #[(⟨32, sub, rd, rn, rm, ra, imm, imm2, amount, shift, cond, sys, flags, minus, not, link⟩ : Ins).val] w fun e w' => e = .returned (strV (wordV ⟨32, sub, rd, rn, rm, ra, imm, imm2, amount, shift, cond, sys, flags, minus, not, link⟩)) ∧ Below w.heap.size w w' := by
  go_enter Tryz.func64, Tryz.ntmps64
  repeat' (first | with_reducible refine then_exit ?_ | with_reducible refine then_normal ?_ | with_reducible refine inBlock_eq ?_ | with_reducible refine inBlock_ne rfl ?_ | with_reducible refine inBlock_normal ?_ | (go_at_call 60; refine (one_a _ _ _ _ _ _ (by decide) (by decide) (by simp) rfl).mono ?_; rintro e w' ⟨rfl, rfl⟩; dsimp only) | go_step)
  go_ret
  exact ⟨rfl, by repeat (first | exact Below.refl _ _ | apply below_more)⟩
set_option maxRecDepth 4000 in
set_option maxHeartbeats 4000000 in
theorem out33 (sub rd rn rm ra imm imm2 amount shift cond sys : Int) (flags minus not link : Bool) (w : World) : Calls Tryz.prog 64 #[(⟨33, sub, rd, rn, rm, ra, imm, imm2, amount, shift, cond, sys, flags, minus, not, link⟩ : Ins).val] w fun e w' => e = .returned (strV (wordV ⟨33, sub, rd, rn, rm, ra, imm, imm2, amount, shift, cond, sys, flags, minus, not, link⟩)) ∧ Below w.heap.size w w' := by
  go_enter Tryz.func64, Tryz.ntmps64
  repeat' (first | with_reducible refine then_exit ?_ | with_reducible refine then_normal ?_ | with_reducible refine inBlock_eq ?_ | with_reducible refine inBlock_ne rfl ?_ | with_reducible refine inBlock_normal ?_ | (go_at_call 60; refine (one_a _ _ _ _ _ _ (by decide) (by decide) (by simp) rfl).mono ?_; rintro e w' ⟨rfl, rfl⟩; dsimp only) | go_step)
  go_ret
  exact ⟨rfl, by repeat (first | exact Below.refl _ _ | apply below_more)⟩
set_option maxRecDepth 4000 in
set_option maxHeartbeats 4000000 in
theorem out34 (sub rd rn rm ra imm imm2 amount shift cond sys : Int) (flags minus not link : Bool) (w : World) : Calls Tryz.prog 64 #[(⟨34, sub, rd, rn, rm, ra, imm, imm2, amount, shift, cond, sys, flags, minus, not, link⟩ : Ins).val] w fun e w' => e = .returned (strV (wordV ⟨34, sub, rd, rn, rm, ra, imm, imm2, amount, shift, cond, sys, flags, minus, not, link⟩)) ∧ Below w.heap.size w w' := by
  go_enter Tryz.func64, Tryz.ntmps64
  repeat' (first | with_reducible refine then_exit ?_ | with_reducible refine then_normal ?_ | with_reducible refine inBlock_eq ?_ | with_reducible refine inBlock_ne rfl ?_ | with_reducible refine inBlock_normal ?_ | (go_at_call 60; refine (one_a _ _ _ _ _ _ (by decide) (by decide) (by simp) rfl).mono ?_; rintro e w' ⟨rfl, rfl⟩; dsimp only) | go_step)
  go_ret
  exact ⟨rfl, by repeat (first | exact Below.refl _ _ | apply below_more)⟩
set_option maxRecDepth 4000 in
set_option maxHeartbeats 4000000 in
theorem out35 (sub rd rn rm ra imm imm2 amount shift cond sys : Int) (flags minus not link : Bool) (w : World) : Calls Tryz.prog 64 #[(⟨35, sub, rd, rn, rm, ra, imm, imm2, amount, shift, cond, sys, flags, minus, not, link⟩ : Ins).val] w fun e w' => e = .returned (strV (wordV ⟨35, sub, rd, rn, rm, ra, imm, imm2, amount, shift, cond, sys, flags, minus, not, link⟩)) ∧ Below w.heap.size w w' := by
  go_enter Tryz.func64, Tryz.ntmps64
  repeat' (first | with_reducible refine then_exit ?_ | with_reducible refine then_normal ?_ | with_reducible refine inBlock_eq ?_ | with_reducible refine inBlock_ne rfl ?_ | with_reducible refine inBlock_normal ?_ | (go_at_call 60; refine (one_a _ _ _ _ _ _ (by decide) (by decide) (by simp) rfl).mono ?_; rintro e w' ⟨rfl, rfl⟩; dsimp only) | go_step)
  go_ret
  exact ⟨rfl, by repeat (first | exact Below.refl _ _ | apply below_more)⟩
set_option maxRecDepth 4000 in
set_option maxHeartbeats 4000000 in
theorem out36 (sub rd rn rm ra imm imm2 amount shift cond sys : Int) (flags minus not link : Bool) (w : World) : Calls Tryz.prog 64 #[(⟨36, sub, rd, rn, rm, ra, imm, imm2, amount, shift, cond, sys, flags, minus, not, link⟩ : Ins).val] w fun e w' => e = .returned (strV (wordV ⟨36, sub, rd, rn, rm, ra, imm, imm2, amount, shift, cond, sys, flags, minus, not, link⟩)) ∧ Below w.heap.size w w' := by
  go_enter Tryz.func64, Tryz.ntmps64
  repeat' (first | with_reducible refine then_exit ?_ | with_reducible refine then_normal ?_ | with_reducible refine inBlock_eq ?_ | with_reducible refine inBlock_ne rfl ?_ | with_reducible refine inBlock_normal ?_ | (go_at_call 60; refine (one_a _ _ _ _ _ _ (by decide) (by decide) (by simp) rfl).mono ?_; rintro e w' ⟨rfl, rfl⟩; dsimp only) | go_step)
  go_ret
  exact ⟨rfl, by repeat (first | exact Below.refl _ _ | apply below_more)⟩
set_option maxRecDepth 4000 in
set_option maxHeartbeats 4000000 in
theorem out37 (sub rd rn rm ra imm imm2 amount shift cond sys : Int) (flags minus not link : Bool) (w : World) : Calls Tryz.prog 64 #[(⟨37, sub, rd, rn, rm, ra, imm, imm2, amount, shift, cond, sys, flags, minus, not, link⟩ : Ins).val] w fun e w' => e = .returned (strV (wordV ⟨37, sub, rd, rn, rm, ra, imm, imm2, amount, shift, cond, sys, flags, minus, not, link⟩)) ∧ Below w.heap.size w w' := by
  go_enter Tryz.func64, Tryz.ntmps64
  repeat' (first | with_reducible refine then_exit ?_ | with_reducible refine then_normal ?_ | with_reducible refine inBlock_eq ?_ | with_reducible refine inBlock_ne rfl ?_ | with_reducible refine inBlock_normal ?_ | (go_at_call 60; refine (one_a _ _ _ _ _ _ (by decide) (by decide) (by simp) rfl).mono ?_; rintro e w' ⟨rfl, rfl⟩; dsimp only) | go_step)
  go_ret
  exact ⟨rfl, by repeat (first | exact Below.refl _ _ | apply below_more)⟩

end Go.Proofs.YtjmdgfimmjodjaaGreatDoor
