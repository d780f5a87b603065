/- Which registers an instruction writes: contracts, for every instruction. -/
import Derived.Test.YtjmdgfimmjodjaaGreatDoorV16
import Derived.Test.YtjmdgfimmjodjaaGreatDoorV07
namespace Go.Proofs.YtjmdgfimmjodjaaGreatDoor
open Go.RowKit Go.Rel

set_option maxRecDepth 4000 in
set_option maxHeartbeats 4000000 in
theorem writes1 (sub rd rn rm ra imm imm2 amount shift cond sys : Int) (flags minus not link : Bool) (hr : InR ⟨1, sub, rd, rn, rm, ra, imm, imm2, amount, shift, cond, sys, flags, minus, not, link⟩) (w : World) : Calls Tryz.prog 45 #[(⟨1, sub, rd, rn, rm, ra, imm, imm2, amount, shift, cond, sys, flags, minus, not, link⟩ : Ins).val] w fun e w' => e = .returned (.int .u32 (setDV ⟨1, sub, rd, rn, rm, ra, imm, imm2, amount, shift, cond, sys, flags, minus, not, link⟩)) ∧ Below w.heap.size w w' := by
  have HB := one_start (⟨1, sub, rd, rn, rm, ra, imm, imm2, amount, shift, cond, sys, flags, minus, not, link⟩ : Ins) w
  go_enter Tryz.func45, Tryz.ntmps45
  repeat' (first | with_reducible refine then_exit ?_ | with_reducible refine then_normal ?_ | with_reducible refine inBlock_eq ?_ | with_reducible refine inBlock_ne rfl ?_ | with_reducible refine inBlock_normal ?_ | (refine wpList_load_if rfl 23 _ rfl w.heap.size rfl 23 _ (0, 0) _ HB.box Tryz.underlying23 rfl (by kernel_rfl) ?_; simp only [Act.put, List.setIfInBounds_toArray, List.set_cons_succ, List.set_cons_zero]) | (go_at_call 77; refine (setRd_c _ hr _).mono ?_; rintro e w' ⟨rfl, rfl⟩; dsimp only) | go_step)
  go_ret
  exact ⟨rfl, by repeat (first | exact Below.refl _ _ | apply below_more)⟩
set_option maxRecDepth 4000 in
set_option maxHeartbeats 4000000 in
theorem writes2 (sub rd rn rm ra imm imm2 amount shift cond sys : Int) (flags minus not link : Bool) (hr : InR ⟨2, sub, rd, rn, rm, ra, imm, imm2, amount, shift, cond, sys, flags, minus, not, link⟩) (w : World) : Calls Tryz.prog 45 #[(⟨2, sub, rd, rn, rm, ra, imm, imm2, amount, shift, cond, sys, flags, minus, not, link⟩ : Ins).val] w fun e w' => e = .returned (.int .u32 (setDV ⟨2, sub, rd, rn, rm, ra, imm, imm2, amount, shift, cond, sys, flags, minus, not, link⟩)) ∧ Below w.heap.size w w' := by
  have HB := one_start (⟨2, sub, rd, rn, rm, ra, imm, imm2, amount, shift, cond, sys, flags, minus, not, link⟩ : Ins) w
  go_enter Tryz.func45, Tryz.ntmps45
  repeat' (first | with_reducible refine then_exit ?_ | with_reducible refine then_normal ?_ | with_reducible refine inBlock_eq ?_ | with_reducible refine inBlock_ne rfl ?_ | with_reducible refine inBlock_normal ?_ | (refine wpList_load_if rfl 23 _ rfl w.heap.size rfl 23 _ (0, 0) _ HB.box Tryz.underlying23 rfl (by kernel_rfl) ?_; simp only [Act.put, List.setIfInBounds_toArray, List.set_cons_succ, List.set_cons_zero]) | (go_at_call 77; refine (setRd_c _ hr _).mono ?_; rintro e w' ⟨rfl, rfl⟩; dsimp only) | go_step)
  go_ret
  exact ⟨rfl, by repeat (first | exact Below.refl _ _ | apply below_more)⟩
set_option maxRecDepth 4000 in
set_option maxHeartbeats 4000000 in
theorem writes3 (sub rd rn rm ra imm imm2 amount shift cond sys : Int) (flags minus not link : Bool) (hr : InR ⟨3, sub, rd, rn, rm, ra, imm, imm2, amount, shift, cond, sys, flags, minus, not, link⟩) (w : World) : Calls Tryz.prog 45 #[(⟨3, sub, rd, rn, rm, ra, imm, imm2, amount, shift, cond, sys, flags, minus, not, link⟩ : Ins).val] w fun e w' => e = .returned (.int .u32 (setDV ⟨3, sub, rd, rn, rm, ra, imm, imm2, amount, shift, cond, sys, flags, minus, not, link⟩)) ∧ Below w.heap.size w w' := by
  have HB := one_start (⟨3, sub, rd, rn, rm, ra, imm, imm2, amount, shift, cond, sys, flags, minus, not, link⟩ : Ins) w
  go_enter Tryz.func45, Tryz.ntmps45
  repeat' (first | with_reducible refine then_exit ?_ | with_reducible refine then_normal ?_ | with_reducible refine inBlock_eq ?_ | with_reducible refine inBlock_ne rfl ?_ | with_reducible refine inBlock_normal ?_ | (refine wpList_load_if rfl 23 _ rfl w.heap.size rfl 23 _ (0, 0) _ HB.box Tryz.underlying23 rfl (by kernel_rfl) ?_; simp only [Act.put, List.setIfInBounds_toArray, List.set_cons_succ, List.set_cons_zero]) | (go_at_call 77; refine (setRd_c _ hr _).mono ?_; rintro e w' ⟨rfl, rfl⟩; dsimp only) | go_step)
  go_ret
  exact ⟨rfl, by repeat (first | exact Below.refl _ _ | apply below_more)⟩
set_option maxRecDepth 4000 in
set_option maxHeartbeats 4000000 in
theorem writes4 (sub rd rn rm ra imm imm2 amount shift cond sys : Int) (flags minus not link : Bool) (hr : InR ⟨4, sub, rd, rn, rm, ra, imm, imm2, amount, shift, cond, sys, flags, minus, not, link⟩) (w : World) : Calls Tryz.prog 45 #[(⟨4, sub, rd, rn, rm, ra, imm, imm2, amount, shift, cond, sys, flags, minus, not, link⟩ : Ins).val] w fun e w' => e = .returned (.int .u32 (setDV ⟨4, sub, rd, rn, rm, ra, imm, imm2, amount, shift, cond, sys, flags, minus, not, link⟩)) ∧ Below w.heap.size w w' := by
  have HB := one_start (⟨4, sub, rd, rn, rm, ra, imm, imm2, amount, shift, cond, sys, flags, minus, not, link⟩ : Ins) w
  go_enter Tryz.func45, Tryz.ntmps45
  repeat' (first | with_reducible refine then_exit ?_ | with_reducible refine then_normal ?_ | with_reducible refine inBlock_eq ?_ | with_reducible refine inBlock_ne rfl ?_ | with_reducible refine inBlock_normal ?_ | (refine wpList_load_if rfl 23 _ rfl w.heap.size rfl 23 _ (0, 0) _ HB.box Tryz.underlying23 rfl (by kernel_rfl) ?_; simp only [Act.put, List.setIfInBounds_toArray, List.set_cons_succ, List.set_cons_zero]) | (go_at_call 77; refine (setRd_c _ hr _).mono ?_; rintro e w' ⟨rfl, rfl⟩; dsimp only) | go_step)
  go_ret
  exact ⟨rfl, by repeat (first | exact Below.refl _ _ | apply below_more)⟩
set_option maxRecDepth 4000 in
set_option maxHeartbeats 4000000 in
theorem writes5 (sub rd rn rm ra imm imm2 amount shift cond sys : Int) (flags minus not link : Bool) (hr : InR ⟨5, sub, rd, rn, rm, ra, imm, imm2, amount, shift, cond, sys, flags, minus, not, link⟩) (w : World) : Calls Tryz.prog 45 #[(⟨5, sub, rd, rn, rm, ra, imm, imm2, amount, shift, cond, sys, flags, minus, not, link⟩ : Ins).val] w fun e w' => e = .returned (.int .u32 (setDV ⟨5, sub, rd, rn, rm, ra, imm, imm2, amount, shift, cond, sys, flags, minus, not, link⟩)) ∧ Below w.heap.size w w' := by
  have HB := one_start (⟨5, sub, rd, rn, rm, ra, imm, imm2, amount, shift, cond, sys, flags, minus, not, link⟩ : Ins) w
  go_enter Tryz.func45, Tryz.ntmps45
  repeat' (first | with_reducible refine then_exit ?_ | with_reducible refine then_normal ?_ | with_reducible refine inBlock_eq ?_ | with_reducible refine inBlock_ne rfl ?_ | with_reducible refine inBlock_normal ?_ | (refine wpList_load_if rfl 23 _ rfl w.heap.size rfl 23 _ (0, 0) _ HB.box Tryz.underlying23 rfl (by kernel_rfl) ?_; simp only [Act.put, List.setIfInBounds_toArray, List.set_cons_succ, List.set_cons_zero]) | (go_at_call 77; refine (setRd_c _ hr _).mono ?_; rintro e w' ⟨rfl, rfl⟩; dsimp only) | go_step)
  go_ret
  exact ⟨rfl, by repeat (first | exact Below.refl _ _ | apply below_more)⟩
set_option maxRecDepth 4000 in
set_option maxHeartbeats 4000000 in
theorem writes6 (sub rd rn rm ra imm imm2 amount shift cond sys : Int) (flags minus not link : Bool) (hr : InR ⟨6, sub, rd, rn, rm, ra, imm, imm2, amount, shift, cond, sys, flags, minus, not, link⟩) (w : World) : Calls Tryz.prog 45 #[(⟨6, sub, rd, rn, rm, ra, imm, imm2, amount, shift, cond, sys, flags, minus, not, link⟩ : Ins).val] w fun e w' => e = .returned (.int .u32 (setDV ⟨6, sub, rd, rn, rm, ra, imm, imm2, amount, shift, cond, sys, flags, minus, not, link⟩)) ∧ Below w.heap.size w w' := by
  have HB := one_start (⟨6, sub, rd, rn, rm, ra, imm, imm2, amount, shift, cond, sys, flags, minus, not, link⟩ : Ins) w
  go_enter Tryz.func45, Tryz.ntmps45
  repeat' (first | with_reducible refine then_exit ?_ | with_reducible refine then_normal ?_ | with_reducible refine inBlock_eq ?_ | with_reducible refine inBlock_ne rfl ?_ | with_reducible refine inBlock_normal ?_ | (refine wpList_load_if rfl 23 _ rfl w.heap.size rfl 23 _ (0, 0) _ HB.box Tryz.underlying23 rfl (by kernel_rfl) ?_; simp only [Act.put, List.setIfInBounds_toArray, List.set_cons_succ, List.set_cons_zero]) | (go_at_call 77; refine (setRd_c _ hr _).mono ?_; rintro e w' ⟨rfl, rfl⟩; dsimp only) | go_step)
  go_ret
  exact ⟨rfl, by repeat (first | exact Below.refl _ _ | apply below_more)⟩
set_option maxRecDepth 4000 in
set_option maxHeartbeats 4000000 in
theorem writes7 (sub rd rn rm ra imm imm2 amount shift cond sys : Int) (flags minus not link : Bool) (hr : InR ⟨7, sub, rd, rn, rm, ra, imm, imm2, amount, shift, cond, sys, flags, minus, not, link⟩) (w : World) : Calls Tryz.prog 45 #[(⟨7, sub, rd, rn, rm, ra, imm, imm2, amount, shift, cond, sys, flags, minus, not, link⟩ : Ins).val] w fun e w' => e = .returned (.int .u32 (setDV ⟨7, sub, rd, rn, rm, ra, imm, imm2, amount, shift, cond, sys, flags, minus, not, link⟩)) ∧ Below w.heap.size w w' := by
  have HB := one_start (⟨7, sub, rd, rn, rm, ra, imm, imm2, amount, shift, cond, sys, flags, minus, not, link⟩ : Ins) w
  go_enter Tryz.func45, Tryz.ntmps45
  repeat' (first | with_reducible refine then_exit ?_ | with_reducible refine then_normal ?_ | with_reducible refine inBlock_eq ?_ | with_reducible refine inBlock_ne rfl ?_ | with_reducible refine inBlock_normal ?_ | (refine wpList_load_if rfl 23 _ rfl w.heap.size rfl 23 _ (0, 0) _ HB.box Tryz.underlying23 rfl (by kernel_rfl) ?_; simp only [Act.put, List.setIfInBounds_toArray, List.set_cons_succ, List.set_cons_zero]) | (go_at_call 77; refine (setRd_c _ hr _).mono ?_; rintro e w' ⟨rfl, rfl⟩; dsimp only) | go_step)
  go_ret
  exact ⟨rfl, by repeat (first | exact Below.refl _ _ | apply below_more)⟩
set_option maxRecDepth 4000 in
set_option maxHeartbeats 4000000 in
theorem writes8 (sub rd rn rm ra imm imm2 amount shift cond sys : Int) (flags minus not link : Bool) (hr : InR ⟨8, sub, rd, rn, rm, ra, imm, imm2, amount, shift, cond, sys, flags, minus, not, link⟩) (w : World) : Calls Tryz.prog 45 #[(⟨8, sub, rd, rn, rm, ra, imm, imm2, amount, shift, cond, sys, flags, minus, not, link⟩ : Ins).val] w fun e w' => e = .returned (.int .u32 (setDV ⟨8, sub, rd, rn, rm, ra, imm, imm2, amount, shift, cond, sys, flags, minus, not, link⟩)) ∧ Below w.heap.size w w' := by
  have HB := one_start (⟨8, sub, rd, rn, rm, ra, imm, imm2, amount, shift, cond, sys, flags, minus, not, link⟩ : Ins) w
  go_enter Tryz.func45, Tryz.ntmps45
  repeat' (first | with_reducible refine then_exit ?_ | with_reducible refine then_normal ?_ | with_reducible refine inBlock_eq ?_ | with_reducible refine inBlock_ne rfl ?_ | with_reducible refine inBlock_normal ?_ | (refine wpList_load_if rfl 23 _ rfl w.heap.size rfl 23 _ (0, 0) _ HB.box Tryz.underlying23 rfl (by kernel_rfl) ?_; simp only [Act.put, List.setIfInBounds_toArray, List.set_cons_succ, List.set_cons_zero]) | (go_at_call 77; refine (setRd_c _ hr _).mono ?_; rintro e w' ⟨rfl, rfl⟩; dsimp only) | go_step)
  go_ret
  exact ⟨rfl, by repeat (first | exact Below.refl _ _ | apply below_more)⟩
set_option maxRecDepth 4000 in
set_option maxHeartbeats 4000000 in
theorem writes9 (sub rd rn rm ra imm imm2 amount shift cond sys : Int) (flags minus not link : Bool) (hr : InR ⟨9, sub, rd, rn, rm, ra, imm, imm2, amount, shift, cond, sys, flags, minus, not, link⟩) (w : World) : Calls Tryz.prog 45 #[(⟨9, sub, rd, rn, rm, ra, imm, imm2, amount, shift, cond, sys, flags, minus, not, link⟩ : Ins).val] w fun e w' => e = .returned (.int .u32 (setDV ⟨9, sub, rd, rn, rm, ra, imm, imm2, amount, shift, cond, sys, flags, minus, not, link⟩)) ∧ Below w.heap.size w w' := by
  have HB := one_start (⟨9, sub, rd, rn, rm, ra, imm, imm2, amount, shift, cond, sys, flags, minus, not, link⟩ : Ins) w
  go_enter Tryz.func45, Tryz.ntmps45
  repeat' (first | with_reducible refine then_exit ?_ | with_reducible refine then_normal ?_ | with_reducible refine inBlock_eq ?_ | with_reducible refine inBlock_ne rfl ?_ | with_reducible refine inBlock_normal ?_ | (refine wpList_load_if rfl 23 _ rfl w.heap.size rfl 23 _ (0, 0) _ HB.box Tryz.underlying23 rfl (by kernel_rfl) ?_; simp only [Act.put, List.setIfInBounds_toArray, List.set_cons_succ, List.set_cons_zero]) | (go_at_call 77; refine (setRd_c _ hr _).mono ?_; rintro e w' ⟨rfl, rfl⟩; dsimp only) | go_step)
  go_ret
  exact ⟨rfl, by repeat (first | exact Below.refl _ _ | apply below_more)⟩
set_option maxRecDepth 4000 in
set_option maxHeartbeats 4000000 in
theorem writes10 (sub rd rn rm ra imm imm2 amount shift cond sys : Int) (flags minus not link : Bool) (hr : InR ⟨10, sub, rd, rn, rm, ra, imm, imm2, amount, shift, cond, sys, flags, minus, not, link⟩) (w : World) : Calls Tryz.prog 45 #[(⟨10, sub, rd, rn, rm, ra, imm, imm2, amount, shift, cond, sys, flags, minus, not, link⟩ : Ins).val] w fun e w' => e = .returned (.int .u32 (setDV ⟨10, sub, rd, rn, rm, ra, imm, imm2, amount, shift, cond, sys, flags, minus, not, link⟩)) ∧ Below w.heap.size w w' := by
  have HB := one_start (⟨10, sub, rd, rn, rm, ra, imm, imm2, amount, shift, cond, sys, flags, minus, not, link⟩ : Ins) w
  go_enter Tryz.func45, Tryz.ntmps45
  repeat' (first | with_reducible refine then_exit ?_ | with_reducible refine then_normal ?_ | with_reducible refine inBlock_eq ?_ | with_reducible refine inBlock_ne rfl ?_ | with_reducible refine inBlock_normal ?_ | (refine wpList_load_if rfl 23 _ rfl w.heap.size rfl 23 _ (0, 0) _ HB.box Tryz.underlying23 rfl (by kernel_rfl) ?_; simp only [Act.put, List.setIfInBounds_toArray, List.set_cons_succ, List.set_cons_zero]) | (go_at_call 77; refine (setRd_c _ hr _).mono ?_; rintro e w' ⟨rfl, rfl⟩; dsimp only) | go_step)
  go_ret
  exact ⟨rfl, by repeat (first | exact Below.refl _ _ | apply below_more)⟩
set_option maxRecDepth 4000 in
set_option maxHeartbeats 4000000 in
theorem writes11 (sub rd rn rm ra imm imm2 amount shift cond sys : Int) (flags minus not link : Bool) (hr : InR ⟨11, sub, rd, rn, rm, ra, imm, imm2, amount, shift, cond, sys, flags, minus, not, link⟩) (w : World) : Calls Tryz.prog 45 #[(⟨11, sub, rd, rn, rm, ra, imm, imm2, amount, shift, cond, sys, flags, minus, not, link⟩ : Ins).val] w fun e w' => e = .returned (.int .u32 (setDV ⟨11, sub, rd, rn, rm, ra, imm, imm2, amount, shift, cond, sys, flags, minus, not, link⟩)) ∧ Below w.heap.size w w' := by
  have HB := one_start (⟨11, sub, rd, rn, rm, ra, imm, imm2, amount, shift, cond, sys, flags, minus, not, link⟩ : Ins) w
  go_enter Tryz.func45, Tryz.ntmps45
  repeat' (first | with_reducible refine then_exit ?_ | with_reducible refine then_normal ?_ | with_reducible refine inBlock_eq ?_ | with_reducible refine inBlock_ne rfl ?_ | with_reducible refine inBlock_normal ?_ | (refine wpList_load_if rfl 23 _ rfl w.heap.size rfl 23 _ (0, 0) _ HB.box Tryz.underlying23 rfl (by kernel_rfl) ?_; simp only [Act.put, List.setIfInBounds_toArray, List.set_cons_succ, List.set_cons_zero]) | (go_at_call 77; refine (setRd_c _ hr _).mono ?_; rintro e w' ⟨rfl, rfl⟩; dsimp only) | go_step)
  go_ret
  exact ⟨rfl, by repeat (first | exact Below.refl _ _ | apply below_more)⟩
set_option maxRecDepth 4000 in
set_option maxHeartbeats 4000000 in
theorem writes12 (sub rd rn rm ra imm imm2 amount shift cond sys : Int) (flags minus not link : Bool) (w : World) : Calls Tryz.prog 45 #[(⟨12, sub, rd, rn, rm, ra, imm, imm2, amount, shift, cond, sys, flags, minus, not, link⟩ : Ins).val] w fun e w' => e = .returned (.int .u32 (bif link then zeroF 30 else 0)) ∧ Below w.heap.size w w' := by
  cases link
  all_goals
    go_enter Tryz.func45, Tryz.ntmps45
    repeat' (first | with_reducible refine then_exit ?_ | with_reducible refine then_normal ?_ | with_reducible refine inBlock_eq ?_ | with_reducible refine inBlock_ne rfl ?_ | with_reducible refine inBlock_normal ?_ | (go_at_call 75; refine (zeroOr_c 30 (by decide) (by decide) _).mono ?_; rintro e w' ⟨rfl, rfl⟩; dsimp only) | go_step)
    go_ret
    exact ⟨rfl, by repeat (first | exact Below.refl _ _ | apply below_more)⟩
set_option maxRecDepth 4000 in
set_option maxHeartbeats 4000000 in
theorem writes13 (sub rd rn rm ra imm imm2 amount shift cond sys : Int) (flags minus not link : Bool) (w : World) : Calls Tryz.prog 45 #[(⟨13, sub, rd, rn, rm, ra, imm, imm2, amount, shift, cond, sys, flags, minus, not, link⟩ : Ins).val] w fun e w' => e = .returned (.int .u32 (0)) ∧ Below w.heap.size w w' := by
  go_enter Tryz.func45, Tryz.ntmps45
  repeat' (first | with_reducible refine then_exit ?_ | with_reducible refine then_normal ?_ | with_reducible refine inBlock_eq ?_ | with_reducible refine inBlock_ne rfl ?_ | with_reducible refine inBlock_normal ?_ | go_step)
  go_ret
  exact ⟨rfl, by repeat (first | exact Below.refl _ _ | apply below_more)⟩
set_option maxRecDepth 4000 in
set_option maxHeartbeats 4000000 in
theorem writes14 (sub rd rn rm ra imm imm2 amount shift cond sys : Int) (flags minus not link : Bool) (w : World) : Calls Tryz.prog 45 #[(⟨14, sub, rd, rn, rm, ra, imm, imm2, amount, shift, cond, sys, flags, minus, not, link⟩ : Ins).val] w fun e w' => e = .returned (.int .u32 (0)) ∧ Below w.heap.size w w' := by
  go_enter Tryz.func45, Tryz.ntmps45
  repeat' (first | with_reducible refine then_exit ?_ | with_reducible refine then_normal ?_ | with_reducible refine inBlock_eq ?_ | with_reducible refine inBlock_ne rfl ?_ | with_reducible refine inBlock_normal ?_ | go_step)
  go_ret
  exact ⟨rfl, by repeat (first | exact Below.refl _ _ | apply below_more)⟩
set_option maxRecDepth 4000 in
set_option maxHeartbeats 4000000 in
theorem writes15 (sub rd rn rm ra imm imm2 amount shift cond sys : Int) (flags minus not link : Bool) (w : World) : Calls Tryz.prog 45 #[(⟨15, sub, rd, rn, rm, ra, imm, imm2, amount, shift, cond, sys, flags, minus, not, link⟩ : Ins).val] w fun e w' => e = .returned (.int .u32 (0)) ∧ Below w.heap.size w w' := by
  go_enter Tryz.func45, Tryz.ntmps45
  repeat' (first | with_reducible refine then_exit ?_ | with_reducible refine then_normal ?_ | with_reducible refine inBlock_eq ?_ | with_reducible refine inBlock_ne rfl ?_ | with_reducible refine inBlock_normal ?_ | go_step)
  go_ret
  exact ⟨rfl, by repeat (first | exact Below.refl _ _ | apply below_more)⟩
set_option maxRecDepth 4000 in
set_option maxHeartbeats 4000000 in
theorem writes16 (sub rd rn rm ra imm imm2 amount shift cond sys : Int) (flags minus not link : Bool) (w : World) : Calls Tryz.prog 45 #[(⟨16, sub, rd, rn, rm, ra, imm, imm2, amount, shift, cond, sys, flags, minus, not, link⟩ : Ins).val] w fun e w' => e = .returned (.int .u32 (bif sub == 1 then zeroF 30 else 0)) ∧ Below w.heap.size w w' := by
  cases hS : sub == 1
  all_goals
    go_enter Tryz.func45, Tryz.ntmps45
    repeat' (first | with_reducible refine then_exit ?_ | with_reducible refine then_normal ?_ | with_reducible refine inBlock_eq ?_ | with_reducible refine inBlock_ne rfl ?_ | with_reducible refine inBlock_normal ?_ | (go_at_call 75; refine (zeroOr_c 30 (by decide) (by decide) _).mono ?_; rintro e w' ⟨rfl, rfl⟩; dsimp only) | go_step)
    go_ret
    exact ⟨rfl, by repeat (first | exact Below.refl _ _ | apply below_more)⟩
set_option maxRecDepth 4000 in
set_option maxHeartbeats 4000000 in
theorem writes17 (sub rd rn rm ra imm imm2 amount shift cond sys : Int) (flags minus not link : Bool) (hr : InR ⟨17, sub, rd, rn, rm, ra, imm, imm2, amount, shift, cond, sys, flags, minus, not, link⟩) (w : World) : Calls Tryz.prog 45 #[(⟨17, sub, rd, rn, rm, ra, imm, imm2, amount, shift, cond, sys, flags, minus, not, link⟩ : Ins).val] w fun e w' => e = .returned (.int .u32 (setDV ⟨17, sub, rd, rn, rm, ra, imm, imm2, amount, shift, cond, sys, flags, minus, not, link⟩)) ∧ Below w.heap.size w w' := by
  have HB := one_start (⟨17, sub, rd, rn, rm, ra, imm, imm2, amount, shift, cond, sys, flags, minus, not, link⟩ : Ins) w
  go_enter Tryz.func45, Tryz.ntmps45
  repeat' (first | with_reducible refine then_exit ?_ | with_reducible refine then_normal ?_ | with_reducible refine inBlock_eq ?_ | with_reducible refine inBlock_ne rfl ?_ | with_reducible refine inBlock_normal ?_ | (refine wpList_load_if rfl 23 _ rfl w.heap.size rfl 23 _ (0, 0) _ HB.box Tryz.underlying23 rfl (by kernel_rfl) ?_; simp only [Act.put, List.setIfInBounds_toArray, List.set_cons_succ, List.set_cons_zero]) | (go_at_call 77; refine (setRd_c _ hr _).mono ?_; rintro e w' ⟨rfl, rfl⟩; dsimp only) | go_step)
  go_ret
  exact ⟨rfl, by repeat (first | exact Below.refl _ _ | apply below_more)⟩
set_option maxRecDepth 4000 in
set_option maxHeartbeats 4000000 in
theorem writes18 (sub rd rn rm ra imm imm2 amount shift cond sys : Int) (flags minus not link : Bool) (w : World) : Calls Tryz.prog 45 #[(⟨18, sub, rd, rn, rm, ra, imm, imm2, amount, shift, cond, sys, flags, minus, not, link⟩ : Ins).val] w fun e w' => e = .returned (.int .u32 (0)) ∧ Below w.heap.size w w' := by
  go_enter Tryz.func45, Tryz.ntmps45
  repeat' (first | with_reducible refine then_exit ?_ | with_reducible refine then_normal ?_ | with_reducible refine inBlock_eq ?_ | with_reducible refine inBlock_ne rfl ?_ | with_reducible refine inBlock_normal ?_ | go_step)
  go_ret
  exact ⟨rfl, by repeat (first | exact Below.refl _ _ | apply below_more)⟩
set_option maxRecDepth 4000 in
set_option maxHeartbeats 4000000 in
theorem writes19 (sub rd rn rm ra imm imm2 amount shift cond sys : Int) (flags minus not link : Bool) (hr : InR ⟨19, sub, rd, rn, rm, ra, imm, imm2, amount, shift, cond, sys, flags, minus, not, link⟩) (w : World) : Calls Tryz.prog 45 #[(⟨19, sub, rd, rn, rm, ra, imm, imm2, amount, shift, cond, sys, flags, minus, not, link⟩ : Ins).val] w fun e w' => e = .returned (.int .u32 (setDV ⟨19, sub, rd, rn, rm, ra, imm, imm2, amount, shift, cond, sys, flags, minus, not, link⟩)) ∧ Below w.heap.size w w' := by
  have HB := one_start (⟨19, sub, rd, rn, rm, ra, imm, imm2, amount, shift, cond, sys, flags, minus, not, link⟩ : Ins) w
  go_enter Tryz.func45, Tryz.ntmps45
  repeat' (first | with_reducible refine then_exit ?_ | with_reducible refine then_normal ?_ | with_reducible refine inBlock_eq ?_ | with_reducible refine inBlock_ne rfl ?_ | with_reducible refine inBlock_normal ?_ | (refine wpList_load_if rfl 23 _ rfl w.heap.size rfl 23 _ (0, 0) _ HB.box Tryz.underlying23 rfl (by kernel_rfl) ?_; simp only [Act.put, List.setIfInBounds_toArray, List.set_cons_succ, List.set_cons_zero]) | (go_at_call 77; refine (setRd_c _ hr _).mono ?_; rintro e w' ⟨rfl, rfl⟩; dsimp only) | go_step)
  go_ret
  exact ⟨rfl, by repeat (first | exact Below.refl _ _ | apply below_more)⟩
set_option maxRecDepth 4000 in
set_option maxHeartbeats 4000000 in
theorem writes20 (sub rd rn rm ra imm imm2 amount shift cond sys : Int) (flags minus not link : Bool) (w : World) : Calls Tryz.prog 45 #[(⟨20, sub, rd, rn, rm, ra, imm, imm2, amount, shift, cond, sys, flags, minus, not, link⟩ : Ins).val] w fun e w' => e = .returned (.int .u32 (0)) ∧ Below w.heap.size w w' := by
  go_enter Tryz.func45, Tryz.ntmps45
  repeat' (first | with_reducible refine then_exit ?_ | with_reducible refine then_normal ?_ | with_reducible refine inBlock_eq ?_ | with_reducible refine inBlock_ne rfl ?_ | with_reducible refine inBlock_normal ?_ | go_step)
  go_ret
  exact ⟨rfl, by repeat (first | exact Below.refl _ _ | apply below_more)⟩
set_option maxRecDepth 4000 in
set_option maxHeartbeats 4000000 in
theorem writes21 (sub rd rn rm ra imm imm2 amount shift cond sys : Int) (flags minus not link : Bool) (hr : InR ⟨21, sub, rd, rn, rm, ra, imm, imm2, amount, shift, cond, sys, flags, minus, not, link⟩) (w : World) : Calls Tryz.prog 45 #[(⟨21, sub, rd, rn, rm, ra, imm, imm2, amount, shift, cond, sys, flags, minus, not, link⟩ : Ins).val] w fun e w' => e = .returned (.int .u32 (setDV ⟨21, sub, rd, rn, rm, ra, imm, imm2, amount, shift, cond, sys, flags, minus, not, link⟩)) ∧ Below w.heap.size w w' := by
  have HB := one_start (⟨21, sub, rd, rn, rm, ra, imm, imm2, amount, shift, cond, sys, flags, minus, not, link⟩ : Ins) w
  go_enter Tryz.func45, Tryz.ntmps45
  repeat' (first | with_reducible refine then_exit ?_ | with_reducible refine then_normal ?_ | with_reducible refine inBlock_eq ?_ | with_reducible refine inBlock_ne rfl ?_ | with_reducible refine inBlock_normal ?_ | (refine wpList_load_if rfl 23 _ rfl w.heap.size rfl 23 _ (0, 0) _ HB.box Tryz.underlying23 rfl (by kernel_rfl) ?_; simp only [Act.put, List.setIfInBounds_toArray, List.set_cons_succ, List.set_cons_zero]) | (go_at_call 77; refine (setRd_c _ hr _).mono ?_; rintro e w' ⟨rfl, rfl⟩; dsimp only) | go_step)
  go_ret
  exact ⟨rfl, by repeat (first | exact Below.refl _ _ | apply below_more)⟩
set_option maxRecDepth 4000 in
set_option maxHeartbeats 4000000 in
theorem writes22 (sub rd rn rm ra imm imm2 amount shift cond sys : Int) (flags minus not link : Bool) (w : World) : Calls Tryz.prog 45 #[(⟨22, sub, rd, rn, rm, ra, imm, imm2, amount, shift, cond, sys, flags, minus, not, link⟩ : Ins).val] w fun e w' => e = .returned (.int .u32 (0)) ∧ Below w.heap.size w w' := by
  go_enter Tryz.func45, Tryz.ntmps45
  repeat' (first | with_reducible refine then_exit ?_ | with_reducible refine then_normal ?_ | with_reducible refine inBlock_eq ?_ | with_reducible refine inBlock_ne rfl ?_ | with_reducible refine inBlock_normal ?_ | go_step)
  go_ret
  exact ⟨rfl, by repeat (first | exact Below.refl _ _ | apply below_more)⟩
set_option maxRecDepth 4000 in
set_option maxHeartbeats 4000000 in
theorem writes23 (sub rd rn rm ra imm imm2 amount shift cond sys : Int) (flags minus not link : Bool) (hr : InR ⟨23, sub, rd, rn, rm, ra, imm, imm2, amount, shift, cond, sys, flags, minus, not, link⟩) (w : World) : Calls Tryz.prog 45 #[(⟨23, sub, rd, rn, rm, ra, imm, imm2, amount, shift, cond, sys, flags, minus, not, link⟩ : Ins).val] w fun e w' => e = .returned (.int .u32 (setDV ⟨23, sub, rd, rn, rm, ra, imm, imm2, amount, shift, cond, sys, flags, minus, not, link⟩)) ∧ Below w.heap.size w w' := by
  have HB := one_start (⟨23, sub, rd, rn, rm, ra, imm, imm2, amount, shift, cond, sys, flags, minus, not, link⟩ : Ins) w
  go_enter Tryz.func45, Tryz.ntmps45
  repeat' (first | with_reducible refine then_exit ?_ | with_reducible refine then_normal ?_ | with_reducible refine inBlock_eq ?_ | with_reducible refine inBlock_ne rfl ?_ | with_reducible refine inBlock_normal ?_ | (refine wpList_load_if rfl 23 _ rfl w.heap.size rfl 23 _ (0, 0) _ HB.box Tryz.underlying23 rfl (by kernel_rfl) ?_; simp only [Act.put, List.setIfInBounds_toArray, List.set_cons_succ, List.set_cons_zero]) | (go_at_call 77; refine (setRd_c _ hr _).mono ?_; rintro e w' ⟨rfl, rfl⟩; dsimp only) | go_step)
  go_ret
  exact ⟨rfl, by repeat (first | exact Below.refl _ _ | apply below_more)⟩
set_option maxRecDepth 4000 in
set_option maxHeartbeats 4000000 in
theorem writes24 (sub rd rn rm ra imm imm2 amount shift cond sys : Int) (flags minus not link : Bool) (hr : InR ⟨24, sub, rd, rn, rm, ra, imm, imm2, amount, shift, cond, sys, flags, minus, not, link⟩) (w : World) : Calls Tryz.prog 45 #[(⟨24, sub, rd, rn, rm, ra, imm, imm2, amount, shift, cond, sys, flags, minus, not, link⟩ : Ins).val] w fun e w' => e = .returned (.int .u32 (zeroF rm)) ∧ Below w.heap.size w w' := by
  go_enter Tryz.func45, Tryz.ntmps45
  repeat' (first | with_reducible refine then_exit ?_ | with_reducible refine then_normal ?_ | with_reducible refine inBlock_eq ?_ | with_reducible refine inBlock_ne rfl ?_ | with_reducible refine inBlock_normal ?_ | (go_at_call 75; refine (zeroOr_c _ hr.m0 hr.m1 _).mono ?_; rintro e w' ⟨rfl, rfl⟩; dsimp only) | go_step)
  go_ret
  exact ⟨rfl, by repeat (first | exact Below.refl _ _ | apply below_more)⟩
set_option maxRecDepth 4000 in
set_option maxHeartbeats 4000000 in
theorem writes25 (sub rd rn rm ra imm imm2 amount shift cond sys : Int) (flags minus not link : Bool) (w : World) : Calls Tryz.prog 45 #[(⟨25, sub, rd, rn, rm, ra, imm, imm2, amount, shift, cond, sys, flags, minus, not, link⟩ : Ins).val] w fun e w' => e = .returned (.int .u32 (0)) ∧ Below w.heap.size w w' := by
  go_enter Tryz.func45, Tryz.ntmps45
  repeat' (first | with_reducible refine then_exit ?_ | with_reducible refine then_normal ?_ | with_reducible refine inBlock_eq ?_ | with_reducible refine inBlock_ne rfl ?_ | with_reducible refine inBlock_normal ?_ | go_step)
  go_ret
  exact ⟨rfl, by repeat (first | exact Below.refl _ _ | apply below_more)⟩
set_option maxRecDepth 4000 in
set_option maxHeartbeats 4000000 in
theorem writes26 (sub rd rn rm ra imm imm2 amount shift cond sys : Int) (flags minus not link : Bool) (w : World) : Calls Tryz.prog 45 #[(⟨26, sub, rd, rn, rm, ra, imm, imm2, amount, shift, cond, sys, flags, minus, not, link⟩ : Ins).val] w fun e w' => e = .returned (.int .u32 (0)) ∧ Below w.heap.size w w' := by
  go_enter Tryz.func45, Tryz.ntmps45
  repeat' (first | with_reducible refine then_exit ?_ | with_reducible refine then_normal ?_ | with_reducible refine inBlock_eq ?_ | with_reducible refine inBlock_ne rfl ?_ | with_reducible refine inBlock_normal ?_ | go_step)
  go_ret
  exact ⟨rfl, by repeat (first | exact Below.refl _ _ | apply below_more)⟩
set_option maxRecDepth 4000 in
set_option maxHeartbeats 4000000 in
theorem writes27 (sub rd rn rm ra imm imm2 amount shift cond sys : Int) (flags minus not link : Bool) (w : World) : Calls Tryz.prog 45 #[(⟨27, sub, rd, rn, rm, ra, imm, imm2, amount, shift, cond, sys, flags, minus, not, link⟩ : Ins).val] w fun e w' => e = .returned (.int .u32 (0)) ∧ Below w.heap.size w w' := by
  go_enter Tryz.func45, Tryz.ntmps45
  repeat' (first | with_reducible refine then_exit ?_ | with_reducible refine then_normal ?_ | with_reducible refine inBlock_eq ?_ | with_reducible refine inBlock_ne rfl ?_ | with_reducible refine inBlock_normal ?_ | go_step)
  go_ret
  exact ⟨rfl, by repeat (first | exact Below.refl _ _ | apply below_more)⟩
set_option maxRecDepth 4000 in
set_option maxHeartbeats 4000000 in
theorem writes28 (sub rd rn rm ra imm imm2 amount shift cond sys : Int) (flags minus not link : Bool) (w : World) : Calls Tryz.prog 45 #[(⟨28, sub, rd, rn, rm, ra, imm, imm2, amount, shift, cond, sys, flags, minus, not, link⟩ : Ins).val] w fun e w' => e = .returned (.int .u32 (0)) ∧ Below w.heap.size w w' := by
  go_enter Tryz.func45, Tryz.ntmps45
  repeat' (first | with_reducible refine then_exit ?_ | with_reducible refine then_normal ?_ | with_reducible refine inBlock_eq ?_ | with_reducible refine inBlock_ne rfl ?_ | with_reducible refine inBlock_normal ?_ | go_step)
  go_ret
  exact ⟨rfl, by repeat (first | exact Below.refl _ _ | apply below_more)⟩
set_option maxRecDepth 4000 in
set_option maxHeartbeats 4000000 in
theorem writes29 (sub rd rn rm ra imm imm2 amount shift cond sys : Int) (flags minus not link : Bool) (w : World) : Calls Tryz.prog 45 #[(⟨29, sub, rd, rn, rm, ra, imm, imm2, amount, shift, cond, sys, flags, minus, not, link⟩ : Ins).val] w fun e w' => e = .returned (.int .u32 (0)) ∧ Below w.heap.size w w' := by
  go_enter Tryz.func45, Tryz.ntmps45
  repeat' (first | with_reducible refine then_exit ?_ | with_reducible refine then_normal ?_ | with_reducible refine inBlock_eq ?_ | with_reducible refine inBlock_ne rfl ?_ | with_reducible refine inBlock_normal ?_ | go_step)
  go_ret
  exact ⟨rfl, by repeat (first | exact Below.refl _ _ | apply below_more)⟩
set_option maxRecDepth 4000 in
set_option maxHeartbeats 4000000 in
theorem writes30 (sub rd rn rm ra imm imm2 amount shift cond sys : Int) (flags minus not link : Bool) (w : World) : Calls Tryz.prog 45 #[(⟨30, sub, rd, rn, rm, ra, imm, imm2, amount, shift, cond, sys, flags, minus, not, link⟩ : Ins).val] w fun e w' => e = .returned (.int .u32 (0)) ∧ Below w.heap.size w w' := by
  go_enter Tryz.func45, Tryz.ntmps45
  repeat' (first | with_reducible refine then_exit ?_ | with_reducible refine then_normal ?_ | with_reducible refine inBlock_eq ?_ | with_reducible refine inBlock_ne rfl ?_ | with_reducible refine inBlock_normal ?_ | go_step)
  go_ret
  exact ⟨rfl, by repeat (first | exact Below.refl _ _ | apply below_more)⟩
set_option maxRecDepth 4000 in
set_option maxHeartbeats 4000000 in
theorem writes31 (sub rd rn rm ra imm imm2 amount shift cond sys : Int) (flags minus not link : Bool) (hr : InR ⟨31, sub, rd, rn, rm, ra, imm, imm2, amount, shift, cond, sys, flags, minus, not, link⟩) (w : World) : Calls Tryz.prog 45 #[(⟨31, sub, rd, rn, rm, ra, imm, imm2, amount, shift, cond, sys, flags, minus, not, link⟩ : Ins).val] w fun e w' => e = .returned (.int .u32 (setDV ⟨31, sub, rd, rn, rm, ra, imm, imm2, amount, shift, cond, sys, flags, minus, not, link⟩)) ∧ Below w.heap.size w w' := by
  have HB := one_start (⟨31, sub, rd, rn, rm, ra, imm, imm2, amount, shift, cond, sys, flags, minus, not, link⟩ : Ins) w
  go_enter Tryz.func45, Tryz.ntmps45
  repeat' (first | with_reducible refine then_exit ?_ | with_reducible refine then_normal ?_ | with_reducible refine inBlock_eq ?_ | with_reducible refine inBlock_ne rfl ?_ | with_reducible refine inBlock_normal ?_ | (refine wpList_load_if rfl 23 _ rfl w.heap.size rfl 23 _ (0, 0) _ HB.box Tryz.underlying23 rfl (by kernel_rfl) ?_; simp only [Act.put, List.setIfInBounds_toArray, List.set_cons_succ, List.set_cons_zero]) | (go_at_call 77; refine (setRd_c _ hr _).mono ?_; rintro e w' ⟨rfl, rfl⟩; dsimp only) | go_step)
  go_ret
  exact ⟨rfl, by repeat (first | exact Below.refl _ _ | apply below_more)⟩
set_option maxRecDepth 4000 in
set_option maxHeartbeats 4000000 in
theorem writes32 (sub rd rn rm ra imm imm2 amount shift cond sys : Int) (flags minus not link : Bool) (w : World) : Calls Tryz.prog 45 #[(⟨32, sub, rd, rn, rm, ra, imm, imm2, amount, shift, cond, sys, flags, minus, not, link⟩ : Ins).val] w fun e w' => e = .returned (.int .u32 (0)) ∧ Below w.heap.size w w' := by
  go_enter Tryz.func45, Tryz.ntmps45
  repeat' (first | with_reducible refine then_exit ?_ | with_reducible refine then_normal ?_ | with_reducible refine inBlock_eq ?_ | with_reducible refine inBlock_ne rfl ?_ | with_reducible refine inBlock_normal ?_ | go_step)
  go_ret
  exact ⟨rfl, by repeat (first | exact Below.refl _ _ | apply below_more)⟩
set_option maxRecDepth 4000 in
set_option maxHeartbeats 4000000 in
theorem writes33 (sub rd rn rm ra imm imm2 amount shift cond sys : Int) (flags minus not link : Bool) (w : World) : Calls Tryz.prog 45 #[(⟨33, sub, rd, rn, rm, ra, imm, imm2, amount, shift, cond, sys, flags, minus, not, link⟩ : Ins).val] w fun e w' => e = .returned (.int .u32 (0)) ∧ Below w.heap.size w w' := by
  go_enter Tryz.func45, Tryz.ntmps45
  repeat' (first | with_reducible refine then_exit ?_ | with_reducible refine then_normal ?_ | with_reducible refine inBlock_eq ?_ | with_reducible refine inBlock_ne rfl ?_ | with_reducible refine inBlock_normal ?_ | go_step)
  go_ret
  exact ⟨rfl, by repeat (first | exact Below.refl _ _ | apply below_more)⟩
set_option maxRecDepth 4000 in
set_option maxHeartbeats 4000000 in
theorem writes34 (sub rd rn rm ra imm imm2 amount shift cond sys : Int) (flags minus not link : Bool) (w : World) : Calls Tryz.prog 45 #[(⟨34, sub, rd, rn, rm, ra, imm, imm2, amount, shift, cond, sys, flags, minus, not, link⟩ : Ins).val] w fun e w' => e = .returned (.int .u32 (0)) ∧ Below w.heap.size w w' := by
  go_enter Tryz.func45, Tryz.ntmps45
  repeat' (first | with_reducible refine then_exit ?_ | with_reducible refine then_normal ?_ | with_reducible refine inBlock_eq ?_ | with_reducible refine inBlock_ne rfl ?_ | with_reducible refine inBlock_normal ?_ | go_step)
  go_ret
  exact ⟨rfl, by repeat (first | exact Below.refl _ _ | apply below_more)⟩
set_option maxRecDepth 4000 in
set_option maxHeartbeats 4000000 in
theorem writes35 (sub rd rn rm ra imm imm2 amount shift cond sys : Int) (flags minus not link : Bool) (w : World) : Calls Tryz.prog 45 #[(⟨35, sub, rd, rn, rm, ra, imm, imm2, amount, shift, cond, sys, flags, minus, not, link⟩ : Ins).val] w fun e w' => e = .returned (.int .u32 (0)) ∧ Below w.heap.size w w' := by
  go_enter Tryz.func45, Tryz.ntmps45
  repeat' (first | with_reducible refine then_exit ?_ | with_reducible refine then_normal ?_ | with_reducible refine inBlock_eq ?_ | with_reducible refine inBlock_ne rfl ?_ | with_reducible refine inBlock_normal ?_ | go_step)
  go_ret
  exact ⟨rfl, by repeat (first | exact Below.refl _ _ | apply below_more)⟩
set_option maxRecDepth 4000 in
set_option maxHeartbeats 4000000 in
theorem writes36 (sub rd rn rm ra imm imm2 amount shift cond sys : Int) (flags minus not link : Bool) (w : World) : Calls Tryz.prog 45 #[(⟨36, sub, rd, rn, rm, ra, imm, imm2, amount, shift, cond, sys, flags, minus, not, link⟩ : Ins).val] w fun e w' => e = .returned (.int .u32 (0)) ∧ Below w.heap.size w w' := by
  go_enter Tryz.func45, Tryz.ntmps45
  repeat' (first | with_reducible refine then_exit ?_ | with_reducible refine then_normal ?_ | with_reducible refine inBlock_eq ?_ | with_reducible refine inBlock_ne rfl ?_ | with_reducible refine inBlock_normal ?_ | go_step)
  go_ret
  exact ⟨rfl, by repeat (first | exact Below.refl _ _ | apply below_more)⟩
set_option maxRecDepth 4000 in
set_option maxHeartbeats 4000000 in
theorem writes37 (sub rd rn rm ra imm imm2 amount shift cond sys : Int) (flags minus not link : Bool) (w : World) : Calls Tryz.prog 45 #[(⟨37, sub, rd, rn, rm, ra, imm, imm2, amount, shift, cond, sys, flags, minus, not, link⟩ : Ins).val] w fun e w' => e = .returned (.int .u32 (0)) ∧ Below w.heap.size w w' := by
  go_enter Tryz.func45, Tryz.ntmps45
  repeat' (first | with_reducible refine then_exit ?_ | with_reducible refine then_normal ?_ | with_reducible refine inBlock_eq ?_ | with_reducible refine inBlock_ne rfl ?_ | with_reducible refine inBlock_normal ?_ | go_step)
  go_ret
  exact ⟨rfl, by repeat (first | exact Below.refl _ _ | apply below_more)⟩

theorem writes_c (i : Ins) (R : rightB i = true) (w : World) : Calls Tryz.prog 45 #[i.val] w fun e w' => e = .returned (.int .u32 (writesV i)) ∧ Below w.heap.size w w' := by
  have hr := inR_of R
  have hm := ops_mem (fits R).o0 (fits R).o1
  obtain ⟨op, sub, rd, rn, rm, ra, imm, imm2, amount, shift, cond, sys, flags, minus, not, link⟩ := i
  simp only [opsL, List.mem_cons, List.not_mem_nil, or_false] at hm
  rcases hm with rfl | rfl | rfl | rfl | rfl | rfl | rfl | rfl | rfl | rfl | rfl | rfl | rfl | rfl | rfl | rfl | rfl | rfl | rfl | rfl | rfl | rfl | rfl | rfl | rfl | rfl | rfl | rfl | rfl | rfl | rfl | rfl | rfl | rfl | rfl | rfl | rfl
  · exact writes1 _ _ _ _ _ _ _ _ _ _ _ _ _ _ _ hr w
  · exact writes2 _ _ _ _ _ _ _ _ _ _ _ _ _ _ _ hr w
  · exact writes3 _ _ _ _ _ _ _ _ _ _ _ _ _ _ _ hr w
  · exact writes4 _ _ _ _ _ _ _ _ _ _ _ _ _ _ _ hr w
  · exact writes5 _ _ _ _ _ _ _ _ _ _ _ _ _ _ _ hr w
  · exact writes6 _ _ _ _ _ _ _ _ _ _ _ _ _ _ _ hr w
  · exact writes7 _ _ _ _ _ _ _ _ _ _ _ _ _ _ _ hr w
  · exact writes8 _ _ _ _ _ _ _ _ _ _ _ _ _ _ _ hr w
  · exact writes9 _ _ _ _ _ _ _ _ _ _ _ _ _ _ _ hr w
  · exact writes10 _ _ _ _ _ _ _ _ _ _ _ _ _ _ _ hr w
  · exact writes11 _ _ _ _ _ _ _ _ _ _ _ _ _ _ _ hr w
  · exact writes12 _ _ _ _ _ _ _ _ _ _ _ _ _ _ _ w
  · exact writes13 _ _ _ _ _ _ _ _ _ _ _ _ _ _ _ w
  · exact writes14 _ _ _ _ _ _ _ _ _ _ _ _ _ _ _ w
  · exact writes15 _ _ _ _ _ _ _ _ _ _ _ _ _ _ _ w
  · exact writes16 _ _ _ _ _ _ _ _ _ _ _ _ _ _ _ w
  · exact writes17 _ _ _ _ _ _ _ _ _ _ _ _ _ _ _ hr w
  · exact writes18 _ _ _ _ _ _ _ _ _ _ _ _ _ _ _ w
  · exact writes19 _ _ _ _ _ _ _ _ _ _ _ _ _ _ _ hr w
  · exact writes20 _ _ _ _ _ _ _ _ _ _ _ _ _ _ _ w
  · exact writes21 _ _ _ _ _ _ _ _ _ _ _ _ _ _ _ hr w
  · exact writes22 _ _ _ _ _ _ _ _ _ _ _ _ _ _ _ w
  · exact writes23 _ _ _ _ _ _ _ _ _ _ _ _ _ _ _ hr w
  · exact writes24 _ _ _ _ _ _ _ _ _ _ _ _ _ _ _ hr w
  · exact writes25 _ _ _ _ _ _ _ _ _ _ _ _ _ _ _ w
  · exact writes26 _ _ _ _ _ _ _ _ _ _ _ _ _ _ _ w
  · exact writes27 _ _ _ _ _ _ _ _ _ _ _ _ _ _ _ w
  · exact writes28 _ _ _ _ _ _ _ _ _ _ _ _ _ _ _ w
  · exact writes29 _ _ _ _ _ _ _ _ _ _ _ _ _ _ _ w
  · exact writes30 _ _ _ _ _ _ _ _ _ _ _ _ _ _ _ w
  · exact writes31 _ _ _ _ _ _ _ _ _ _ _ _ _ _ _ hr w
  · exact writes32 _ _ _ _ _ _ _ _ _ _ _ _ _ _ _ w
  · exact writes33 _ _ _ _ _ _ _ _ _ _ _ _ _ _ _ w
  · exact writes34 _ _ _ _ _ _ _ _ _ _ _ _ _ _ _ w
  · exact writes35 _ _ _ _ _ _ _ _ _ _ _ _ _ _ _ w
  · exact writes36 _ _ _ _ _ _ _ _ _ _ _ _ _ _ _ w
  · exact writes37 _ _ _ _ _ _ _ _ _ _ _ _ _ _ _ w

set_option maxRecDepth 4000 in
set_option maxHeartbeats 2000000 in
theorem Writes_c (i : Ins) (w : World) :
    Calls Tryz.prog 15 #[i.val] w fun e w' => ∃ v, e = .returned v ∧ w'.ownsRow w.heap.size 3 1 v (listL (setOf i (writesV i)) 32).length (listV (setOf i (writesV i)) 32) ∧ Below w.heap.size w w' := by
  have H1 := one_start i w
  cases hR : rightB i
  · have hS : Hid (setOf i (writesV i) = 0) := by show _ = _; simp only [setOf, hR, cond_false]
    go_enter Tryz.func15, Tryz.ntmps15
    go_wp2_with (go_at_call 11; refine (right_c i _).mono ?_; rw [hR]; rintro e w1 ⟨rfl, hb1⟩; replace H1 := H1.grow hb1; clear hb1)
    go_ret
    refine ⟨_, rfl, ?_, H1.below⟩
    rw [hS.out]
    exact World.ownsRow_nil _ _ _ _
  · have hr := inR_of hR
    have hv := r32_writes hr
    have hN : Hid (writesV i = ((setOf i (writesV i) : Nat) : Int)) := by show _ = _; simp only [setOf, hR, cond_true]; have := hv.1; omega
    have hN2 : Hid (setOf i (writesV i) < 4294967296) := by show _ < _; simp only [setOf, hR, cond_true]; have := hv.1; have := hv.2; omega
    generalize setOf i (writesV i) = S at *
    clear hv
    go_enter Tryz.func15, Tryz.ntmps15
    go_wp2_with (go_at_call 11; refine (right_c i _).mono ?_; rw [hR]; rintro e w1 ⟨rfl, hb1⟩; replace H1 := H1.grow hb1; clear hb1; refine Hid.out ?_)
    unfold Hid
    repeat' (first | with_reducible refine then_exit ?_ | with_reducible refine then_normal ?_ | with_reducible refine inBlock_eq ?_ | with_reducible refine inBlock_ne rfl ?_ | with_reducible refine inBlock_normal ?_ | (refine wpList_load_if rfl 23 _ rfl w.heap.size rfl 23 _ (0, 0) _ H1.box Tryz.underlying23 rfl (by kernel_rfl) ?_; simp only [Act.put, List.setIfInBounds_toArray, List.set_cons_succ, List.set_cons_zero]) | (go_at_call 45; refine (writes_c i hR _).mono ?_; rw [hN.out]; rintro e w2 ⟨rfl, hb2⟩; replace H1 := H1.grow hb2; clear hb2; dsimp only) | (go_at_call 43; refine (list_c S hN2.out _).mono ?_; rintro e w3 ⟨v, rfl, hown, hb3⟩; dsimp only) | go_step)
    go_ret
    exact ⟨_, rfl, own_mono hown H1.below.size, below_then H1.below hb3⟩


end Go.Proofs.YtjmdgfimmjodjaaGreatDoor
