/- The parts of what has its number at the end: contracts. -/
import Derived.Test.YtmbefmmnkfoneaaDoorRowsT
namespace Go.Proofs.YtmbefmmnkfoneaaDoor
open Go.RowKit Go.Rel

set_option maxRecDepth 8000 in
set_option maxHeartbeats 8000000 in
theorem last11 (sub rd rn rm ra imm imm2 amount shift cond sys : Int) (flags minus not link : Bool) (HN : Num ⟨11, sub, rd, rn, rm, ra, imm, imm2, amount, shift, cond, sys, flags, minus, not, link⟩) (hr : InR ⟨11, sub, rd, rn, rm, ra, imm, imm2, amount, shift, cond, sys, flags, minus, not, link⟩) (w : World) (T : Tab w) : Calls Tryd.prog 47 #[(⟨11, sub, rd, rn, rm, ra, imm, imm2, amount, shift, cond, sys, flags, minus, not, link⟩ : Ins).val] w fun e w' => ∃ v, e = .returned v ∧ RowT w.heap.size ([regT rd false, numT imm]) v w' ∧ Below w.heap.size w w' := by
  have HW : Below (w.alloc (.cells (⟨11, sub, rd, rn, rm, ra, imm, imm2, amount, shift, cond, sys, flags, minus, not, link⟩ : Ins).cells 23)).heap.size (w.alloc (.cells (⟨11, sub, rd, rn, rm, ra, imm, imm2, amount, shift, cond, sys, flags, minus, not, link⟩ : Ins).cells 23)) (w.alloc (.cells (⟨11, sub, rd, rn, rm, ra, imm, imm2, amount, shift, cond, sys, flags, minus, not, link⟩ : Ins).cells 23)) := Below.refl _ _
  have HS := oneT_start ⟨11, sub, rd, rn, rm, ra, imm, imm2, amount, shift, cond, sys, flags, minus, not, link⟩ w T
  have W0s : w.heap.size ≤ (w.alloc (.cells (⟨11, sub, rd, rn, rm, ra, imm, imm2, amount, shift, cond, sys, flags, minus, not, link⟩ : Ins).cells 23)).heap.size := (below_alloc w _).size
  go_enter Tryd.func47, Tryd.ntmps47
  repeat' (first | with_reducible refine then_exit ?_ | with_reducible refine then_normal ?_ | with_reducible refine inBlock_eq ?_ | with_reducible refine inBlock_ne rfl ?_ | with_reducible refine inBlock_normal ?_ | (go_at_call 37; refine (name_c rd false hr.d0 hr.d1 _ (HS.grow HW).tab).mono ?_; rintro e w' ⟨rfl, hb⟩; dsimp only; replace HW := below_then HW hb; clear hb) | (at_builtin; refine wpList_append_rows (by rfl) _ _ (by rfl) (w.alloc (.cells (⟨11, sub, rd, rn, rm, ra, imm, imm2, amount, shift, cond, sys, flags, minus, not, link⟩ : Ins).cells 23)) [] [regT rd false] (.slice none 0 0) _ (by rfl) (by rfl) (World.ownsRow_nil _ _ _ _) (row_new _ [regT rd false] (by simp) _ HW.size) (below_then HW (below_alloc _ _)) (by simp) ?_; intro v' w2 hv1 hb'; replace HW := hb'; clear hb'; have c0 := (HS.grow HW).one.at 0 _ rfl; have c6 := (HS.grow HW).one.at 6 _ rfl; simp only [Act.put, List.setIfInBounds_toArray, List.set_cons_succ, List.set_cons_zero]) | go_step)
  go_at_call 40
  refine (number_c imm HN.i0 HN.i1 _ (HS.grow HW).tab).mono ?_
  rintro e w3 ⟨rfl, hb⟩
  dsimp only
  replace hv1 := own_grow hv1 hb
  replace HW := below_then HW hb
  clear hb
  repeat' (first | with_reducible refine then_exit ?_ | with_reducible refine then_normal ?_ | with_reducible refine inBlock_eq ?_ | with_reducible refine inBlock_ne rfl ?_ | with_reducible refine inBlock_normal ?_ | (at_builtin; refine wpList_append_rows (by rfl) _ _ (by rfl) (w.alloc (.cells (⟨11, sub, rd, rn, rm, ra, imm, imm2, amount, shift, cond, sys, flags, minus, not, link⟩ : Ins).cells 23)) [regT rd false] [numT imm] _ _ (by rfl) (by rfl) (own_grow hv1 (below_alloc _ _)) (row_new _ [numT imm] (by simp) _ HW.size) (below_then HW (below_alloc _ _)) (by simp) ?_; intro v' w2 hv hb'; replace HW := hb'; clear hb'; simp only [Act.put, List.setIfInBounds_toArray, List.set_cons_succ, List.set_cons_zero]) | go_step)
  go_ret
  exact ⟨_, rfl, own_mono hv W0s, (HS.grow HW).one.below⟩

set_option maxRecDepth 8000 in
set_option maxHeartbeats 8000000 in
theorem last12 (sub rd rn rm ra imm imm2 amount shift cond sys : Int) (flags minus not link : Bool) (HN : Num ⟨12, sub, rd, rn, rm, ra, imm, imm2, amount, shift, cond, sys, flags, minus, not, link⟩) (w : World) (T : Tab w) : Calls Tryd.prog 47 #[(⟨12, sub, rd, rn, rm, ra, imm, imm2, amount, shift, cond, sys, flags, minus, not, link⟩ : Ins).val] w fun e w' => ∃ v, e = .returned v ∧ RowT w.heap.size ([numT imm]) v w' ∧ Below w.heap.size w w' := by
  have HW : Below (w.alloc (.cells (⟨12, sub, rd, rn, rm, ra, imm, imm2, amount, shift, cond, sys, flags, minus, not, link⟩ : Ins).cells 23)).heap.size (w.alloc (.cells (⟨12, sub, rd, rn, rm, ra, imm, imm2, amount, shift, cond, sys, flags, minus, not, link⟩ : Ins).cells 23)) (w.alloc (.cells (⟨12, sub, rd, rn, rm, ra, imm, imm2, amount, shift, cond, sys, flags, minus, not, link⟩ : Ins).cells 23)) := Below.refl _ _
  have HS := oneT_start ⟨12, sub, rd, rn, rm, ra, imm, imm2, amount, shift, cond, sys, flags, minus, not, link⟩ w T
  have W0s : w.heap.size ≤ (w.alloc (.cells (⟨12, sub, rd, rn, rm, ra, imm, imm2, amount, shift, cond, sys, flags, minus, not, link⟩ : Ins).cells 23)).heap.size := (below_alloc w _).size
  go_enter Tryd.func47, Tryd.ntmps47
  repeat' (first | with_reducible refine then_exit ?_ | with_reducible refine then_normal ?_ | with_reducible refine inBlock_eq ?_ | with_reducible refine inBlock_ne rfl ?_ | with_reducible refine inBlock_normal ?_ | (go_at_call 40; refine (number_c imm HN.i0 HN.i1 _ (HS.grow HW).tab).mono ?_; rintro e w' ⟨rfl, hb⟩; dsimp only; replace HW := below_then HW hb; clear hb) | (at_builtin; refine wpList_append_rows (by rfl) _ _ (by rfl) (w.alloc (.cells (⟨12, sub, rd, rn, rm, ra, imm, imm2, amount, shift, cond, sys, flags, minus, not, link⟩ : Ins).cells 23)) [] [numT imm] (.slice none 0 0) _ (by rfl) (by rfl) (World.ownsRow_nil _ _ _ _) (row_new _ [numT imm] (by simp) _ HW.size) (below_then HW (below_alloc _ _)) (by simp) ?_; intro v' w2 hv hb'; replace HW := hb'; clear hb'; simp only [Act.put, List.setIfInBounds_toArray, List.set_cons_succ, List.set_cons_zero]) | go_step)
  go_ret
  exact ⟨_, rfl, own_mono hv W0s, (HS.grow HW).one.below⟩

set_option maxRecDepth 8000 in
set_option maxHeartbeats 8000000 in
theorem last13 (sub rd rn rm ra imm imm2 amount shift cond sys : Int) (flags minus not link : Bool) (HN : Num ⟨13, sub, rd, rn, rm, ra, imm, imm2, amount, shift, cond, sys, flags, minus, not, link⟩) (w : World) (T : Tab w) : Calls Tryd.prog 47 #[(⟨13, sub, rd, rn, rm, ra, imm, imm2, amount, shift, cond, sys, flags, minus, not, link⟩ : Ins).val] w fun e w' => ∃ v, e = .returned v ∧ RowT w.heap.size ([numT imm]) v w' ∧ Below w.heap.size w w' := by
  have HW : Below (w.alloc (.cells (⟨13, sub, rd, rn, rm, ra, imm, imm2, amount, shift, cond, sys, flags, minus, not, link⟩ : Ins).cells 23)).heap.size (w.alloc (.cells (⟨13, sub, rd, rn, rm, ra, imm, imm2, amount, shift, cond, sys, flags, minus, not, link⟩ : Ins).cells 23)) (w.alloc (.cells (⟨13, sub, rd, rn, rm, ra, imm, imm2, amount, shift, cond, sys, flags, minus, not, link⟩ : Ins).cells 23)) := Below.refl _ _
  have HS := oneT_start ⟨13, sub, rd, rn, rm, ra, imm, imm2, amount, shift, cond, sys, flags, minus, not, link⟩ w T
  have W0s : w.heap.size ≤ (w.alloc (.cells (⟨13, sub, rd, rn, rm, ra, imm, imm2, amount, shift, cond, sys, flags, minus, not, link⟩ : Ins).cells 23)).heap.size := (below_alloc w _).size
  go_enter Tryd.func47, Tryd.ntmps47
  repeat' (first | with_reducible refine then_exit ?_ | with_reducible refine then_normal ?_ | with_reducible refine inBlock_eq ?_ | with_reducible refine inBlock_ne rfl ?_ | with_reducible refine inBlock_normal ?_ | (go_at_call 40; refine (number_c imm HN.i0 HN.i1 _ (HS.grow HW).tab).mono ?_; rintro e w' ⟨rfl, hb⟩; dsimp only; replace HW := below_then HW hb; clear hb) | (at_builtin; refine wpList_append_rows (by rfl) _ _ (by rfl) (w.alloc (.cells (⟨13, sub, rd, rn, rm, ra, imm, imm2, amount, shift, cond, sys, flags, minus, not, link⟩ : Ins).cells 23)) [] [numT imm] (.slice none 0 0) _ (by rfl) (by rfl) (World.ownsRow_nil _ _ _ _) (row_new _ [numT imm] (by simp) _ HW.size) (below_then HW (below_alloc _ _)) (by simp) ?_; intro v' w2 hv hb'; replace HW := hb'; clear hb'; simp only [Act.put, List.setIfInBounds_toArray, List.set_cons_succ, List.set_cons_zero]) | go_step)
  go_ret
  exact ⟨_, rfl, own_mono hv W0s, (HS.grow HW).one.below⟩

set_option maxRecDepth 8000 in
set_option maxHeartbeats 8000000 in
theorem last14 (sub rd rn rm ra imm imm2 amount shift cond sys : Int) (flags minus not link : Bool) (HN : Num ⟨14, sub, rd, rn, rm, ra, imm, imm2, amount, shift, cond, sys, flags, minus, not, link⟩) (hr : InR ⟨14, sub, rd, rn, rm, ra, imm, imm2, amount, shift, cond, sys, flags, minus, not, link⟩) (w : World) (T : Tab w) : Calls Tryd.prog 47 #[(⟨14, sub, rd, rn, rm, ra, imm, imm2, amount, shift, cond, sys, flags, minus, not, link⟩ : Ins).val] w fun e w' => ∃ v, e = .returned v ∧ RowT w.heap.size ([regT rd false, numT imm]) v w' ∧ Below w.heap.size w w' := by
  have HW : Below (w.alloc (.cells (⟨14, sub, rd, rn, rm, ra, imm, imm2, amount, shift, cond, sys, flags, minus, not, link⟩ : Ins).cells 23)).heap.size (w.alloc (.cells (⟨14, sub, rd, rn, rm, ra, imm, imm2, amount, shift, cond, sys, flags, minus, not, link⟩ : Ins).cells 23)) (w.alloc (.cells (⟨14, sub, rd, rn, rm, ra, imm, imm2, amount, shift, cond, sys, flags, minus, not, link⟩ : Ins).cells 23)) := Below.refl _ _
  have HS := oneT_start ⟨14, sub, rd, rn, rm, ra, imm, imm2, amount, shift, cond, sys, flags, minus, not, link⟩ w T
  have W0s : w.heap.size ≤ (w.alloc (.cells (⟨14, sub, rd, rn, rm, ra, imm, imm2, amount, shift, cond, sys, flags, minus, not, link⟩ : Ins).cells 23)).heap.size := (below_alloc w _).size
  go_enter Tryd.func47, Tryd.ntmps47
  repeat' (first | with_reducible refine then_exit ?_ | with_reducible refine then_normal ?_ | with_reducible refine inBlock_eq ?_ | with_reducible refine inBlock_ne rfl ?_ | with_reducible refine inBlock_normal ?_ | (go_at_call 37; refine (name_c rd false hr.d0 hr.d1 _ (HS.grow HW).tab).mono ?_; rintro e w' ⟨rfl, hb⟩; dsimp only; replace HW := below_then HW hb; clear hb) | (at_builtin; refine wpList_append_rows (by rfl) _ _ (by rfl) (w.alloc (.cells (⟨14, sub, rd, rn, rm, ra, imm, imm2, amount, shift, cond, sys, flags, minus, not, link⟩ : Ins).cells 23)) [] [regT rd false] (.slice none 0 0) _ (by rfl) (by rfl) (World.ownsRow_nil _ _ _ _) (row_new _ [regT rd false] (by simp) _ HW.size) (below_then HW (below_alloc _ _)) (by simp) ?_; intro v' w2 hv1 hb'; replace HW := hb'; clear hb'; have c0 := (HS.grow HW).one.at 0 _ rfl; have c6 := (HS.grow HW).one.at 6 _ rfl; simp only [Act.put, List.setIfInBounds_toArray, List.set_cons_succ, List.set_cons_zero]) | go_step)
  go_at_call 40
  refine (number_c imm HN.i0 HN.i1 _ (HS.grow HW).tab).mono ?_
  rintro e w3 ⟨rfl, hb⟩
  dsimp only
  replace hv1 := own_grow hv1 hb
  replace HW := below_then HW hb
  clear hb
  repeat' (first | with_reducible refine then_exit ?_ | with_reducible refine then_normal ?_ | with_reducible refine inBlock_eq ?_ | with_reducible refine inBlock_ne rfl ?_ | with_reducible refine inBlock_normal ?_ | (at_builtin; refine wpList_append_rows (by rfl) _ _ (by rfl) (w.alloc (.cells (⟨14, sub, rd, rn, rm, ra, imm, imm2, amount, shift, cond, sys, flags, minus, not, link⟩ : Ins).cells 23)) [regT rd false] [numT imm] _ _ (by rfl) (by rfl) (own_grow hv1 (below_alloc _ _)) (row_new _ [numT imm] (by simp) _ HW.size) (below_then HW (below_alloc _ _)) (by simp) ?_; intro v' w2 hv hb'; replace HW := hb'; clear hb'; simp only [Act.put, List.setIfInBounds_toArray, List.set_cons_succ, List.set_cons_zero]) | go_step)
  go_ret
  exact ⟨_, rfl, own_mono hv W0s, (HS.grow HW).one.below⟩

set_option maxRecDepth 8000 in
set_option maxHeartbeats 8000000 in
theorem last15 (sub rd rn rm ra imm imm2 amount shift cond sys : Int) (flags minus not link : Bool) (HN : Num ⟨15, sub, rd, rn, rm, ra, imm, imm2, amount, shift, cond, sys, flags, minus, not, link⟩) (hr : InR ⟨15, sub, rd, rn, rm, ra, imm, imm2, amount, shift, cond, sys, flags, minus, not, link⟩) (w : World) (T : Tab w) : Calls Tryd.prog 47 #[(⟨15, sub, rd, rn, rm, ra, imm, imm2, amount, shift, cond, sys, flags, minus, not, link⟩ : Ins).val] w fun e w' => ∃ v, e = .returned v ∧ RowT w.heap.size ([regT rd false, numT amount, numT imm]) v w' ∧ Below w.heap.size w w' := by
  have HW : Below (w.alloc (.cells (⟨15, sub, rd, rn, rm, ra, imm, imm2, amount, shift, cond, sys, flags, minus, not, link⟩ : Ins).cells 23)).heap.size (w.alloc (.cells (⟨15, sub, rd, rn, rm, ra, imm, imm2, amount, shift, cond, sys, flags, minus, not, link⟩ : Ins).cells 23)) (w.alloc (.cells (⟨15, sub, rd, rn, rm, ra, imm, imm2, amount, shift, cond, sys, flags, minus, not, link⟩ : Ins).cells 23)) := Below.refl _ _
  have HS := oneT_start ⟨15, sub, rd, rn, rm, ra, imm, imm2, amount, shift, cond, sys, flags, minus, not, link⟩ w T
  have W0s : w.heap.size ≤ (w.alloc (.cells (⟨15, sub, rd, rn, rm, ra, imm, imm2, amount, shift, cond, sys, flags, minus, not, link⟩ : Ins).cells 23)).heap.size := (below_alloc w _).size
  go_enter Tryd.func47, Tryd.ntmps47
  repeat' (first | with_reducible refine then_exit ?_ | with_reducible refine then_normal ?_ | with_reducible refine inBlock_eq ?_ | with_reducible refine inBlock_ne rfl ?_ | with_reducible refine inBlock_normal ?_ | (go_at_call 37; refine (name_c rd false hr.d0 hr.d1 _ (HS.grow HW).tab).mono ?_; rintro e w' ⟨rfl, hb⟩; dsimp only; replace HW := below_then HW hb; clear hb) | (at_builtin; refine wpList_append_rows (by rfl) _ _ (by rfl) (w.alloc (.cells (⟨15, sub, rd, rn, rm, ra, imm, imm2, amount, shift, cond, sys, flags, minus, not, link⟩ : Ins).cells 23)) [] [regT rd false] (.slice none 0 0) _ (by rfl) (by rfl) (World.ownsRow_nil _ _ _ _) (row_new _ [regT rd false] (by simp) _ HW.size) (below_then HW (below_alloc _ _)) (by simp) ?_; intro v' w2 hv1 hb'; replace HW := hb'; clear hb'; have c0 := (HS.grow HW).one.at 0 _ rfl; have c8 := (HS.grow HW).one.at 8 _ rfl; simp only [Act.put, List.setIfInBounds_toArray, List.set_cons_succ, List.set_cons_zero]) | go_step)
  go_at_call 40
  refine (number_c amount HN.k0 HN.k1 _ (HS.grow HW).tab).mono ?_
  rintro e w3 ⟨rfl, hb⟩
  dsimp only
  replace hv1 := own_grow hv1 hb
  replace HW := below_then HW hb
  clear hb
  repeat' (first | with_reducible refine then_exit ?_ | with_reducible refine then_normal ?_ | with_reducible refine inBlock_eq ?_ | with_reducible refine inBlock_ne rfl ?_ | with_reducible refine inBlock_normal ?_ | (at_builtin; refine wpList_append_rows (by rfl) _ _ (by rfl) (w.alloc (.cells (⟨15, sub, rd, rn, rm, ra, imm, imm2, amount, shift, cond, sys, flags, minus, not, link⟩ : Ins).cells 23)) [regT rd false] [numT amount] _ _ (by rfl) (by rfl) (own_grow hv1 (below_alloc _ _)) (row_new _ [numT amount] (by simp) _ HW.size) (below_then HW (below_alloc _ _)) (by simp) ?_; intro v' w2 hv2 hb'; replace HW := hb'; clear hb'; have c6 := (HS.grow HW).one.at 6 _ rfl; simp only [Act.put, List.setIfInBounds_toArray, List.set_cons_succ, List.set_cons_zero]) | go_step)
  go_at_call 40
  refine (number_c imm HN.i0 HN.i1 _ (HS.grow HW).tab).mono ?_
  rintro e w4 ⟨rfl, hb⟩
  dsimp only
  replace hv2 := own_grow hv2 hb
  replace HW := below_then HW hb
  clear hb
  repeat' (first | with_reducible refine then_exit ?_ | with_reducible refine then_normal ?_ | with_reducible refine inBlock_eq ?_ | with_reducible refine inBlock_ne rfl ?_ | with_reducible refine inBlock_normal ?_ | (at_builtin; refine wpList_append_rows (by rfl) _ _ (by rfl) (w.alloc (.cells (⟨15, sub, rd, rn, rm, ra, imm, imm2, amount, shift, cond, sys, flags, minus, not, link⟩ : Ins).cells 23)) ([regT rd false] ++ [numT amount]) [numT imm] _ _ (by rfl) (by rfl) (own_grow hv2 (below_alloc _ _)) (row_new _ [numT imm] (by simp) _ HW.size) (below_then HW (below_alloc _ _)) (by simp) ?_; intro v' w2 hv hb'; replace HW := hb'; clear hb'; simp only [Act.put, List.setIfInBounds_toArray, List.set_cons_succ, List.set_cons_zero]) | go_step)
  go_ret
  exact ⟨_, rfl, own_mono hv W0s, (HS.grow HW).one.below⟩

set_option maxRecDepth 8000 in
set_option maxHeartbeats 8000000 in
theorem last25 (sub rd rn rm ra imm imm2 amount shift cond sys : Int) (flags minus not link : Bool) (w : World) : Calls Tryd.prog 47 #[(⟨25, sub, rd, rn, rm, ra, imm, imm2, amount, shift, cond, sys, flags, minus, not, link⟩ : Ins).val] w fun e w' => ∃ v, e = .returned v ∧ RowT w.heap.size (([] : List Tx)) v w' ∧ Below w.heap.size w w' := by
  go_enter Tryd.func47, Tryd.ntmps47
  repeat' (first | with_reducible refine then_exit ?_ | with_reducible refine then_normal ?_ | with_reducible refine inBlock_eq ?_ | with_reducible refine inBlock_ne rfl ?_ | with_reducible refine inBlock_normal ?_ | go_step)
  go_ret
  exact ⟨_, rfl, World.ownsRow_nil _ _ _ _, below_alloc _ _⟩

set_option maxRecDepth 8000 in
set_option maxHeartbeats 8000000 in
theorem last27 (sub rd rn rm ra imm imm2 amount shift cond sys : Int) (flags minus not link : Bool) (w : World) : Calls Tryd.prog 47 #[(⟨27, sub, rd, rn, rm, ra, imm, imm2, amount, shift, cond, sys, flags, minus, not, link⟩ : Ins).val] w fun e w' => ∃ v, e = .returned v ∧ RowT w.heap.size (([] : List Tx)) v w' ∧ Below w.heap.size w w' := by
  go_enter Tryd.func47, Tryd.ntmps47
  repeat' (first | with_reducible refine then_exit ?_ | with_reducible refine then_normal ?_ | with_reducible refine inBlock_eq ?_ | with_reducible refine inBlock_ne rfl ?_ | with_reducible refine inBlock_normal ?_ | go_step)
  go_ret
  exact ⟨_, rfl, World.ownsRow_nil _ _ _ _, below_alloc _ _⟩

set_option maxRecDepth 8000 in
set_option maxHeartbeats 8000000 in
theorem last29 (sub rd rn rm ra imm imm2 amount shift cond sys : Int) (flags minus not link : Bool) (w : World) : Calls Tryd.prog 47 #[(⟨29, sub, rd, rn, rm, ra, imm, imm2, amount, shift, cond, sys, flags, minus, not, link⟩ : Ins).val] w fun e w' => ∃ v, e = .returned v ∧ RowT w.heap.size (([] : List Tx)) v w' ∧ Below w.heap.size w w' := by
  go_enter Tryd.func47, Tryd.ntmps47
  repeat' (first | with_reducible refine then_exit ?_ | with_reducible refine then_normal ?_ | with_reducible refine inBlock_eq ?_ | with_reducible refine inBlock_ne rfl ?_ | with_reducible refine inBlock_normal ?_ | go_step)
  go_ret
  exact ⟨_, rfl, World.ownsRow_nil _ _ _ _, below_alloc _ _⟩

set_option maxRecDepth 8000 in
set_option maxHeartbeats 8000000 in
theorem last33 (sub rd rn rm ra imm imm2 amount shift cond sys : Int) (flags minus not link : Bool) (HN : Num ⟨33, sub, rd, rn, rm, ra, imm, imm2, amount, shift, cond, sys, flags, minus, not, link⟩) (s0 : 0 ≤ sub) (s1 : sub ≤ 1) (w : World) (T : Tab w) : Calls Tryd.prog 47 #[(⟨33, sub, rd, rn, rm, ra, imm, imm2, amount, shift, cond, sys, flags, minus, not, link⟩ : Ins).val] w fun e w' => ∃ v, e = .returned v ∧ RowT w.heap.size ([daifT sub, numT imm]) v w' ∧ Below w.heap.size w w' := by
  have hs : sub = 0 ∨ sub = 1 := by omega
  clear s0 s1
  have hD : Hid (([[100, 97, 105, 102, 115, 101, 116], [100, 97, 105, 102, 99, 108, 114]] : List Tx)[sub.toNat]? = some (daifT sub)) := by rcases hs with rfl | rfl <;> rfl
  have S0 : Hid (0 ≤ sub) := by show _ ≤ _; omega
  have S1 : Hid (sub < 2) := by show _ < _; omega
  clear hs
  have HW : Below (w.alloc (.cells (⟨33, sub, rd, rn, rm, ra, imm, imm2, amount, shift, cond, sys, flags, minus, not, link⟩ : Ins).cells 23)).heap.size (w.alloc (.cells (⟨33, sub, rd, rn, rm, ra, imm, imm2, amount, shift, cond, sys, flags, minus, not, link⟩ : Ins).cells 23)) (w.alloc (.cells (⟨33, sub, rd, rn, rm, ra, imm, imm2, amount, shift, cond, sys, flags, minus, not, link⟩ : Ins).cells 23)) := Below.refl _ _
  have HS := oneT_start ⟨33, sub, rd, rn, rm, ra, imm, imm2, amount, shift, cond, sys, flags, minus, not, link⟩ w T
  have W0s : w.heap.size ≤ (w.alloc (.cells (⟨33, sub, rd, rn, rm, ra, imm, imm2, amount, shift, cond, sys, flags, minus, not, link⟩ : Ins).cells 23)).heap.size := (below_alloc w _).size
  go_enter Tryd.func47, Tryd.ntmps47
  repeat' (first | with_reducible refine then_exit ?_ | with_reducible refine then_normal ?_ | with_reducible refine inBlock_eq ?_ | with_reducible refine inBlock_ne rfl ?_ | with_reducible refine inBlock_normal ?_ | go_step)
  refine wp_region_tail 9 Grows (fun x => Below (w.alloc (.cells (⟨33, sub, rd, rn, rm, ra, imm, imm2, amount, shift, cond, sys, flags, minus, not, link⟩ : Ins).cells 23)).heap.size (w.alloc (.cells (⟨33, sub, rd, rn, rm, ra, imm, imm2, amount, shift, cond, sys, flags, minus, not, link⟩ : Ins).cells 23)) x) [.inl (.slice none 0 0), .inl (.pointer (some ⟨w.heap.size, 1, none⟩)), .inl (vI sub), .inr (RowT 0 [[100, 97, 105, 102, 115, 101, 116], [100, 97, 105, 102, 99, 108, 114]]), .inl (strV (daifT sub)), .inl (.pointer (some ⟨w.heap.size, 6, none⟩)), .inl (vI imm), .inl (strV (numT imm)), .inr (RowT (w.alloc (.cells (⟨33, sub, rd, rn, rm, ra, imm, imm2, amount, shift, cond, sys, flags, minus, not, link⟩ : Ins).cells 23)).heap.size [daifT sub, numT imm])] (by kernel_rfl) (by kernel_rfl) (up_below _) (below_drawn _) (by simp only [List.mem_cons, List.not_mem_nil, or_false]; rintro k hk; rcases hk with rfl | rfl | rfl | rfl | rfl | rfl | rfl | rfl | rfl <;> first | trivial | exact fun v => row_up _ _ v) ?_
  refine ⟨fun w1 hC _ => by go_simp; exact Below.refl _ _, ?_⟩
  simp only [Act.put, List.setIfInBounds_toArray, List.set_cons_succ, List.set_cons_zero]
  refine ⟨fun w1 hC _ => by go_simp; exact Below.refl _ _, ?_⟩
  simp only [Act.put, List.setIfInBounds_toArray, List.set_cons_succ, List.set_cons_zero]
  refine ⟨fun w1 hC _ => by have hq := (HS.grow hC).one.at 1 _ rfl; go_simp; exact Below.refl _ _, ?_⟩
  simp only [Act.put, List.setIfInBounds_toArray, List.set_cons_succ, List.set_cons_zero]
  refine ⟨fun w1 hC _ => ?_, fun v1 => ?_⟩
  · go_simp
    exact ⟨below_alloc _ _, row_new w1 [[100, 97, 105, 102, 115, 101, 116], [100, 97, 105, 102, 99, 108, 114]] (by simp) _ (Nat.zero_le _)⟩
  simp only [Act.put, List.setIfInBounds_toArray, List.set_cons_succ, List.set_cons_zero]
  refine ⟨fun w1 hC hF => ?_, ?_⟩
  · have hv := (hF 3 (by kernel_rfl)).1 rfl
    rcases hv.2 with ⟨-, h0⟩ | ⟨g, cap, cur, hq, -⟩
    · exact absurd h0 (by decide)
    · subst hq
      have hcell := World.ownsRow.cells hv (g := g) rfl sub.toNat (strV (daifT sub)) (by rw [List.getElem?_map, hD.out]; rfl)
      rw [Lib.add_plain] at hcell
      clear hv hF
      go_simp
      refine (one_c sub 2 cap g 0 _ w1 S0.out S1.out hcell).mono ?_
      rintro e w2 ⟨rfl, rfl⟩
      exact ⟨rfl, Below.refl _ _⟩
  simp only [Act.put, List.setIfInBounds_toArray, List.set_cons_succ, List.set_cons_zero]
  refine ⟨fun w1 hC _ => by go_simp; exact Below.refl _ _, ?_⟩
  simp only [Act.put, List.setIfInBounds_toArray, List.set_cons_succ, List.set_cons_zero]
  refine ⟨fun w1 hC _ => by have hq := (HS.grow hC).one.at 6 _ rfl; go_simp; exact Below.refl _ _, ?_⟩
  simp only [Act.put, List.setIfInBounds_toArray, List.set_cons_succ, List.set_cons_zero]
  refine ⟨fun w1 hC _ => ?_, ?_⟩
  · go_simp
    refine (number_c imm HN.i0 HN.i1 w1 (HS.grow hC).tab).mono ?_
    rintro e w2 ⟨rfl, hb⟩
    exact ⟨rfl, hb⟩
  simp only [Act.put, List.setIfInBounds_toArray, List.set_cons_succ, List.set_cons_zero]
  refine ⟨fun w1 hC _ => ?_, fun v2 => ?_⟩
  · go_simp
    exact ⟨below_alloc _ _, row_new w1 [daifT sub, numT imm] (by simp) _ (by have := hC.size; simpa using this)⟩
  simp only [Act.put, List.setIfInBounds_toArray, List.set_cons_succ, List.set_cons_zero]
  clear HW
  intro w1 HW hF
  have hrow2 := (hF 8).1 rfl
  simp only [List.drop_succ_cons, List.drop_zero]
  refine wpList_append_rows rfl _ _ rfl (w.alloc (.cells (⟨33, sub, rd, rn, rm, ra, imm, imm2, amount, shift, cond, sys, flags, minus, not, link⟩ : Ins).cells 23)) [] [daifT sub, numT imm] _ _ rfl rfl (World.ownsRow_nil _ _ _ _) hrow2 HW (by simp) ?_
  intro v' w2 hv' hb'
  simp only [Act.put, List.setIfInBounds_toArray, List.set_cons_succ, List.set_cons_zero]
  repeat' (first | with_reducible refine then_exit ?_ | with_reducible refine then_normal ?_ | with_reducible refine inBlock_eq ?_ | with_reducible refine inBlock_ne rfl ?_ | with_reducible refine inBlock_normal ?_ | go_step)
  go_ret
  exact ⟨_, rfl, own_mono hv' W0s, (HS.grow hb').one.below⟩

set_option maxRecDepth 8000 in
set_option maxHeartbeats 8000000 in
theorem last34 (sub rd rn rm ra imm imm2 amount shift cond sys : Int) (flags minus not link : Bool) (HN : Num ⟨34, sub, rd, rn, rm, ra, imm, imm2, amount, shift, cond, sys, flags, minus, not, link⟩) (w : World) (T : Tab w) : Calls Tryd.prog 47 #[(⟨34, sub, rd, rn, rm, ra, imm, imm2, amount, shift, cond, sys, flags, minus, not, link⟩ : Ins).val] w fun e w' => ∃ v, e = .returned v ∧ RowT w.heap.size ([numT imm]) v w' ∧ Below w.heap.size w w' := by
  have HW : Below (w.alloc (.cells (⟨34, sub, rd, rn, rm, ra, imm, imm2, amount, shift, cond, sys, flags, minus, not, link⟩ : Ins).cells 23)).heap.size (w.alloc (.cells (⟨34, sub, rd, rn, rm, ra, imm, imm2, amount, shift, cond, sys, flags, minus, not, link⟩ : Ins).cells 23)) (w.alloc (.cells (⟨34, sub, rd, rn, rm, ra, imm, imm2, amount, shift, cond, sys, flags, minus, not, link⟩ : Ins).cells 23)) := Below.refl _ _
  have HS := oneT_start ⟨34, sub, rd, rn, rm, ra, imm, imm2, amount, shift, cond, sys, flags, minus, not, link⟩ w T
  have W0s : w.heap.size ≤ (w.alloc (.cells (⟨34, sub, rd, rn, rm, ra, imm, imm2, amount, shift, cond, sys, flags, minus, not, link⟩ : Ins).cells 23)).heap.size := (below_alloc w _).size
  go_enter Tryd.func47, Tryd.ntmps47
  repeat' (first | with_reducible refine then_exit ?_ | with_reducible refine then_normal ?_ | with_reducible refine inBlock_eq ?_ | with_reducible refine inBlock_ne rfl ?_ | with_reducible refine inBlock_normal ?_ | (go_at_call 40; refine (number_c imm HN.i0 HN.i1 _ (HS.grow HW).tab).mono ?_; rintro e w' ⟨rfl, hb⟩; dsimp only; replace HW := below_then HW hb; clear hb) | (at_builtin; refine wpList_append_rows (by rfl) _ _ (by rfl) (w.alloc (.cells (⟨34, sub, rd, rn, rm, ra, imm, imm2, amount, shift, cond, sys, flags, minus, not, link⟩ : Ins).cells 23)) [] [numT imm] (.slice none 0 0) _ (by rfl) (by rfl) (World.ownsRow_nil _ _ _ _) (row_new _ [numT imm] (by simp) _ HW.size) (below_then HW (below_alloc _ _)) (by simp) ?_; intro v' w2 hv hb'; replace HW := hb'; clear hb'; simp only [Act.put, List.setIfInBounds_toArray, List.set_cons_succ, List.set_cons_zero]) | go_step)
  go_ret
  exact ⟨_, rfl, own_mono hv W0s, (HS.grow HW).one.below⟩

set_option maxRecDepth 8000 in
set_option maxHeartbeats 8000000 in
theorem last35 (sub rd rn rm ra imm imm2 amount shift cond sys : Int) (flags minus not link : Bool) (HN : Num ⟨35, sub, rd, rn, rm, ra, imm, imm2, amount, shift, cond, sys, flags, minus, not, link⟩) (w : World) (T : Tab w) : Calls Tryd.prog 47 #[(⟨35, sub, rd, rn, rm, ra, imm, imm2, amount, shift, cond, sys, flags, minus, not, link⟩ : Ins).val] w fun e w' => ∃ v, e = .returned v ∧ RowT w.heap.size ([numT imm]) v w' ∧ Below w.heap.size w w' := by
  have HW : Below (w.alloc (.cells (⟨35, sub, rd, rn, rm, ra, imm, imm2, amount, shift, cond, sys, flags, minus, not, link⟩ : Ins).cells 23)).heap.size (w.alloc (.cells (⟨35, sub, rd, rn, rm, ra, imm, imm2, amount, shift, cond, sys, flags, minus, not, link⟩ : Ins).cells 23)) (w.alloc (.cells (⟨35, sub, rd, rn, rm, ra, imm, imm2, amount, shift, cond, sys, flags, minus, not, link⟩ : Ins).cells 23)) := Below.refl _ _
  have HS := oneT_start ⟨35, sub, rd, rn, rm, ra, imm, imm2, amount, shift, cond, sys, flags, minus, not, link⟩ w T
  have W0s : w.heap.size ≤ (w.alloc (.cells (⟨35, sub, rd, rn, rm, ra, imm, imm2, amount, shift, cond, sys, flags, minus, not, link⟩ : Ins).cells 23)).heap.size := (below_alloc w _).size
  go_enter Tryd.func47, Tryd.ntmps47
  repeat' (first | with_reducible refine then_exit ?_ | with_reducible refine then_normal ?_ | with_reducible refine inBlock_eq ?_ | with_reducible refine inBlock_ne rfl ?_ | with_reducible refine inBlock_normal ?_ | (go_at_call 40; refine (number_c imm HN.i0 HN.i1 _ (HS.grow HW).tab).mono ?_; rintro e w' ⟨rfl, hb⟩; dsimp only; replace HW := below_then HW hb; clear hb) | (at_builtin; refine wpList_append_rows (by rfl) _ _ (by rfl) (w.alloc (.cells (⟨35, sub, rd, rn, rm, ra, imm, imm2, amount, shift, cond, sys, flags, minus, not, link⟩ : Ins).cells 23)) [] [numT imm] (.slice none 0 0) _ (by rfl) (by rfl) (World.ownsRow_nil _ _ _ _) (row_new _ [numT imm] (by simp) _ HW.size) (below_then HW (below_alloc _ _)) (by simp) ?_; intro v' w2 hv hb'; replace HW := hb'; clear hb'; simp only [Act.put, List.setIfInBounds_toArray, List.set_cons_succ, List.set_cons_zero]) | go_step)
  go_ret
  exact ⟨_, rfl, own_mono hv W0s, (HS.grow HW).one.below⟩

set_option maxRecDepth 8000 in
set_option maxHeartbeats 8000000 in
theorem last36 (sub rd rn rm ra imm imm2 amount shift cond sys : Int) (flags minus not link : Bool) (w : World) : Calls Tryd.prog 47 #[(⟨36, sub, rd, rn, rm, ra, imm, imm2, amount, shift, cond, sys, flags, minus, not, link⟩ : Ins).val] w fun e w' => ∃ v, e = .returned v ∧ RowT w.heap.size (([] : List Tx)) v w' ∧ Below w.heap.size w w' := by
  go_enter Tryd.func47, Tryd.ntmps47
  repeat' (first | with_reducible refine then_exit ?_ | with_reducible refine then_normal ?_ | with_reducible refine inBlock_eq ?_ | with_reducible refine inBlock_ne rfl ?_ | with_reducible refine inBlock_normal ?_ | go_step)
  go_ret
  exact ⟨_, rfl, World.ownsRow_nil _ _ _ _, below_alloc _ _⟩

set_option maxRecDepth 8000 in
set_option maxHeartbeats 8000000 in
theorem last37 (sub rd rn rm ra imm imm2 amount shift cond sys : Int) (flags minus not link : Bool) (HN : Num ⟨37, sub, rd, rn, rm, ra, imm, imm2, amount, shift, cond, sys, flags, minus, not, link⟩) (w : World) (T : Tab w) : Calls Tryd.prog 47 #[(⟨37, sub, rd, rn, rm, ra, imm, imm2, amount, shift, cond, sys, flags, minus, not, link⟩ : Ins).val] w fun e w' => ∃ v, e = .returned v ∧ RowT w.heap.size ([numT imm]) v w' ∧ Below w.heap.size w w' := by
  have HW : Below (w.alloc (.cells (⟨37, sub, rd, rn, rm, ra, imm, imm2, amount, shift, cond, sys, flags, minus, not, link⟩ : Ins).cells 23)).heap.size (w.alloc (.cells (⟨37, sub, rd, rn, rm, ra, imm, imm2, amount, shift, cond, sys, flags, minus, not, link⟩ : Ins).cells 23)) (w.alloc (.cells (⟨37, sub, rd, rn, rm, ra, imm, imm2, amount, shift, cond, sys, flags, minus, not, link⟩ : Ins).cells 23)) := Below.refl _ _
  have HS := oneT_start ⟨37, sub, rd, rn, rm, ra, imm, imm2, amount, shift, cond, sys, flags, minus, not, link⟩ w T
  have W0s : w.heap.size ≤ (w.alloc (.cells (⟨37, sub, rd, rn, rm, ra, imm, imm2, amount, shift, cond, sys, flags, minus, not, link⟩ : Ins).cells 23)).heap.size := (below_alloc w _).size
  go_enter Tryd.func47, Tryd.ntmps47
  repeat' (first | with_reducible refine then_exit ?_ | with_reducible refine then_normal ?_ | with_reducible refine inBlock_eq ?_ | with_reducible refine inBlock_ne rfl ?_ | with_reducible refine inBlock_normal ?_ | (go_at_call 40; refine (number_c imm HN.i0 HN.i1 _ (HS.grow HW).tab).mono ?_; rintro e w' ⟨rfl, hb⟩; dsimp only; replace HW := below_then HW hb; clear hb) | (at_builtin; refine wpList_append_rows (by rfl) _ _ (by rfl) (w.alloc (.cells (⟨37, sub, rd, rn, rm, ra, imm, imm2, amount, shift, cond, sys, flags, minus, not, link⟩ : Ins).cells 23)) [] [numT imm] (.slice none 0 0) _ (by rfl) (by rfl) (World.ownsRow_nil _ _ _ _) (row_new _ [numT imm] (by simp) _ HW.size) (below_then HW (below_alloc _ _)) (by simp) ?_; intro v' w2 hv hb'; replace HW := hb'; clear hb'; simp only [Act.put, List.setIfInBounds_toArray, List.set_cons_succ, List.set_cons_zero]) | go_step)
  go_ret
  exact ⟨_, rfl, own_mono hv W0s, (HS.grow HW).one.below⟩
end Go.Proofs.YtmbefmmnkfoneaaDoor
