/- The parts of eight more Ops: contracts. -/
import Derived.Test.YtmbefmmnkfoneaaDoorRowsT
namespace Go.Proofs.YtmbefmmnkfoneaaDoor
open Go.RowKit Go.Rel

set_option maxRecDepth 8000 in
set_option maxHeartbeats 8000000 in
theorem parts22 (sub rd rn rm ra imm imm2 amount shift cond sys : Int) (flags minus not link : Bool) (hr : InR ⟨22, sub, rd, rn, rm, ra, imm, imm2, amount, shift, cond, sys, flags, minus, not, link⟩) (w : World) (T : Tab w) : Calls Tryd.prog 23 #[(⟨22, sub, rd, rn, rm, ra, imm, imm2, amount, shift, cond, sys, flags, minus, not, link⟩ : Ins).val] w fun e w' => ∃ v, e = .returned v ∧ RowT w.heap.size ([rdT ⟨22, sub, rd, rn, rm, ra, imm, imm2, amount, shift, cond, sys, flags, minus, not, link⟩, placeT [rnT ⟨22, sub, rd, rn, rm, ra, imm, imm2, amount, shift, cond, sys, flags, minus, not, link⟩]]) v w' ∧ Below w.heap.size w w' := by
  have ln : (rnT ⟨22, sub, rd, rn, rm, ra, imm, imm2, amount, shift, cond, sys, flags, minus, not, link⟩).length ≤ 100 := Nat.le_trans (reg_len _ hr.n0 hr.n1) (by decide)
  have HB := oneT_start ⟨22, sub, rd, rn, rm, ra, imm, imm2, amount, shift, cond, sys, flags, minus, not, link⟩ w T
  go_enter Tryd.func23, Tryd.ntmps23
  repeat' (first | with_reducible refine then_exit ?_ | with_reducible refine then_normal ?_ | with_reducible refine inBlock_eq ?_ | with_reducible refine inBlock_ne rfl ?_ | with_reducible refine inBlock_normal ?_ | go_step)
  refine wp_region_rel Grows (fun x => OneT ⟨22, sub, rd, rn, rm, ra, imm, imm2, amount, shift, cond, sys, flags, minus, not, link⟩ w x) [.inl (.pointer (some ⟨w.heap.size, 2, none⟩)), .inl (vI rd), .inl (⟨22, sub, rd, rn, rm, ra, imm, imm2, amount, shift, cond, sys, flags, minus, not, link⟩ : Ins).val, .inl (.bool (spD ⟨22, sub, rd, rn, rm, ra, imm, imm2, amount, shift, cond, sys, flags, minus, not, link⟩)), .inl (strV (rdT ⟨22, sub, rd, rn, rm, ra, imm, imm2, amount, shift, cond, sys, flags, minus, not, link⟩)), .inl (.pointer (some ⟨w.heap.size, 3, none⟩)), .inl (vI rn), .inl (⟨22, sub, rd, rn, rm, ra, imm, imm2, amount, shift, cond, sys, flags, minus, not, link⟩ : Ins).val, .inl (.bool (spN ⟨22, sub, rd, rn, rm, ra, imm, imm2, amount, shift, cond, sys, flags, minus, not, link⟩)), .inl (strV (rnT ⟨22, sub, rd, rn, rm, ra, imm, imm2, amount, shift, cond, sys, flags, minus, not, link⟩)), .inl (.pointer (some ⟨w.heap.size, 4, none⟩)), .inl (vI rm), .inl (strV (rmT ⟨22, sub, rd, rn, rm, ra, imm, imm2, amount, shift, cond, sys, flags, minus, not, link⟩)), .inl (strV (rdT ⟨22, sub, rd, rn, rm, ra, imm, imm2, amount, shift, cond, sys, flags, minus, not, link⟩)), .inl (strV (rnT ⟨22, sub, rd, rn, rm, ra, imm, imm2, amount, shift, cond, sys, flags, minus, not, link⟩)), .inl (strV (rmT ⟨22, sub, rd, rn, rm, ra, imm, imm2, amount, shift, cond, sys, flags, minus, not, link⟩))] (by kernel_rfl) (by kernel_rfl) (OneT.up _ _) HB.drew (by simp [upK]) ?_
  refine ⟨fun w1 hC _ => by go_simp; exact Below.refl _ _, ?_⟩
  simp only [Act.put, List.setIfInBounds_toArray, List.set_cons_succ, List.set_cons_zero]
  refine ⟨fun w1 hC _ => by have hq := hC.one.at 2 _ rfl; go_simp; exact Below.refl _ _, ?_⟩
  simp only [Act.put, List.setIfInBounds_toArray, List.set_cons_succ, List.set_cons_zero]
  refine ⟨fun w1 hC _ => rel_load_row 23 _ rfl w.heap.size (by go_simp) 23 (⟨22, sub, rd, rn, rm, ra, imm, imm2, amount, shift, cond, sys, flags, minus, not, link⟩ : Ins).cells (0, 0) _ hC.one.box Tryd.underlying23 rfl (by kernel_rfl), ?_⟩
  simp only [Act.put, List.setIfInBounds_toArray, List.set_cons_succ, List.set_cons_zero]
  refine ⟨fun w1 hC _ => ?_, ?_⟩
  · go_simp
    refine (stackRd_c ⟨22, sub, rd, rn, rm, ra, imm, imm2, amount, shift, cond, sys, flags, minus, not, link⟩ w1).mono ?_
    rintro e w2 ⟨rfl, rfl⟩
    exact ⟨rfl, below_alloc _ _⟩
  simp only [Act.put, List.setIfInBounds_toArray, List.set_cons_succ, List.set_cons_zero]
  refine ⟨fun w1 hC _ => ?_, ?_⟩
  · go_simp
    refine (name_c rd (spD ⟨22, sub, rd, rn, rm, ra, imm, imm2, amount, shift, cond, sys, flags, minus, not, link⟩) hr.d0 hr.d1 w1 hC.tab).mono ?_
    rintro e w2 ⟨rfl, hb⟩
    exact ⟨rfl, hb⟩
  simp only [Act.put, List.setIfInBounds_toArray, List.set_cons_succ, List.set_cons_zero]
  refine ⟨fun w1 hC _ => by go_simp; exact Below.refl _ _, ?_⟩
  simp only [Act.put, List.setIfInBounds_toArray, List.set_cons_succ, List.set_cons_zero]
  refine ⟨fun w1 hC _ => by have hq := hC.one.at 3 _ rfl; go_simp; exact Below.refl _ _, ?_⟩
  simp only [Act.put, List.setIfInBounds_toArray, List.set_cons_succ, List.set_cons_zero]
  refine ⟨fun w1 hC _ => rel_load_row 23 _ rfl w.heap.size (by go_simp) 23 (⟨22, sub, rd, rn, rm, ra, imm, imm2, amount, shift, cond, sys, flags, minus, not, link⟩ : Ins).cells (0, 0) _ hC.one.box Tryd.underlying23 rfl (by kernel_rfl), ?_⟩
  simp only [Act.put, List.setIfInBounds_toArray, List.set_cons_succ, List.set_cons_zero]
  refine ⟨fun w1 hC _ => ?_, ?_⟩
  · go_simp
    refine (stackRn_c ⟨22, sub, rd, rn, rm, ra, imm, imm2, amount, shift, cond, sys, flags, minus, not, link⟩ w1).mono ?_
    rintro e w2 ⟨rfl, rfl⟩
    exact ⟨rfl, below_alloc _ _⟩
  simp only [Act.put, List.setIfInBounds_toArray, List.set_cons_succ, List.set_cons_zero]
  refine ⟨fun w1 hC _ => ?_, ?_⟩
  · go_simp
    refine (name_c rn (spN ⟨22, sub, rd, rn, rm, ra, imm, imm2, amount, shift, cond, sys, flags, minus, not, link⟩) hr.n0 hr.n1 w1 hC.tab).mono ?_
    rintro e w2 ⟨rfl, hb⟩
    exact ⟨rfl, hb⟩
  simp only [Act.put, List.setIfInBounds_toArray, List.set_cons_succ, List.set_cons_zero]
  refine ⟨fun w1 hC _ => by go_simp; exact Below.refl _ _, ?_⟩
  simp only [Act.put, List.setIfInBounds_toArray, List.set_cons_succ, List.set_cons_zero]
  refine ⟨fun w1 hC _ => by have hq := hC.one.at 4 _ rfl; go_simp; exact Below.refl _ _, ?_⟩
  simp only [Act.put, List.setIfInBounds_toArray, List.set_cons_succ, List.set_cons_zero]
  refine ⟨fun w1 hC _ => ?_, ?_⟩
  · go_simp
    refine (name_c rm false hr.m0 hr.m1 w1 hC.tab).mono ?_
    rintro e w2 ⟨rfl, hb⟩
    exact ⟨rfl, hb⟩
  simp only [Act.put, List.setIfInBounds_toArray, List.set_cons_succ, List.set_cons_zero]
  refine ⟨fun w1 hC _ => by go_simp; exact Below.refl _ _, ?_⟩
  simp only [Act.put, List.setIfInBounds_toArray, List.set_cons_succ, List.set_cons_zero]
  refine ⟨fun w1 hC _ => by go_simp; exact Below.refl _ _, ?_⟩
  simp only [Act.put, List.setIfInBounds_toArray, List.set_cons_succ, List.set_cons_zero]
  refine ⟨fun w1 hC _ => by go_simp; exact Below.refl _ _, ?_⟩
  simp only [Act.put, List.setIfInBounds_toArray, List.set_cons_succ, List.set_cons_zero]
  clear HB
  intro w1 HB _
  have c0 := HB.one.at 0 _ rfl
  repeat' (first | with_reducible refine then_exit ?_ | with_reducible refine then_normal ?_ | with_reducible refine inBlock_eq ?_ | with_reducible refine inBlock_ne rfl ?_ | with_reducible refine inBlock_normal ?_ | (go_at_call 44; refine (place_c [rnT ⟨22, sub, rd, rn, rm, ra, imm, imm2, amount, shift, cond, sys, flags, minus, not, link⟩] _ 0 _ (row_new _ [rnT ⟨22, sub, rd, rn, rm, ra, imm, imm2, amount, shift, cond, sys, flags, minus, not, link⟩] (by simp) 0 (Nat.zero_le _)) (by simp) (le1 ln) (by simp)).mono ?_; rintro e w' ⟨rfl, hb⟩; dsimp only; replace hb := below_then (below_alloc _ _) hb; replace HB := HB.grow hb; clear hb) | go_step)
  go_ret
  exact ⟨_, rfl, row_new _ [rdT ⟨22, sub, rd, rn, rm, ra, imm, imm2, amount, shift, cond, sys, flags, minus, not, link⟩, placeT [rnT ⟨22, sub, rd, rn, rm, ra, imm, imm2, amount, shift, cond, sys, flags, minus, not, link⟩]] (by simp) _ HB.size, below_then HB.one.below (below_alloc _ _)⟩

set_option maxRecDepth 8000 in
set_option maxHeartbeats 8000000 in
theorem parts23 (sub rd rn rm ra imm imm2 amount shift cond sys : Int) (flags minus not link : Bool) (hr : InR ⟨23, sub, rd, rn, rm, ra, imm, imm2, amount, shift, cond, sys, flags, minus, not, link⟩) (w : World) (T : Tab w) : Calls Tryd.prog 23 #[(⟨23, sub, rd, rn, rm, ra, imm, imm2, amount, shift, cond, sys, flags, minus, not, link⟩ : Ins).val] w fun e w' => ∃ v, e = .returned v ∧ RowT w.heap.size ([rdT ⟨23, sub, rd, rn, rm, ra, imm, imm2, amount, shift, cond, sys, flags, minus, not, link⟩, placeT [rnT ⟨23, sub, rd, rn, rm, ra, imm, imm2, amount, shift, cond, sys, flags, minus, not, link⟩]]) v w' ∧ Below w.heap.size w w' := by
  have ln : (rnT ⟨23, sub, rd, rn, rm, ra, imm, imm2, amount, shift, cond, sys, flags, minus, not, link⟩).length ≤ 100 := Nat.le_trans (reg_len _ hr.n0 hr.n1) (by decide)
  have HB := oneT_start ⟨23, sub, rd, rn, rm, ra, imm, imm2, amount, shift, cond, sys, flags, minus, not, link⟩ w T
  go_enter Tryd.func23, Tryd.ntmps23
  repeat' (first | with_reducible refine then_exit ?_ | with_reducible refine then_normal ?_ | with_reducible refine inBlock_eq ?_ | with_reducible refine inBlock_ne rfl ?_ | with_reducible refine inBlock_normal ?_ | go_step)
  refine wp_region_rel Grows (fun x => OneT ⟨23, sub, rd, rn, rm, ra, imm, imm2, amount, shift, cond, sys, flags, minus, not, link⟩ w x) [.inl (.pointer (some ⟨w.heap.size, 2, none⟩)), .inl (vI rd), .inl (⟨23, sub, rd, rn, rm, ra, imm, imm2, amount, shift, cond, sys, flags, minus, not, link⟩ : Ins).val, .inl (.bool (spD ⟨23, sub, rd, rn, rm, ra, imm, imm2, amount, shift, cond, sys, flags, minus, not, link⟩)), .inl (strV (rdT ⟨23, sub, rd, rn, rm, ra, imm, imm2, amount, shift, cond, sys, flags, minus, not, link⟩)), .inl (.pointer (some ⟨w.heap.size, 3, none⟩)), .inl (vI rn), .inl (⟨23, sub, rd, rn, rm, ra, imm, imm2, amount, shift, cond, sys, flags, minus, not, link⟩ : Ins).val, .inl (.bool (spN ⟨23, sub, rd, rn, rm, ra, imm, imm2, amount, shift, cond, sys, flags, minus, not, link⟩)), .inl (strV (rnT ⟨23, sub, rd, rn, rm, ra, imm, imm2, amount, shift, cond, sys, flags, minus, not, link⟩)), .inl (.pointer (some ⟨w.heap.size, 4, none⟩)), .inl (vI rm), .inl (strV (rmT ⟨23, sub, rd, rn, rm, ra, imm, imm2, amount, shift, cond, sys, flags, minus, not, link⟩)), .inl (strV (rdT ⟨23, sub, rd, rn, rm, ra, imm, imm2, amount, shift, cond, sys, flags, minus, not, link⟩)), .inl (strV (rnT ⟨23, sub, rd, rn, rm, ra, imm, imm2, amount, shift, cond, sys, flags, minus, not, link⟩)), .inl (strV (rmT ⟨23, sub, rd, rn, rm, ra, imm, imm2, amount, shift, cond, sys, flags, minus, not, link⟩))] (by kernel_rfl) (by kernel_rfl) (OneT.up _ _) HB.drew (by simp [upK]) ?_
  refine ⟨fun w1 hC _ => by go_simp; exact Below.refl _ _, ?_⟩
  simp only [Act.put, List.setIfInBounds_toArray, List.set_cons_succ, List.set_cons_zero]
  refine ⟨fun w1 hC _ => by have hq := hC.one.at 2 _ rfl; go_simp; exact Below.refl _ _, ?_⟩
  simp only [Act.put, List.setIfInBounds_toArray, List.set_cons_succ, List.set_cons_zero]
  refine ⟨fun w1 hC _ => rel_load_row 23 _ rfl w.heap.size (by go_simp) 23 (⟨23, sub, rd, rn, rm, ra, imm, imm2, amount, shift, cond, sys, flags, minus, not, link⟩ : Ins).cells (0, 0) _ hC.one.box Tryd.underlying23 rfl (by kernel_rfl), ?_⟩
  simp only [Act.put, List.setIfInBounds_toArray, List.set_cons_succ, List.set_cons_zero]
  refine ⟨fun w1 hC _ => ?_, ?_⟩
  · go_simp
    refine (stackRd_c ⟨23, sub, rd, rn, rm, ra, imm, imm2, amount, shift, cond, sys, flags, minus, not, link⟩ w1).mono ?_
    rintro e w2 ⟨rfl, rfl⟩
    exact ⟨rfl, below_alloc _ _⟩
  simp only [Act.put, List.setIfInBounds_toArray, List.set_cons_succ, List.set_cons_zero]
  refine ⟨fun w1 hC _ => ?_, ?_⟩
  · go_simp
    refine (name_c rd (spD ⟨23, sub, rd, rn, rm, ra, imm, imm2, amount, shift, cond, sys, flags, minus, not, link⟩) hr.d0 hr.d1 w1 hC.tab).mono ?_
    rintro e w2 ⟨rfl, hb⟩
    exact ⟨rfl, hb⟩
  simp only [Act.put, List.setIfInBounds_toArray, List.set_cons_succ, List.set_cons_zero]
  refine ⟨fun w1 hC _ => by go_simp; exact Below.refl _ _, ?_⟩
  simp only [Act.put, List.setIfInBounds_toArray, List.set_cons_succ, List.set_cons_zero]
  refine ⟨fun w1 hC _ => by have hq := hC.one.at 3 _ rfl; go_simp; exact Below.refl _ _, ?_⟩
  simp only [Act.put, List.setIfInBounds_toArray, List.set_cons_succ, List.set_cons_zero]
  refine ⟨fun w1 hC _ => rel_load_row 23 _ rfl w.heap.size (by go_simp) 23 (⟨23, sub, rd, rn, rm, ra, imm, imm2, amount, shift, cond, sys, flags, minus, not, link⟩ : Ins).cells (0, 0) _ hC.one.box Tryd.underlying23 rfl (by kernel_rfl), ?_⟩
  simp only [Act.put, List.setIfInBounds_toArray, List.set_cons_succ, List.set_cons_zero]
  refine ⟨fun w1 hC _ => ?_, ?_⟩
  · go_simp
    refine (stackRn_c ⟨23, sub, rd, rn, rm, ra, imm, imm2, amount, shift, cond, sys, flags, minus, not, link⟩ w1).mono ?_
    rintro e w2 ⟨rfl, rfl⟩
    exact ⟨rfl, below_alloc _ _⟩
  simp only [Act.put, List.setIfInBounds_toArray, List.set_cons_succ, List.set_cons_zero]
  refine ⟨fun w1 hC _ => ?_, ?_⟩
  · go_simp
    refine (name_c rn (spN ⟨23, sub, rd, rn, rm, ra, imm, imm2, amount, shift, cond, sys, flags, minus, not, link⟩) hr.n0 hr.n1 w1 hC.tab).mono ?_
    rintro e w2 ⟨rfl, hb⟩
    exact ⟨rfl, hb⟩
  simp only [Act.put, List.setIfInBounds_toArray, List.set_cons_succ, List.set_cons_zero]
  refine ⟨fun w1 hC _ => by go_simp; exact Below.refl _ _, ?_⟩
  simp only [Act.put, List.setIfInBounds_toArray, List.set_cons_succ, List.set_cons_zero]
  refine ⟨fun w1 hC _ => by have hq := hC.one.at 4 _ rfl; go_simp; exact Below.refl _ _, ?_⟩
  simp only [Act.put, List.setIfInBounds_toArray, List.set_cons_succ, List.set_cons_zero]
  refine ⟨fun w1 hC _ => ?_, ?_⟩
  · go_simp
    refine (name_c rm false hr.m0 hr.m1 w1 hC.tab).mono ?_
    rintro e w2 ⟨rfl, hb⟩
    exact ⟨rfl, hb⟩
  simp only [Act.put, List.setIfInBounds_toArray, List.set_cons_succ, List.set_cons_zero]
  refine ⟨fun w1 hC _ => by go_simp; exact Below.refl _ _, ?_⟩
  simp only [Act.put, List.setIfInBounds_toArray, List.set_cons_succ, List.set_cons_zero]
  refine ⟨fun w1 hC _ => by go_simp; exact Below.refl _ _, ?_⟩
  simp only [Act.put, List.setIfInBounds_toArray, List.set_cons_succ, List.set_cons_zero]
  refine ⟨fun w1 hC _ => by go_simp; exact Below.refl _ _, ?_⟩
  simp only [Act.put, List.setIfInBounds_toArray, List.set_cons_succ, List.set_cons_zero]
  clear HB
  intro w1 HB _
  have c0 := HB.one.at 0 _ rfl
  repeat' (first | with_reducible refine then_exit ?_ | with_reducible refine then_normal ?_ | with_reducible refine inBlock_eq ?_ | with_reducible refine inBlock_ne rfl ?_ | with_reducible refine inBlock_normal ?_ | (go_at_call 44; refine (place_c [rnT ⟨23, sub, rd, rn, rm, ra, imm, imm2, amount, shift, cond, sys, flags, minus, not, link⟩] _ 0 _ (row_new _ [rnT ⟨23, sub, rd, rn, rm, ra, imm, imm2, amount, shift, cond, sys, flags, minus, not, link⟩] (by simp) 0 (Nat.zero_le _)) (by simp) (le1 ln) (by simp)).mono ?_; rintro e w' ⟨rfl, hb⟩; dsimp only; replace hb := below_then (below_alloc _ _) hb; replace HB := HB.grow hb; clear hb) | go_step)
  go_ret
  exact ⟨_, rfl, row_new _ [rdT ⟨23, sub, rd, rn, rm, ra, imm, imm2, amount, shift, cond, sys, flags, minus, not, link⟩, placeT [rnT ⟨23, sub, rd, rn, rm, ra, imm, imm2, amount, shift, cond, sys, flags, minus, not, link⟩]] (by simp) _ HB.size, below_then HB.one.below (below_alloc _ _)⟩

set_option maxRecDepth 8000 in
set_option maxHeartbeats 8000000 in
theorem parts24 (sub rd rn rm ra imm imm2 amount shift cond sys : Int) (flags minus not link : Bool) (hr : InR ⟨24, sub, rd, rn, rm, ra, imm, imm2, amount, shift, cond, sys, flags, minus, not, link⟩) (w : World) (T : Tab w) : Calls Tryd.prog 23 #[(⟨24, sub, rd, rn, rm, ra, imm, imm2, amount, shift, cond, sys, flags, minus, not, link⟩ : Ins).val] w fun e w' => ∃ v, e = .returned v ∧ RowT w.heap.size ([rmT ⟨24, sub, rd, rn, rm, ra, imm, imm2, amount, shift, cond, sys, flags, minus, not, link⟩, rdT ⟨24, sub, rd, rn, rm, ra, imm, imm2, amount, shift, cond, sys, flags, minus, not, link⟩, placeT [rnT ⟨24, sub, rd, rn, rm, ra, imm, imm2, amount, shift, cond, sys, flags, minus, not, link⟩]]) v w' ∧ Below w.heap.size w w' := by
  have ln : (rnT ⟨24, sub, rd, rn, rm, ra, imm, imm2, amount, shift, cond, sys, flags, minus, not, link⟩).length ≤ 100 := Nat.le_trans (reg_len _ hr.n0 hr.n1) (by decide)
  have HB := oneT_start ⟨24, sub, rd, rn, rm, ra, imm, imm2, amount, shift, cond, sys, flags, minus, not, link⟩ w T
  go_enter Tryd.func23, Tryd.ntmps23
  repeat' (first | with_reducible refine then_exit ?_ | with_reducible refine then_normal ?_ | with_reducible refine inBlock_eq ?_ | with_reducible refine inBlock_ne rfl ?_ | with_reducible refine inBlock_normal ?_ | go_step)
  refine wp_region_rel Grows (fun x => OneT ⟨24, sub, rd, rn, rm, ra, imm, imm2, amount, shift, cond, sys, flags, minus, not, link⟩ w x) [.inl (.pointer (some ⟨w.heap.size, 2, none⟩)), .inl (vI rd), .inl (⟨24, sub, rd, rn, rm, ra, imm, imm2, amount, shift, cond, sys, flags, minus, not, link⟩ : Ins).val, .inl (.bool (spD ⟨24, sub, rd, rn, rm, ra, imm, imm2, amount, shift, cond, sys, flags, minus, not, link⟩)), .inl (strV (rdT ⟨24, sub, rd, rn, rm, ra, imm, imm2, amount, shift, cond, sys, flags, minus, not, link⟩)), .inl (.pointer (some ⟨w.heap.size, 3, none⟩)), .inl (vI rn), .inl (⟨24, sub, rd, rn, rm, ra, imm, imm2, amount, shift, cond, sys, flags, minus, not, link⟩ : Ins).val, .inl (.bool (spN ⟨24, sub, rd, rn, rm, ra, imm, imm2, amount, shift, cond, sys, flags, minus, not, link⟩)), .inl (strV (rnT ⟨24, sub, rd, rn, rm, ra, imm, imm2, amount, shift, cond, sys, flags, minus, not, link⟩)), .inl (.pointer (some ⟨w.heap.size, 4, none⟩)), .inl (vI rm), .inl (strV (rmT ⟨24, sub, rd, rn, rm, ra, imm, imm2, amount, shift, cond, sys, flags, minus, not, link⟩)), .inl (strV (rdT ⟨24, sub, rd, rn, rm, ra, imm, imm2, amount, shift, cond, sys, flags, minus, not, link⟩)), .inl (strV (rnT ⟨24, sub, rd, rn, rm, ra, imm, imm2, amount, shift, cond, sys, flags, minus, not, link⟩)), .inl (strV (rmT ⟨24, sub, rd, rn, rm, ra, imm, imm2, amount, shift, cond, sys, flags, minus, not, link⟩))] (by kernel_rfl) (by kernel_rfl) (OneT.up _ _) HB.drew (by simp [upK]) ?_
  refine ⟨fun w1 hC _ => by go_simp; exact Below.refl _ _, ?_⟩
  simp only [Act.put, List.setIfInBounds_toArray, List.set_cons_succ, List.set_cons_zero]
  refine ⟨fun w1 hC _ => by have hq := hC.one.at 2 _ rfl; go_simp; exact Below.refl _ _, ?_⟩
  simp only [Act.put, List.setIfInBounds_toArray, List.set_cons_succ, List.set_cons_zero]
  refine ⟨fun w1 hC _ => rel_load_row 23 _ rfl w.heap.size (by go_simp) 23 (⟨24, sub, rd, rn, rm, ra, imm, imm2, amount, shift, cond, sys, flags, minus, not, link⟩ : Ins).cells (0, 0) _ hC.one.box Tryd.underlying23 rfl (by kernel_rfl), ?_⟩
  simp only [Act.put, List.setIfInBounds_toArray, List.set_cons_succ, List.set_cons_zero]
  refine ⟨fun w1 hC _ => ?_, ?_⟩
  · go_simp
    refine (stackRd_c ⟨24, sub, rd, rn, rm, ra, imm, imm2, amount, shift, cond, sys, flags, minus, not, link⟩ w1).mono ?_
    rintro e w2 ⟨rfl, rfl⟩
    exact ⟨rfl, below_alloc _ _⟩
  simp only [Act.put, List.setIfInBounds_toArray, List.set_cons_succ, List.set_cons_zero]
  refine ⟨fun w1 hC _ => ?_, ?_⟩
  · go_simp
    refine (name_c rd (spD ⟨24, sub, rd, rn, rm, ra, imm, imm2, amount, shift, cond, sys, flags, minus, not, link⟩) hr.d0 hr.d1 w1 hC.tab).mono ?_
    rintro e w2 ⟨rfl, hb⟩
    exact ⟨rfl, hb⟩
  simp only [Act.put, List.setIfInBounds_toArray, List.set_cons_succ, List.set_cons_zero]
  refine ⟨fun w1 hC _ => by go_simp; exact Below.refl _ _, ?_⟩
  simp only [Act.put, List.setIfInBounds_toArray, List.set_cons_succ, List.set_cons_zero]
  refine ⟨fun w1 hC _ => by have hq := hC.one.at 3 _ rfl; go_simp; exact Below.refl _ _, ?_⟩
  simp only [Act.put, List.setIfInBounds_toArray, List.set_cons_succ, List.set_cons_zero]
  refine ⟨fun w1 hC _ => rel_load_row 23 _ rfl w.heap.size (by go_simp) 23 (⟨24, sub, rd, rn, rm, ra, imm, imm2, amount, shift, cond, sys, flags, minus, not, link⟩ : Ins).cells (0, 0) _ hC.one.box Tryd.underlying23 rfl (by kernel_rfl), ?_⟩
  simp only [Act.put, List.setIfInBounds_toArray, List.set_cons_succ, List.set_cons_zero]
  refine ⟨fun w1 hC _ => ?_, ?_⟩
  · go_simp
    refine (stackRn_c ⟨24, sub, rd, rn, rm, ra, imm, imm2, amount, shift, cond, sys, flags, minus, not, link⟩ w1).mono ?_
    rintro e w2 ⟨rfl, rfl⟩
    exact ⟨rfl, below_alloc _ _⟩
  simp only [Act.put, List.setIfInBounds_toArray, List.set_cons_succ, List.set_cons_zero]
  refine ⟨fun w1 hC _ => ?_, ?_⟩
  · go_simp
    refine (name_c rn (spN ⟨24, sub, rd, rn, rm, ra, imm, imm2, amount, shift, cond, sys, flags, minus, not, link⟩) hr.n0 hr.n1 w1 hC.tab).mono ?_
    rintro e w2 ⟨rfl, hb⟩
    exact ⟨rfl, hb⟩
  simp only [Act.put, List.setIfInBounds_toArray, List.set_cons_succ, List.set_cons_zero]
  refine ⟨fun w1 hC _ => by go_simp; exact Below.refl _ _, ?_⟩
  simp only [Act.put, List.setIfInBounds_toArray, List.set_cons_succ, List.set_cons_zero]
  refine ⟨fun w1 hC _ => by have hq := hC.one.at 4 _ rfl; go_simp; exact Below.refl _ _, ?_⟩
  simp only [Act.put, List.setIfInBounds_toArray, List.set_cons_succ, List.set_cons_zero]
  refine ⟨fun w1 hC _ => ?_, ?_⟩
  · go_simp
    refine (name_c rm false hr.m0 hr.m1 w1 hC.tab).mono ?_
    rintro e w2 ⟨rfl, hb⟩
    exact ⟨rfl, hb⟩
  simp only [Act.put, List.setIfInBounds_toArray, List.set_cons_succ, List.set_cons_zero]
  refine ⟨fun w1 hC _ => by go_simp; exact Below.refl _ _, ?_⟩
  simp only [Act.put, List.setIfInBounds_toArray, List.set_cons_succ, List.set_cons_zero]
  refine ⟨fun w1 hC _ => by go_simp; exact Below.refl _ _, ?_⟩
  simp only [Act.put, List.setIfInBounds_toArray, List.set_cons_succ, List.set_cons_zero]
  refine ⟨fun w1 hC _ => by go_simp; exact Below.refl _ _, ?_⟩
  simp only [Act.put, List.setIfInBounds_toArray, List.set_cons_succ, List.set_cons_zero]
  clear HB
  intro w1 HB _
  have c0 := HB.one.at 0 _ rfl
  repeat' (first | with_reducible refine then_exit ?_ | with_reducible refine then_normal ?_ | with_reducible refine inBlock_eq ?_ | with_reducible refine inBlock_ne rfl ?_ | with_reducible refine inBlock_normal ?_ | (go_at_call 44; refine (place_c [rnT ⟨24, sub, rd, rn, rm, ra, imm, imm2, amount, shift, cond, sys, flags, minus, not, link⟩] _ 0 _ (row_new _ [rnT ⟨24, sub, rd, rn, rm, ra, imm, imm2, amount, shift, cond, sys, flags, minus, not, link⟩] (by simp) 0 (Nat.zero_le _)) (by simp) (le1 ln) (by simp)).mono ?_; rintro e w' ⟨rfl, hb⟩; dsimp only; replace hb := below_then (below_alloc _ _) hb; replace HB := HB.grow hb; clear hb) | go_step)
  go_ret
  exact ⟨_, rfl, row_new _ [rmT ⟨24, sub, rd, rn, rm, ra, imm, imm2, amount, shift, cond, sys, flags, minus, not, link⟩, rdT ⟨24, sub, rd, rn, rm, ra, imm, imm2, amount, shift, cond, sys, flags, minus, not, link⟩, placeT [rnT ⟨24, sub, rd, rn, rm, ra, imm, imm2, amount, shift, cond, sys, flags, minus, not, link⟩]] (by simp) _ HB.size, below_then HB.one.below (below_alloc _ _)⟩

set_option maxRecDepth 8000 in
set_option maxHeartbeats 8000000 in
theorem parts26 (sub rd rn rm ra imm imm2 amount shift cond sys : Int) (flags minus not link : Bool) (hr : InR ⟨26, sub, rd, rn, rm, ra, imm, imm2, amount, shift, cond, sys, flags, minus, not, link⟩) (i3 : 1 ≤ imm ∧ imm ≤ 3) (w : World) (T : Tab w) : Calls Tryd.prog 23 #[(⟨26, sub, rd, rn, rm, ra, imm, imm2, amount, shift, cond, sys, flags, minus, not, link⟩ : Ins).val] w fun e w' => ∃ v, e = .returned v ∧ RowT w.heap.size ([barT (imm - 1)]) v w' ∧ Below w.heap.size w w' := by
  have hi : imm = 1 ∨ imm = 2 ∨ imm = 3 := by omega
  clear i3
  rcases hi with rfl | rfl | rfl
  · have HB := oneT_start ⟨26, sub, rd, rn, rm, ra, 1, imm2, amount, shift, cond, sys, flags, minus, not, link⟩ w T
    go_enter Tryd.func23, Tryd.ntmps23
    repeat' (first | with_reducible refine then_exit ?_ | with_reducible refine then_normal ?_ | with_reducible refine inBlock_eq ?_ | with_reducible refine inBlock_ne rfl ?_ | with_reducible refine inBlock_normal ?_ | go_step)
    refine wp_region_rel Grows (fun x => OneT ⟨26, sub, rd, rn, rm, ra, 1, imm2, amount, shift, cond, sys, flags, minus, not, link⟩ w x) [.inl (.pointer (some ⟨w.heap.size, 2, none⟩)), .inl (vI rd), .inl (⟨26, sub, rd, rn, rm, ra, 1, imm2, amount, shift, cond, sys, flags, minus, not, link⟩ : Ins).val, .inl (.bool (spD ⟨26, sub, rd, rn, rm, ra, 1, imm2, amount, shift, cond, sys, flags, minus, not, link⟩)), .inl (strV (rdT ⟨26, sub, rd, rn, rm, ra, 1, imm2, amount, shift, cond, sys, flags, minus, not, link⟩)), .inl (.pointer (some ⟨w.heap.size, 3, none⟩)), .inl (vI rn), .inl (⟨26, sub, rd, rn, rm, ra, 1, imm2, amount, shift, cond, sys, flags, minus, not, link⟩ : Ins).val, .inl (.bool (spN ⟨26, sub, rd, rn, rm, ra, 1, imm2, amount, shift, cond, sys, flags, minus, not, link⟩)), .inl (strV (rnT ⟨26, sub, rd, rn, rm, ra, 1, imm2, amount, shift, cond, sys, flags, minus, not, link⟩)), .inl (.pointer (some ⟨w.heap.size, 4, none⟩)), .inl (vI rm), .inl (strV (rmT ⟨26, sub, rd, rn, rm, ra, 1, imm2, amount, shift, cond, sys, flags, minus, not, link⟩)), .inl (strV (rdT ⟨26, sub, rd, rn, rm, ra, 1, imm2, amount, shift, cond, sys, flags, minus, not, link⟩)), .inl (strV (rnT ⟨26, sub, rd, rn, rm, ra, 1, imm2, amount, shift, cond, sys, flags, minus, not, link⟩)), .inl (strV (rmT ⟨26, sub, rd, rn, rm, ra, 1, imm2, amount, shift, cond, sys, flags, minus, not, link⟩))] (by kernel_rfl) (by kernel_rfl) (OneT.up _ _) HB.drew (by simp [upK]) ?_
    refine ⟨fun w1 hC _ => by go_simp; exact Below.refl _ _, ?_⟩
    simp only [Act.put, List.setIfInBounds_toArray, List.set_cons_succ, List.set_cons_zero]
    refine ⟨fun w1 hC _ => by have hq := hC.one.at 2 _ rfl; go_simp; exact Below.refl _ _, ?_⟩
    simp only [Act.put, List.setIfInBounds_toArray, List.set_cons_succ, List.set_cons_zero]
    refine ⟨fun w1 hC _ => rel_load_row 23 _ rfl w.heap.size (by go_simp) 23 (⟨26, sub, rd, rn, rm, ra, 1, imm2, amount, shift, cond, sys, flags, minus, not, link⟩ : Ins).cells (0, 0) _ hC.one.box Tryd.underlying23 rfl (by kernel_rfl), ?_⟩
    simp only [Act.put, List.setIfInBounds_toArray, List.set_cons_succ, List.set_cons_zero]
    refine ⟨fun w1 hC _ => ?_, ?_⟩
    · go_simp
      refine (stackRd_c ⟨26, sub, rd, rn, rm, ra, 1, imm2, amount, shift, cond, sys, flags, minus, not, link⟩ w1).mono ?_
      rintro e w2 ⟨rfl, rfl⟩
      exact ⟨rfl, below_alloc _ _⟩
    simp only [Act.put, List.setIfInBounds_toArray, List.set_cons_succ, List.set_cons_zero]
    refine ⟨fun w1 hC _ => ?_, ?_⟩
    · go_simp
      refine (name_c rd (spD ⟨26, sub, rd, rn, rm, ra, 1, imm2, amount, shift, cond, sys, flags, minus, not, link⟩) hr.d0 hr.d1 w1 hC.tab).mono ?_
      rintro e w2 ⟨rfl, hb⟩
      exact ⟨rfl, hb⟩
    simp only [Act.put, List.setIfInBounds_toArray, List.set_cons_succ, List.set_cons_zero]
    refine ⟨fun w1 hC _ => by go_simp; exact Below.refl _ _, ?_⟩
    simp only [Act.put, List.setIfInBounds_toArray, List.set_cons_succ, List.set_cons_zero]
    refine ⟨fun w1 hC _ => by have hq := hC.one.at 3 _ rfl; go_simp; exact Below.refl _ _, ?_⟩
    simp only [Act.put, List.setIfInBounds_toArray, List.set_cons_succ, List.set_cons_zero]
    refine ⟨fun w1 hC _ => rel_load_row 23 _ rfl w.heap.size (by go_simp) 23 (⟨26, sub, rd, rn, rm, ra, 1, imm2, amount, shift, cond, sys, flags, minus, not, link⟩ : Ins).cells (0, 0) _ hC.one.box Tryd.underlying23 rfl (by kernel_rfl), ?_⟩
    simp only [Act.put, List.setIfInBounds_toArray, List.set_cons_succ, List.set_cons_zero]
    refine ⟨fun w1 hC _ => ?_, ?_⟩
    · go_simp
      refine (stackRn_c ⟨26, sub, rd, rn, rm, ra, 1, imm2, amount, shift, cond, sys, flags, minus, not, link⟩ w1).mono ?_
      rintro e w2 ⟨rfl, rfl⟩
      exact ⟨rfl, below_alloc _ _⟩
    simp only [Act.put, List.setIfInBounds_toArray, List.set_cons_succ, List.set_cons_zero]
    refine ⟨fun w1 hC _ => ?_, ?_⟩
    · go_simp
      refine (name_c rn (spN ⟨26, sub, rd, rn, rm, ra, 1, imm2, amount, shift, cond, sys, flags, minus, not, link⟩) hr.n0 hr.n1 w1 hC.tab).mono ?_
      rintro e w2 ⟨rfl, hb⟩
      exact ⟨rfl, hb⟩
    simp only [Act.put, List.setIfInBounds_toArray, List.set_cons_succ, List.set_cons_zero]
    refine ⟨fun w1 hC _ => by go_simp; exact Below.refl _ _, ?_⟩
    simp only [Act.put, List.setIfInBounds_toArray, List.set_cons_succ, List.set_cons_zero]
    refine ⟨fun w1 hC _ => by have hq := hC.one.at 4 _ rfl; go_simp; exact Below.refl _ _, ?_⟩
    simp only [Act.put, List.setIfInBounds_toArray, List.set_cons_succ, List.set_cons_zero]
    refine ⟨fun w1 hC _ => ?_, ?_⟩
    · go_simp
      refine (name_c rm false hr.m0 hr.m1 w1 hC.tab).mono ?_
      rintro e w2 ⟨rfl, hb⟩
      exact ⟨rfl, hb⟩
    simp only [Act.put, List.setIfInBounds_toArray, List.set_cons_succ, List.set_cons_zero]
    refine ⟨fun w1 hC _ => by go_simp; exact Below.refl _ _, ?_⟩
    simp only [Act.put, List.setIfInBounds_toArray, List.set_cons_succ, List.set_cons_zero]
    refine ⟨fun w1 hC _ => by go_simp; exact Below.refl _ _, ?_⟩
    simp only [Act.put, List.setIfInBounds_toArray, List.set_cons_succ, List.set_cons_zero]
    refine ⟨fun w1 hC _ => by go_simp; exact Below.refl _ _, ?_⟩
    simp only [Act.put, List.setIfInBounds_toArray, List.set_cons_succ, List.set_cons_zero]
    clear HB
    intro w1 HB _
    have c0 := HB.one.at 0 _ rfl
    have c6 := HB.one.at 6 _ rfl
    repeat' (first | with_reducible refine then_exit ?_ | with_reducible refine then_normal ?_ | with_reducible refine inBlock_eq ?_ | with_reducible refine inBlock_ne rfl ?_ | with_reducible refine inBlock_normal ?_ | (go_at_call 46; refine (one_a _ _ _ _ _ _ (by decide) (by decide) rfl rfl).mono ?_; rintro e w' ⟨rfl, rfl⟩; dsimp only; have hb2 := below_alloc w1 (.cells #[strV [108, 100], strV [115, 116], strV [115, 121]] 9); replace HB := HB.grow hb2) | go_step)
    go_ret
    exact ⟨_, rfl, row_at _ [barT (1 - 1)] (by simp) _ HB.size _ (by simp), below_then HB.one.below (below_alloc _ _)⟩
  · have HB := oneT_start ⟨26, sub, rd, rn, rm, ra, 2, imm2, amount, shift, cond, sys, flags, minus, not, link⟩ w T
    go_enter Tryd.func23, Tryd.ntmps23
    repeat' (first | with_reducible refine then_exit ?_ | with_reducible refine then_normal ?_ | with_reducible refine inBlock_eq ?_ | with_reducible refine inBlock_ne rfl ?_ | with_reducible refine inBlock_normal ?_ | go_step)
    refine wp_region_rel Grows (fun x => OneT ⟨26, sub, rd, rn, rm, ra, 2, imm2, amount, shift, cond, sys, flags, minus, not, link⟩ w x) [.inl (.pointer (some ⟨w.heap.size, 2, none⟩)), .inl (vI rd), .inl (⟨26, sub, rd, rn, rm, ra, 2, imm2, amount, shift, cond, sys, flags, minus, not, link⟩ : Ins).val, .inl (.bool (spD ⟨26, sub, rd, rn, rm, ra, 2, imm2, amount, shift, cond, sys, flags, minus, not, link⟩)), .inl (strV (rdT ⟨26, sub, rd, rn, rm, ra, 2, imm2, amount, shift, cond, sys, flags, minus, not, link⟩)), .inl (.pointer (some ⟨w.heap.size, 3, none⟩)), .inl (vI rn), .inl (⟨26, sub, rd, rn, rm, ra, 2, imm2, amount, shift, cond, sys, flags, minus, not, link⟩ : Ins).val, .inl (.bool (spN ⟨26, sub, rd, rn, rm, ra, 2, imm2, amount, shift, cond, sys, flags, minus, not, link⟩)), .inl (strV (rnT ⟨26, sub, rd, rn, rm, ra, 2, imm2, amount, shift, cond, sys, flags, minus, not, link⟩)), .inl (.pointer (some ⟨w.heap.size, 4, none⟩)), .inl (vI rm), .inl (strV (rmT ⟨26, sub, rd, rn, rm, ra, 2, imm2, amount, shift, cond, sys, flags, minus, not, link⟩)), .inl (strV (rdT ⟨26, sub, rd, rn, rm, ra, 2, imm2, amount, shift, cond, sys, flags, minus, not, link⟩)), .inl (strV (rnT ⟨26, sub, rd, rn, rm, ra, 2, imm2, amount, shift, cond, sys, flags, minus, not, link⟩)), .inl (strV (rmT ⟨26, sub, rd, rn, rm, ra, 2, imm2, amount, shift, cond, sys, flags, minus, not, link⟩))] (by kernel_rfl) (by kernel_rfl) (OneT.up _ _) HB.drew (by simp [upK]) ?_
    refine ⟨fun w1 hC _ => by go_simp; exact Below.refl _ _, ?_⟩
    simp only [Act.put, List.setIfInBounds_toArray, List.set_cons_succ, List.set_cons_zero]
    refine ⟨fun w1 hC _ => by have hq := hC.one.at 2 _ rfl; go_simp; exact Below.refl _ _, ?_⟩
    simp only [Act.put, List.setIfInBounds_toArray, List.set_cons_succ, List.set_cons_zero]
    refine ⟨fun w1 hC _ => rel_load_row 23 _ rfl w.heap.size (by go_simp) 23 (⟨26, sub, rd, rn, rm, ra, 2, imm2, amount, shift, cond, sys, flags, minus, not, link⟩ : Ins).cells (0, 0) _ hC.one.box Tryd.underlying23 rfl (by kernel_rfl), ?_⟩
    simp only [Act.put, List.setIfInBounds_toArray, List.set_cons_succ, List.set_cons_zero]
    refine ⟨fun w1 hC _ => ?_, ?_⟩
    · go_simp
      refine (stackRd_c ⟨26, sub, rd, rn, rm, ra, 2, imm2, amount, shift, cond, sys, flags, minus, not, link⟩ w1).mono ?_
      rintro e w2 ⟨rfl, rfl⟩
      exact ⟨rfl, below_alloc _ _⟩
    simp only [Act.put, List.setIfInBounds_toArray, List.set_cons_succ, List.set_cons_zero]
    refine ⟨fun w1 hC _ => ?_, ?_⟩
    · go_simp
      refine (name_c rd (spD ⟨26, sub, rd, rn, rm, ra, 2, imm2, amount, shift, cond, sys, flags, minus, not, link⟩) hr.d0 hr.d1 w1 hC.tab).mono ?_
      rintro e w2 ⟨rfl, hb⟩
      exact ⟨rfl, hb⟩
    simp only [Act.put, List.setIfInBounds_toArray, List.set_cons_succ, List.set_cons_zero]
    refine ⟨fun w1 hC _ => by go_simp; exact Below.refl _ _, ?_⟩
    simp only [Act.put, List.setIfInBounds_toArray, List.set_cons_succ, List.set_cons_zero]
    refine ⟨fun w1 hC _ => by have hq := hC.one.at 3 _ rfl; go_simp; exact Below.refl _ _, ?_⟩
    simp only [Act.put, List.setIfInBounds_toArray, List.set_cons_succ, List.set_cons_zero]
    refine ⟨fun w1 hC _ => rel_load_row 23 _ rfl w.heap.size (by go_simp) 23 (⟨26, sub, rd, rn, rm, ra, 2, imm2, amount, shift, cond, sys, flags, minus, not, link⟩ : Ins).cells (0, 0) _ hC.one.box Tryd.underlying23 rfl (by kernel_rfl), ?_⟩
    simp only [Act.put, List.setIfInBounds_toArray, List.set_cons_succ, List.set_cons_zero]
    refine ⟨fun w1 hC _ => ?_, ?_⟩
    · go_simp
      refine (stackRn_c ⟨26, sub, rd, rn, rm, ra, 2, imm2, amount, shift, cond, sys, flags, minus, not, link⟩ w1).mono ?_
      rintro e w2 ⟨rfl, rfl⟩
      exact ⟨rfl, below_alloc _ _⟩
    simp only [Act.put, List.setIfInBounds_toArray, List.set_cons_succ, List.set_cons_zero]
    refine ⟨fun w1 hC _ => ?_, ?_⟩
    · go_simp
      refine (name_c rn (spN ⟨26, sub, rd, rn, rm, ra, 2, imm2, amount, shift, cond, sys, flags, minus, not, link⟩) hr.n0 hr.n1 w1 hC.tab).mono ?_
      rintro e w2 ⟨rfl, hb⟩
      exact ⟨rfl, hb⟩
    simp only [Act.put, List.setIfInBounds_toArray, List.set_cons_succ, List.set_cons_zero]
    refine ⟨fun w1 hC _ => by go_simp; exact Below.refl _ _, ?_⟩
    simp only [Act.put, List.setIfInBounds_toArray, List.set_cons_succ, List.set_cons_zero]
    refine ⟨fun w1 hC _ => by have hq := hC.one.at 4 _ rfl; go_simp; exact Below.refl _ _, ?_⟩
    simp only [Act.put, List.setIfInBounds_toArray, List.set_cons_succ, List.set_cons_zero]
    refine ⟨fun w1 hC _ => ?_, ?_⟩
    · go_simp
      refine (name_c rm false hr.m0 hr.m1 w1 hC.tab).mono ?_
      rintro e w2 ⟨rfl, hb⟩
      exact ⟨rfl, hb⟩
    simp only [Act.put, List.setIfInBounds_toArray, List.set_cons_succ, List.set_cons_zero]
    refine ⟨fun w1 hC _ => by go_simp; exact Below.refl _ _, ?_⟩
    simp only [Act.put, List.setIfInBounds_toArray, List.set_cons_succ, List.set_cons_zero]
    refine ⟨fun w1 hC _ => by go_simp; exact Below.refl _ _, ?_⟩
    simp only [Act.put, List.setIfInBounds_toArray, List.set_cons_succ, List.set_cons_zero]
    refine ⟨fun w1 hC _ => by go_simp; exact Below.refl _ _, ?_⟩
    simp only [Act.put, List.setIfInBounds_toArray, List.set_cons_succ, List.set_cons_zero]
    clear HB
    intro w1 HB _
    have c0 := HB.one.at 0 _ rfl
    have c6 := HB.one.at 6 _ rfl
    repeat' (first | with_reducible refine then_exit ?_ | with_reducible refine then_normal ?_ | with_reducible refine inBlock_eq ?_ | with_reducible refine inBlock_ne rfl ?_ | with_reducible refine inBlock_normal ?_ | (go_at_call 46; refine (one_a _ _ _ _ _ _ (by decide) (by decide) rfl rfl).mono ?_; rintro e w' ⟨rfl, rfl⟩; dsimp only; have hb2 := below_alloc w1 (.cells #[strV [108, 100], strV [115, 116], strV [115, 121]] 9); replace HB := HB.grow hb2) | go_step)
    go_ret
    exact ⟨_, rfl, row_at _ [barT (2 - 1)] (by simp) _ HB.size _ (by simp), below_then HB.one.below (below_alloc _ _)⟩
  · have HB := oneT_start ⟨26, sub, rd, rn, rm, ra, 3, imm2, amount, shift, cond, sys, flags, minus, not, link⟩ w T
    go_enter Tryd.func23, Tryd.ntmps23
    repeat' (first | with_reducible refine then_exit ?_ | with_reducible refine then_normal ?_ | with_reducible refine inBlock_eq ?_ | with_reducible refine inBlock_ne rfl ?_ | with_reducible refine inBlock_normal ?_ | go_step)
    refine wp_region_rel Grows (fun x => OneT ⟨26, sub, rd, rn, rm, ra, 3, imm2, amount, shift, cond, sys, flags, minus, not, link⟩ w x) [.inl (.pointer (some ⟨w.heap.size, 2, none⟩)), .inl (vI rd), .inl (⟨26, sub, rd, rn, rm, ra, 3, imm2, amount, shift, cond, sys, flags, minus, not, link⟩ : Ins).val, .inl (.bool (spD ⟨26, sub, rd, rn, rm, ra, 3, imm2, amount, shift, cond, sys, flags, minus, not, link⟩)), .inl (strV (rdT ⟨26, sub, rd, rn, rm, ra, 3, imm2, amount, shift, cond, sys, flags, minus, not, link⟩)), .inl (.pointer (some ⟨w.heap.size, 3, none⟩)), .inl (vI rn), .inl (⟨26, sub, rd, rn, rm, ra, 3, imm2, amount, shift, cond, sys, flags, minus, not, link⟩ : Ins).val, .inl (.bool (spN ⟨26, sub, rd, rn, rm, ra, 3, imm2, amount, shift, cond, sys, flags, minus, not, link⟩)), .inl (strV (rnT ⟨26, sub, rd, rn, rm, ra, 3, imm2, amount, shift, cond, sys, flags, minus, not, link⟩)), .inl (.pointer (some ⟨w.heap.size, 4, none⟩)), .inl (vI rm), .inl (strV (rmT ⟨26, sub, rd, rn, rm, ra, 3, imm2, amount, shift, cond, sys, flags, minus, not, link⟩)), .inl (strV (rdT ⟨26, sub, rd, rn, rm, ra, 3, imm2, amount, shift, cond, sys, flags, minus, not, link⟩)), .inl (strV (rnT ⟨26, sub, rd, rn, rm, ra, 3, imm2, amount, shift, cond, sys, flags, minus, not, link⟩)), .inl (strV (rmT ⟨26, sub, rd, rn, rm, ra, 3, imm2, amount, shift, cond, sys, flags, minus, not, link⟩))] (by kernel_rfl) (by kernel_rfl) (OneT.up _ _) HB.drew (by simp [upK]) ?_
    refine ⟨fun w1 hC _ => by go_simp; exact Below.refl _ _, ?_⟩
    simp only [Act.put, List.setIfInBounds_toArray, List.set_cons_succ, List.set_cons_zero]
    refine ⟨fun w1 hC _ => by have hq := hC.one.at 2 _ rfl; go_simp; exact Below.refl _ _, ?_⟩
    simp only [Act.put, List.setIfInBounds_toArray, List.set_cons_succ, List.set_cons_zero]
    refine ⟨fun w1 hC _ => rel_load_row 23 _ rfl w.heap.size (by go_simp) 23 (⟨26, sub, rd, rn, rm, ra, 3, imm2, amount, shift, cond, sys, flags, minus, not, link⟩ : Ins).cells (0, 0) _ hC.one.box Tryd.underlying23 rfl (by kernel_rfl), ?_⟩
    simp only [Act.put, List.setIfInBounds_toArray, List.set_cons_succ, List.set_cons_zero]
    refine ⟨fun w1 hC _ => ?_, ?_⟩
    · go_simp
      refine (stackRd_c ⟨26, sub, rd, rn, rm, ra, 3, imm2, amount, shift, cond, sys, flags, minus, not, link⟩ w1).mono ?_
      rintro e w2 ⟨rfl, rfl⟩
      exact ⟨rfl, below_alloc _ _⟩
    simp only [Act.put, List.setIfInBounds_toArray, List.set_cons_succ, List.set_cons_zero]
    refine ⟨fun w1 hC _ => ?_, ?_⟩
    · go_simp
      refine (name_c rd (spD ⟨26, sub, rd, rn, rm, ra, 3, imm2, amount, shift, cond, sys, flags, minus, not, link⟩) hr.d0 hr.d1 w1 hC.tab).mono ?_
      rintro e w2 ⟨rfl, hb⟩
      exact ⟨rfl, hb⟩
    simp only [Act.put, List.setIfInBounds_toArray, List.set_cons_succ, List.set_cons_zero]
    refine ⟨fun w1 hC _ => by go_simp; exact Below.refl _ _, ?_⟩
    simp only [Act.put, List.setIfInBounds_toArray, List.set_cons_succ, List.set_cons_zero]
    refine ⟨fun w1 hC _ => by have hq := hC.one.at 3 _ rfl; go_simp; exact Below.refl _ _, ?_⟩
    simp only [Act.put, List.setIfInBounds_toArray, List.set_cons_succ, List.set_cons_zero]
    refine ⟨fun w1 hC _ => rel_load_row 23 _ rfl w.heap.size (by go_simp) 23 (⟨26, sub, rd, rn, rm, ra, 3, imm2, amount, shift, cond, sys, flags, minus, not, link⟩ : Ins).cells (0, 0) _ hC.one.box Tryd.underlying23 rfl (by kernel_rfl), ?_⟩
    simp only [Act.put, List.setIfInBounds_toArray, List.set_cons_succ, List.set_cons_zero]
    refine ⟨fun w1 hC _ => ?_, ?_⟩
    · go_simp
      refine (stackRn_c ⟨26, sub, rd, rn, rm, ra, 3, imm2, amount, shift, cond, sys, flags, minus, not, link⟩ w1).mono ?_
      rintro e w2 ⟨rfl, rfl⟩
      exact ⟨rfl, below_alloc _ _⟩
    simp only [Act.put, List.setIfInBounds_toArray, List.set_cons_succ, List.set_cons_zero]
    refine ⟨fun w1 hC _ => ?_, ?_⟩
    · go_simp
      refine (name_c rn (spN ⟨26, sub, rd, rn, rm, ra, 3, imm2, amount, shift, cond, sys, flags, minus, not, link⟩) hr.n0 hr.n1 w1 hC.tab).mono ?_
      rintro e w2 ⟨rfl, hb⟩
      exact ⟨rfl, hb⟩
    simp only [Act.put, List.setIfInBounds_toArray, List.set_cons_succ, List.set_cons_zero]
    refine ⟨fun w1 hC _ => by go_simp; exact Below.refl _ _, ?_⟩
    simp only [Act.put, List.setIfInBounds_toArray, List.set_cons_succ, List.set_cons_zero]
    refine ⟨fun w1 hC _ => by have hq := hC.one.at 4 _ rfl; go_simp; exact Below.refl _ _, ?_⟩
    simp only [Act.put, List.setIfInBounds_toArray, List.set_cons_succ, List.set_cons_zero]
    refine ⟨fun w1 hC _ => ?_, ?_⟩
    · go_simp
      refine (name_c rm false hr.m0 hr.m1 w1 hC.tab).mono ?_
      rintro e w2 ⟨rfl, hb⟩
      exact ⟨rfl, hb⟩
    simp only [Act.put, List.setIfInBounds_toArray, List.set_cons_succ, List.set_cons_zero]
    refine ⟨fun w1 hC _ => by go_simp; exact Below.refl _ _, ?_⟩
    simp only [Act.put, List.setIfInBounds_toArray, List.set_cons_succ, List.set_cons_zero]
    refine ⟨fun w1 hC _ => by go_simp; exact Below.refl _ _, ?_⟩
    simp only [Act.put, List.setIfInBounds_toArray, List.set_cons_succ, List.set_cons_zero]
    refine ⟨fun w1 hC _ => by go_simp; exact Below.refl _ _, ?_⟩
    simp only [Act.put, List.setIfInBounds_toArray, List.set_cons_succ, List.set_cons_zero]
    clear HB
    intro w1 HB _
    have c0 := HB.one.at 0 _ rfl
    have c6 := HB.one.at 6 _ rfl
    repeat' (first | with_reducible refine then_exit ?_ | with_reducible refine then_normal ?_ | with_reducible refine inBlock_eq ?_ | with_reducible refine inBlock_ne rfl ?_ | with_reducible refine inBlock_normal ?_ | (go_at_call 46; refine (one_a _ _ _ _ _ _ (by decide) (by decide) rfl rfl).mono ?_; rintro e w' ⟨rfl, rfl⟩; dsimp only; have hb2 := below_alloc w1 (.cells #[strV [108, 100], strV [115, 116], strV [115, 121]] 9); replace HB := HB.grow hb2) | go_step)
    go_ret
    exact ⟨_, rfl, row_at _ [barT (3 - 1)] (by simp) _ HB.size _ (by simp), below_then HB.one.below (below_alloc _ _)⟩

set_option maxRecDepth 8000 in
set_option maxHeartbeats 8000000 in
theorem parts28 (sub rd rn rm ra imm imm2 amount shift cond sys : Int) (flags minus not link : Bool) (hr : InR ⟨28, sub, rd, rn, rm, ra, imm, imm2, amount, shift, cond, sys, flags, minus, not, link⟩) (w : World) (T : Tab w) : Calls Tryd.prog 23 #[(⟨28, sub, rd, rn, rm, ra, imm, imm2, amount, shift, cond, sys, flags, minus, not, link⟩ : Ins).val] w fun e w' => ∃ v, e = .returned v ∧ RowT w.heap.size ([rdT ⟨28, sub, rd, rn, rm, ra, imm, imm2, amount, shift, cond, sys, flags, minus, not, link⟩]) v w' ∧ Below w.heap.size w w' := by
  have HB := oneT_start ⟨28, sub, rd, rn, rm, ra, imm, imm2, amount, shift, cond, sys, flags, minus, not, link⟩ w T
  go_enter Tryd.func23, Tryd.ntmps23
  repeat' (first | with_reducible refine then_exit ?_ | with_reducible refine then_normal ?_ | with_reducible refine inBlock_eq ?_ | with_reducible refine inBlock_ne rfl ?_ | with_reducible refine inBlock_normal ?_ | go_step)
  refine wp_region_rel Grows (fun x => OneT ⟨28, sub, rd, rn, rm, ra, imm, imm2, amount, shift, cond, sys, flags, minus, not, link⟩ w x) [.inl (.pointer (some ⟨w.heap.size, 2, none⟩)), .inl (vI rd), .inl (⟨28, sub, rd, rn, rm, ra, imm, imm2, amount, shift, cond, sys, flags, minus, not, link⟩ : Ins).val, .inl (.bool (spD ⟨28, sub, rd, rn, rm, ra, imm, imm2, amount, shift, cond, sys, flags, minus, not, link⟩)), .inl (strV (rdT ⟨28, sub, rd, rn, rm, ra, imm, imm2, amount, shift, cond, sys, flags, minus, not, link⟩)), .inl (.pointer (some ⟨w.heap.size, 3, none⟩)), .inl (vI rn), .inl (⟨28, sub, rd, rn, rm, ra, imm, imm2, amount, shift, cond, sys, flags, minus, not, link⟩ : Ins).val, .inl (.bool (spN ⟨28, sub, rd, rn, rm, ra, imm, imm2, amount, shift, cond, sys, flags, minus, not, link⟩)), .inl (strV (rnT ⟨28, sub, rd, rn, rm, ra, imm, imm2, amount, shift, cond, sys, flags, minus, not, link⟩)), .inl (.pointer (some ⟨w.heap.size, 4, none⟩)), .inl (vI rm), .inl (strV (rmT ⟨28, sub, rd, rn, rm, ra, imm, imm2, amount, shift, cond, sys, flags, minus, not, link⟩)), .inl (strV (rdT ⟨28, sub, rd, rn, rm, ra, imm, imm2, amount, shift, cond, sys, flags, minus, not, link⟩)), .inl (strV (rnT ⟨28, sub, rd, rn, rm, ra, imm, imm2, amount, shift, cond, sys, flags, minus, not, link⟩)), .inl (strV (rmT ⟨28, sub, rd, rn, rm, ra, imm, imm2, amount, shift, cond, sys, flags, minus, not, link⟩))] (by kernel_rfl) (by kernel_rfl) (OneT.up _ _) HB.drew (by simp [upK]) ?_
  refine ⟨fun w1 hC _ => by go_simp; exact Below.refl _ _, ?_⟩
  simp only [Act.put, List.setIfInBounds_toArray, List.set_cons_succ, List.set_cons_zero]
  refine ⟨fun w1 hC _ => by have hq := hC.one.at 2 _ rfl; go_simp; exact Below.refl _ _, ?_⟩
  simp only [Act.put, List.setIfInBounds_toArray, List.set_cons_succ, List.set_cons_zero]
  refine ⟨fun w1 hC _ => rel_load_row 23 _ rfl w.heap.size (by go_simp) 23 (⟨28, sub, rd, rn, rm, ra, imm, imm2, amount, shift, cond, sys, flags, minus, not, link⟩ : Ins).cells (0, 0) _ hC.one.box Tryd.underlying23 rfl (by kernel_rfl), ?_⟩
  simp only [Act.put, List.setIfInBounds_toArray, List.set_cons_succ, List.set_cons_zero]
  refine ⟨fun w1 hC _ => ?_, ?_⟩
  · go_simp
    refine (stackRd_c ⟨28, sub, rd, rn, rm, ra, imm, imm2, amount, shift, cond, sys, flags, minus, not, link⟩ w1).mono ?_
    rintro e w2 ⟨rfl, rfl⟩
    exact ⟨rfl, below_alloc _ _⟩
  simp only [Act.put, List.setIfInBounds_toArray, List.set_cons_succ, List.set_cons_zero]
  refine ⟨fun w1 hC _ => ?_, ?_⟩
  · go_simp
    refine (name_c rd (spD ⟨28, sub, rd, rn, rm, ra, imm, imm2, amount, shift, cond, sys, flags, minus, not, link⟩) hr.d0 hr.d1 w1 hC.tab).mono ?_
    rintro e w2 ⟨rfl, hb⟩
    exact ⟨rfl, hb⟩
  simp only [Act.put, List.setIfInBounds_toArray, List.set_cons_succ, List.set_cons_zero]
  refine ⟨fun w1 hC _ => by go_simp; exact Below.refl _ _, ?_⟩
  simp only [Act.put, List.setIfInBounds_toArray, List.set_cons_succ, List.set_cons_zero]
  refine ⟨fun w1 hC _ => by have hq := hC.one.at 3 _ rfl; go_simp; exact Below.refl _ _, ?_⟩
  simp only [Act.put, List.setIfInBounds_toArray, List.set_cons_succ, List.set_cons_zero]
  refine ⟨fun w1 hC _ => rel_load_row 23 _ rfl w.heap.size (by go_simp) 23 (⟨28, sub, rd, rn, rm, ra, imm, imm2, amount, shift, cond, sys, flags, minus, not, link⟩ : Ins).cells (0, 0) _ hC.one.box Tryd.underlying23 rfl (by kernel_rfl), ?_⟩
  simp only [Act.put, List.setIfInBounds_toArray, List.set_cons_succ, List.set_cons_zero]
  refine ⟨fun w1 hC _ => ?_, ?_⟩
  · go_simp
    refine (stackRn_c ⟨28, sub, rd, rn, rm, ra, imm, imm2, amount, shift, cond, sys, flags, minus, not, link⟩ w1).mono ?_
    rintro e w2 ⟨rfl, rfl⟩
    exact ⟨rfl, below_alloc _ _⟩
  simp only [Act.put, List.setIfInBounds_toArray, List.set_cons_succ, List.set_cons_zero]
  refine ⟨fun w1 hC _ => ?_, ?_⟩
  · go_simp
    refine (name_c rn (spN ⟨28, sub, rd, rn, rm, ra, imm, imm2, amount, shift, cond, sys, flags, minus, not, link⟩) hr.n0 hr.n1 w1 hC.tab).mono ?_
    rintro e w2 ⟨rfl, hb⟩
    exact ⟨rfl, hb⟩
  simp only [Act.put, List.setIfInBounds_toArray, List.set_cons_succ, List.set_cons_zero]
  refine ⟨fun w1 hC _ => by go_simp; exact Below.refl _ _, ?_⟩
  simp only [Act.put, List.setIfInBounds_toArray, List.set_cons_succ, List.set_cons_zero]
  refine ⟨fun w1 hC _ => by have hq := hC.one.at 4 _ rfl; go_simp; exact Below.refl _ _, ?_⟩
  simp only [Act.put, List.setIfInBounds_toArray, List.set_cons_succ, List.set_cons_zero]
  refine ⟨fun w1 hC _ => ?_, ?_⟩
  · go_simp
    refine (name_c rm false hr.m0 hr.m1 w1 hC.tab).mono ?_
    rintro e w2 ⟨rfl, hb⟩
    exact ⟨rfl, hb⟩
  simp only [Act.put, List.setIfInBounds_toArray, List.set_cons_succ, List.set_cons_zero]
  refine ⟨fun w1 hC _ => by go_simp; exact Below.refl _ _, ?_⟩
  simp only [Act.put, List.setIfInBounds_toArray, List.set_cons_succ, List.set_cons_zero]
  refine ⟨fun w1 hC _ => by go_simp; exact Below.refl _ _, ?_⟩
  simp only [Act.put, List.setIfInBounds_toArray, List.set_cons_succ, List.set_cons_zero]
  refine ⟨fun w1 hC _ => by go_simp; exact Below.refl _ _, ?_⟩
  simp only [Act.put, List.setIfInBounds_toArray, List.set_cons_succ, List.set_cons_zero]
  clear HB
  intro w1 HB _
  have c0 := HB.one.at 0 _ rfl
  repeat' (first | with_reducible refine then_exit ?_ | with_reducible refine then_normal ?_ | with_reducible refine inBlock_eq ?_ | with_reducible refine inBlock_ne rfl ?_ | with_reducible refine inBlock_normal ?_ | go_step)
  go_ret
  exact ⟨_, rfl, row_new _ [rdT ⟨28, sub, rd, rn, rm, ra, imm, imm2, amount, shift, cond, sys, flags, minus, not, link⟩] (by simp) _ HB.size, below_then HB.one.below (below_alloc _ _)⟩

set_option maxRecDepth 8000 in
set_option maxHeartbeats 8000000 in
theorem parts30 (sub rd rn rm ra imm imm2 amount shift cond sys : Int) (flags minus not link : Bool) (hr : InR ⟨30, sub, rd, rn, rm, ra, imm, imm2, amount, shift, cond, sys, flags, minus, not, link⟩) (w : World) (T : Tab w) : Calls Tryd.prog 23 #[(⟨30, sub, rd, rn, rm, ra, imm, imm2, amount, shift, cond, sys, flags, minus, not, link⟩ : Ins).val] w fun e w' => ∃ v, e = .returned v ∧ RowT w.heap.size ([rdT ⟨30, sub, rd, rn, rm, ra, imm, imm2, amount, shift, cond, sys, flags, minus, not, link⟩]) v w' ∧ Below w.heap.size w w' := by
  have HB := oneT_start ⟨30, sub, rd, rn, rm, ra, imm, imm2, amount, shift, cond, sys, flags, minus, not, link⟩ w T
  go_enter Tryd.func23, Tryd.ntmps23
  repeat' (first | with_reducible refine then_exit ?_ | with_reducible refine then_normal ?_ | with_reducible refine inBlock_eq ?_ | with_reducible refine inBlock_ne rfl ?_ | with_reducible refine inBlock_normal ?_ | go_step)
  refine wp_region_rel Grows (fun x => OneT ⟨30, sub, rd, rn, rm, ra, imm, imm2, amount, shift, cond, sys, flags, minus, not, link⟩ w x) [.inl (.pointer (some ⟨w.heap.size, 2, none⟩)), .inl (vI rd), .inl (⟨30, sub, rd, rn, rm, ra, imm, imm2, amount, shift, cond, sys, flags, minus, not, link⟩ : Ins).val, .inl (.bool (spD ⟨30, sub, rd, rn, rm, ra, imm, imm2, amount, shift, cond, sys, flags, minus, not, link⟩)), .inl (strV (rdT ⟨30, sub, rd, rn, rm, ra, imm, imm2, amount, shift, cond, sys, flags, minus, not, link⟩)), .inl (.pointer (some ⟨w.heap.size, 3, none⟩)), .inl (vI rn), .inl (⟨30, sub, rd, rn, rm, ra, imm, imm2, amount, shift, cond, sys, flags, minus, not, link⟩ : Ins).val, .inl (.bool (spN ⟨30, sub, rd, rn, rm, ra, imm, imm2, amount, shift, cond, sys, flags, minus, not, link⟩)), .inl (strV (rnT ⟨30, sub, rd, rn, rm, ra, imm, imm2, amount, shift, cond, sys, flags, minus, not, link⟩)), .inl (.pointer (some ⟨w.heap.size, 4, none⟩)), .inl (vI rm), .inl (strV (rmT ⟨30, sub, rd, rn, rm, ra, imm, imm2, amount, shift, cond, sys, flags, minus, not, link⟩)), .inl (strV (rdT ⟨30, sub, rd, rn, rm, ra, imm, imm2, amount, shift, cond, sys, flags, minus, not, link⟩)), .inl (strV (rnT ⟨30, sub, rd, rn, rm, ra, imm, imm2, amount, shift, cond, sys, flags, minus, not, link⟩)), .inl (strV (rmT ⟨30, sub, rd, rn, rm, ra, imm, imm2, amount, shift, cond, sys, flags, minus, not, link⟩))] (by kernel_rfl) (by kernel_rfl) (OneT.up _ _) HB.drew (by simp [upK]) ?_
  refine ⟨fun w1 hC _ => by go_simp; exact Below.refl _ _, ?_⟩
  simp only [Act.put, List.setIfInBounds_toArray, List.set_cons_succ, List.set_cons_zero]
  refine ⟨fun w1 hC _ => by have hq := hC.one.at 2 _ rfl; go_simp; exact Below.refl _ _, ?_⟩
  simp only [Act.put, List.setIfInBounds_toArray, List.set_cons_succ, List.set_cons_zero]
  refine ⟨fun w1 hC _ => rel_load_row 23 _ rfl w.heap.size (by go_simp) 23 (⟨30, sub, rd, rn, rm, ra, imm, imm2, amount, shift, cond, sys, flags, minus, not, link⟩ : Ins).cells (0, 0) _ hC.one.box Tryd.underlying23 rfl (by kernel_rfl), ?_⟩
  simp only [Act.put, List.setIfInBounds_toArray, List.set_cons_succ, List.set_cons_zero]
  refine ⟨fun w1 hC _ => ?_, ?_⟩
  · go_simp
    refine (stackRd_c ⟨30, sub, rd, rn, rm, ra, imm, imm2, amount, shift, cond, sys, flags, minus, not, link⟩ w1).mono ?_
    rintro e w2 ⟨rfl, rfl⟩
    exact ⟨rfl, below_alloc _ _⟩
  simp only [Act.put, List.setIfInBounds_toArray, List.set_cons_succ, List.set_cons_zero]
  refine ⟨fun w1 hC _ => ?_, ?_⟩
  · go_simp
    refine (name_c rd (spD ⟨30, sub, rd, rn, rm, ra, imm, imm2, amount, shift, cond, sys, flags, minus, not, link⟩) hr.d0 hr.d1 w1 hC.tab).mono ?_
    rintro e w2 ⟨rfl, hb⟩
    exact ⟨rfl, hb⟩
  simp only [Act.put, List.setIfInBounds_toArray, List.set_cons_succ, List.set_cons_zero]
  refine ⟨fun w1 hC _ => by go_simp; exact Below.refl _ _, ?_⟩
  simp only [Act.put, List.setIfInBounds_toArray, List.set_cons_succ, List.set_cons_zero]
  refine ⟨fun w1 hC _ => by have hq := hC.one.at 3 _ rfl; go_simp; exact Below.refl _ _, ?_⟩
  simp only [Act.put, List.setIfInBounds_toArray, List.set_cons_succ, List.set_cons_zero]
  refine ⟨fun w1 hC _ => rel_load_row 23 _ rfl w.heap.size (by go_simp) 23 (⟨30, sub, rd, rn, rm, ra, imm, imm2, amount, shift, cond, sys, flags, minus, not, link⟩ : Ins).cells (0, 0) _ hC.one.box Tryd.underlying23 rfl (by kernel_rfl), ?_⟩
  simp only [Act.put, List.setIfInBounds_toArray, List.set_cons_succ, List.set_cons_zero]
  refine ⟨fun w1 hC _ => ?_, ?_⟩
  · go_simp
    refine (stackRn_c ⟨30, sub, rd, rn, rm, ra, imm, imm2, amount, shift, cond, sys, flags, minus, not, link⟩ w1).mono ?_
    rintro e w2 ⟨rfl, rfl⟩
    exact ⟨rfl, below_alloc _ _⟩
  simp only [Act.put, List.setIfInBounds_toArray, List.set_cons_succ, List.set_cons_zero]
  refine ⟨fun w1 hC _ => ?_, ?_⟩
  · go_simp
    refine (name_c rn (spN ⟨30, sub, rd, rn, rm, ra, imm, imm2, amount, shift, cond, sys, flags, minus, not, link⟩) hr.n0 hr.n1 w1 hC.tab).mono ?_
    rintro e w2 ⟨rfl, hb⟩
    exact ⟨rfl, hb⟩
  simp only [Act.put, List.setIfInBounds_toArray, List.set_cons_succ, List.set_cons_zero]
  refine ⟨fun w1 hC _ => by go_simp; exact Below.refl _ _, ?_⟩
  simp only [Act.put, List.setIfInBounds_toArray, List.set_cons_succ, List.set_cons_zero]
  refine ⟨fun w1 hC _ => by have hq := hC.one.at 4 _ rfl; go_simp; exact Below.refl _ _, ?_⟩
  simp only [Act.put, List.setIfInBounds_toArray, List.set_cons_succ, List.set_cons_zero]
  refine ⟨fun w1 hC _ => ?_, ?_⟩
  · go_simp
    refine (name_c rm false hr.m0 hr.m1 w1 hC.tab).mono ?_
    rintro e w2 ⟨rfl, hb⟩
    exact ⟨rfl, hb⟩
  simp only [Act.put, List.setIfInBounds_toArray, List.set_cons_succ, List.set_cons_zero]
  refine ⟨fun w1 hC _ => by go_simp; exact Below.refl _ _, ?_⟩
  simp only [Act.put, List.setIfInBounds_toArray, List.set_cons_succ, List.set_cons_zero]
  refine ⟨fun w1 hC _ => by go_simp; exact Below.refl _ _, ?_⟩
  simp only [Act.put, List.setIfInBounds_toArray, List.set_cons_succ, List.set_cons_zero]
  refine ⟨fun w1 hC _ => by go_simp; exact Below.refl _ _, ?_⟩
  simp only [Act.put, List.setIfInBounds_toArray, List.set_cons_succ, List.set_cons_zero]
  clear HB
  intro w1 HB _
  have c0 := HB.one.at 0 _ rfl
  repeat' (first | with_reducible refine then_exit ?_ | with_reducible refine then_normal ?_ | with_reducible refine inBlock_eq ?_ | with_reducible refine inBlock_ne rfl ?_ | with_reducible refine inBlock_normal ?_ | go_step)
  go_ret
  exact ⟨_, rfl, row_new _ [rdT ⟨30, sub, rd, rn, rm, ra, imm, imm2, amount, shift, cond, sys, flags, minus, not, link⟩] (by simp) _ HB.size, below_then HB.one.below (below_alloc _ _)⟩

set_option maxRecDepth 8000 in
set_option maxHeartbeats 8000000 in
theorem parts31 (sub rd rn rm ra imm imm2 amount shift cond sys : Int) (flags minus not link : Bool) (hr : InR ⟨31, sub, rd, rn, rm, ra, imm, imm2, amount, shift, cond, sys, flags, minus, not, link⟩) (HN : Num ⟨31, sub, rd, rn, rm, ra, imm, imm2, amount, shift, cond, sys, flags, minus, not, link⟩) (w : World) (T : Tab w) : Calls Tryd.prog 23 #[(⟨31, sub, rd, rn, rm, ra, imm, imm2, amount, shift, cond, sys, flags, minus, not, link⟩ : Ins).val] w fun e w' => ∃ v, e = .returned v ∧ RowT w.heap.size ([rdT ⟨31, sub, rd, rn, rm, ra, imm, imm2, amount, shift, cond, sys, flags, minus, not, link⟩, numT sys]) v w' ∧ Below w.heap.size w w' := by
  have HB := oneT_start ⟨31, sub, rd, rn, rm, ra, imm, imm2, amount, shift, cond, sys, flags, minus, not, link⟩ w T
  go_enter Tryd.func23, Tryd.ntmps23
  repeat' (first | with_reducible refine then_exit ?_ | with_reducible refine then_normal ?_ | with_reducible refine inBlock_eq ?_ | with_reducible refine inBlock_ne rfl ?_ | with_reducible refine inBlock_normal ?_ | go_step)
  refine wp_region_rel Grows (fun x => OneT ⟨31, sub, rd, rn, rm, ra, imm, imm2, amount, shift, cond, sys, flags, minus, not, link⟩ w x) [.inl (.pointer (some ⟨w.heap.size, 2, none⟩)), .inl (vI rd), .inl (⟨31, sub, rd, rn, rm, ra, imm, imm2, amount, shift, cond, sys, flags, minus, not, link⟩ : Ins).val, .inl (.bool (spD ⟨31, sub, rd, rn, rm, ra, imm, imm2, amount, shift, cond, sys, flags, minus, not, link⟩)), .inl (strV (rdT ⟨31, sub, rd, rn, rm, ra, imm, imm2, amount, shift, cond, sys, flags, minus, not, link⟩)), .inl (.pointer (some ⟨w.heap.size, 3, none⟩)), .inl (vI rn), .inl (⟨31, sub, rd, rn, rm, ra, imm, imm2, amount, shift, cond, sys, flags, minus, not, link⟩ : Ins).val, .inl (.bool (spN ⟨31, sub, rd, rn, rm, ra, imm, imm2, amount, shift, cond, sys, flags, minus, not, link⟩)), .inl (strV (rnT ⟨31, sub, rd, rn, rm, ra, imm, imm2, amount, shift, cond, sys, flags, minus, not, link⟩)), .inl (.pointer (some ⟨w.heap.size, 4, none⟩)), .inl (vI rm), .inl (strV (rmT ⟨31, sub, rd, rn, rm, ra, imm, imm2, amount, shift, cond, sys, flags, minus, not, link⟩)), .inl (strV (rdT ⟨31, sub, rd, rn, rm, ra, imm, imm2, amount, shift, cond, sys, flags, minus, not, link⟩)), .inl (strV (rnT ⟨31, sub, rd, rn, rm, ra, imm, imm2, amount, shift, cond, sys, flags, minus, not, link⟩)), .inl (strV (rmT ⟨31, sub, rd, rn, rm, ra, imm, imm2, amount, shift, cond, sys, flags, minus, not, link⟩))] (by kernel_rfl) (by kernel_rfl) (OneT.up _ _) HB.drew (by simp [upK]) ?_
  refine ⟨fun w1 hC _ => by go_simp; exact Below.refl _ _, ?_⟩
  simp only [Act.put, List.setIfInBounds_toArray, List.set_cons_succ, List.set_cons_zero]
  refine ⟨fun w1 hC _ => by have hq := hC.one.at 2 _ rfl; go_simp; exact Below.refl _ _, ?_⟩
  simp only [Act.put, List.setIfInBounds_toArray, List.set_cons_succ, List.set_cons_zero]
  refine ⟨fun w1 hC _ => rel_load_row 23 _ rfl w.heap.size (by go_simp) 23 (⟨31, sub, rd, rn, rm, ra, imm, imm2, amount, shift, cond, sys, flags, minus, not, link⟩ : Ins).cells (0, 0) _ hC.one.box Tryd.underlying23 rfl (by kernel_rfl), ?_⟩
  simp only [Act.put, List.setIfInBounds_toArray, List.set_cons_succ, List.set_cons_zero]
  refine ⟨fun w1 hC _ => ?_, ?_⟩
  · go_simp
    refine (stackRd_c ⟨31, sub, rd, rn, rm, ra, imm, imm2, amount, shift, cond, sys, flags, minus, not, link⟩ w1).mono ?_
    rintro e w2 ⟨rfl, rfl⟩
    exact ⟨rfl, below_alloc _ _⟩
  simp only [Act.put, List.setIfInBounds_toArray, List.set_cons_succ, List.set_cons_zero]
  refine ⟨fun w1 hC _ => ?_, ?_⟩
  · go_simp
    refine (name_c rd (spD ⟨31, sub, rd, rn, rm, ra, imm, imm2, amount, shift, cond, sys, flags, minus, not, link⟩) hr.d0 hr.d1 w1 hC.tab).mono ?_
    rintro e w2 ⟨rfl, hb⟩
    exact ⟨rfl, hb⟩
  simp only [Act.put, List.setIfInBounds_toArray, List.set_cons_succ, List.set_cons_zero]
  refine ⟨fun w1 hC _ => by go_simp; exact Below.refl _ _, ?_⟩
  simp only [Act.put, List.setIfInBounds_toArray, List.set_cons_succ, List.set_cons_zero]
  refine ⟨fun w1 hC _ => by have hq := hC.one.at 3 _ rfl; go_simp; exact Below.refl _ _, ?_⟩
  simp only [Act.put, List.setIfInBounds_toArray, List.set_cons_succ, List.set_cons_zero]
  refine ⟨fun w1 hC _ => rel_load_row 23 _ rfl w.heap.size (by go_simp) 23 (⟨31, sub, rd, rn, rm, ra, imm, imm2, amount, shift, cond, sys, flags, minus, not, link⟩ : Ins).cells (0, 0) _ hC.one.box Tryd.underlying23 rfl (by kernel_rfl), ?_⟩
  simp only [Act.put, List.setIfInBounds_toArray, List.set_cons_succ, List.set_cons_zero]
  refine ⟨fun w1 hC _ => ?_, ?_⟩
  · go_simp
    refine (stackRn_c ⟨31, sub, rd, rn, rm, ra, imm, imm2, amount, shift, cond, sys, flags, minus, not, link⟩ w1).mono ?_
    rintro e w2 ⟨rfl, rfl⟩
    exact ⟨rfl, below_alloc _ _⟩
  simp only [Act.put, List.setIfInBounds_toArray, List.set_cons_succ, List.set_cons_zero]
  refine ⟨fun w1 hC _ => ?_, ?_⟩
  · go_simp
    refine (name_c rn (spN ⟨31, sub, rd, rn, rm, ra, imm, imm2, amount, shift, cond, sys, flags, minus, not, link⟩) hr.n0 hr.n1 w1 hC.tab).mono ?_
    rintro e w2 ⟨rfl, hb⟩
    exact ⟨rfl, hb⟩
  simp only [Act.put, List.setIfInBounds_toArray, List.set_cons_succ, List.set_cons_zero]
  refine ⟨fun w1 hC _ => by go_simp; exact Below.refl _ _, ?_⟩
  simp only [Act.put, List.setIfInBounds_toArray, List.set_cons_succ, List.set_cons_zero]
  refine ⟨fun w1 hC _ => by have hq := hC.one.at 4 _ rfl; go_simp; exact Below.refl _ _, ?_⟩
  simp only [Act.put, List.setIfInBounds_toArray, List.set_cons_succ, List.set_cons_zero]
  refine ⟨fun w1 hC _ => ?_, ?_⟩
  · go_simp
    refine (name_c rm false hr.m0 hr.m1 w1 hC.tab).mono ?_
    rintro e w2 ⟨rfl, hb⟩
    exact ⟨rfl, hb⟩
  simp only [Act.put, List.setIfInBounds_toArray, List.set_cons_succ, List.set_cons_zero]
  refine ⟨fun w1 hC _ => by go_simp; exact Below.refl _ _, ?_⟩
  simp only [Act.put, List.setIfInBounds_toArray, List.set_cons_succ, List.set_cons_zero]
  refine ⟨fun w1 hC _ => by go_simp; exact Below.refl _ _, ?_⟩
  simp only [Act.put, List.setIfInBounds_toArray, List.set_cons_succ, List.set_cons_zero]
  refine ⟨fun w1 hC _ => by go_simp; exact Below.refl _ _, ?_⟩
  simp only [Act.put, List.setIfInBounds_toArray, List.set_cons_succ, List.set_cons_zero]
  clear HB
  intro w1 HB _
  have c0 := HB.one.at 0 _ rfl
  have c11 := HB.one.at 11 _ rfl
  repeat' (first | with_reducible refine then_exit ?_ | with_reducible refine then_normal ?_ | with_reducible refine inBlock_eq ?_ | with_reducible refine inBlock_ne rfl ?_ | with_reducible refine inBlock_normal ?_ | (go_at_call 40; refine (number_c sys HN.y0 HN.y1 _ HB.tab).mono ?_; rintro e w' ⟨rfl, hb⟩; dsimp only; replace HB := HB.grow hb; clear hb) | go_step)
  go_ret
  exact ⟨_, rfl, row_new _ [rdT ⟨31, sub, rd, rn, rm, ra, imm, imm2, amount, shift, cond, sys, flags, minus, not, link⟩, numT sys] (by simp) _ HB.size, below_then HB.one.below (below_alloc _ _)⟩

set_option maxRecDepth 8000 in
set_option maxHeartbeats 8000000 in
theorem parts32 (sub rd rn rm ra imm imm2 amount shift cond sys : Int) (flags minus not link : Bool) (hr : InR ⟨32, sub, rd, rn, rm, ra, imm, imm2, amount, shift, cond, sys, flags, minus, not, link⟩) (HN : Num ⟨32, sub, rd, rn, rm, ra, imm, imm2, amount, shift, cond, sys, flags, minus, not, link⟩) (w : World) (T : Tab w) : Calls Tryd.prog 23 #[(⟨32, sub, rd, rn, rm, ra, imm, imm2, amount, shift, cond, sys, flags, minus, not, link⟩ : Ins).val] w fun e w' => ∃ v, e = .returned v ∧ RowT w.heap.size ([numT sys, rdT ⟨32, sub, rd, rn, rm, ra, imm, imm2, amount, shift, cond, sys, flags, minus, not, link⟩]) v w' ∧ Below w.heap.size w w' := by
  have HB := oneT_start ⟨32, sub, rd, rn, rm, ra, imm, imm2, amount, shift, cond, sys, flags, minus, not, link⟩ w T
  go_enter Tryd.func23, Tryd.ntmps23
  repeat' (first | with_reducible refine then_exit ?_ | with_reducible refine then_normal ?_ | with_reducible refine inBlock_eq ?_ | with_reducible refine inBlock_ne rfl ?_ | with_reducible refine inBlock_normal ?_ | go_step)
  refine wp_region_rel Grows (fun x => OneT ⟨32, sub, rd, rn, rm, ra, imm, imm2, amount, shift, cond, sys, flags, minus, not, link⟩ w x) [.inl (.pointer (some ⟨w.heap.size, 2, none⟩)), .inl (vI rd), .inl (⟨32, sub, rd, rn, rm, ra, imm, imm2, amount, shift, cond, sys, flags, minus, not, link⟩ : Ins).val, .inl (.bool (spD ⟨32, sub, rd, rn, rm, ra, imm, imm2, amount, shift, cond, sys, flags, minus, not, link⟩)), .inl (strV (rdT ⟨32, sub, rd, rn, rm, ra, imm, imm2, amount, shift, cond, sys, flags, minus, not, link⟩)), .inl (.pointer (some ⟨w.heap.size, 3, none⟩)), .inl (vI rn), .inl (⟨32, sub, rd, rn, rm, ra, imm, imm2, amount, shift, cond, sys, flags, minus, not, link⟩ : Ins).val, .inl (.bool (spN ⟨32, sub, rd, rn, rm, ra, imm, imm2, amount, shift, cond, sys, flags, minus, not, link⟩)), .inl (strV (rnT ⟨32, sub, rd, rn, rm, ra, imm, imm2, amount, shift, cond, sys, flags, minus, not, link⟩)), .inl (.pointer (some ⟨w.heap.size, 4, none⟩)), .inl (vI rm), .inl (strV (rmT ⟨32, sub, rd, rn, rm, ra, imm, imm2, amount, shift, cond, sys, flags, minus, not, link⟩)), .inl (strV (rdT ⟨32, sub, rd, rn, rm, ra, imm, imm2, amount, shift, cond, sys, flags, minus, not, link⟩)), .inl (strV (rnT ⟨32, sub, rd, rn, rm, ra, imm, imm2, amount, shift, cond, sys, flags, minus, not, link⟩)), .inl (strV (rmT ⟨32, sub, rd, rn, rm, ra, imm, imm2, amount, shift, cond, sys, flags, minus, not, link⟩))] (by kernel_rfl) (by kernel_rfl) (OneT.up _ _) HB.drew (by simp [upK]) ?_
  refine ⟨fun w1 hC _ => by go_simp; exact Below.refl _ _, ?_⟩
  simp only [Act.put, List.setIfInBounds_toArray, List.set_cons_succ, List.set_cons_zero]
  refine ⟨fun w1 hC _ => by have hq := hC.one.at 2 _ rfl; go_simp; exact Below.refl _ _, ?_⟩
  simp only [Act.put, List.setIfInBounds_toArray, List.set_cons_succ, List.set_cons_zero]
  refine ⟨fun w1 hC _ => rel_load_row 23 _ rfl w.heap.size (by go_simp) 23 (⟨32, sub, rd, rn, rm, ra, imm, imm2, amount, shift, cond, sys, flags, minus, not, link⟩ : Ins).cells (0, 0) _ hC.one.box Tryd.underlying23 rfl (by kernel_rfl), ?_⟩
  simp only [Act.put, List.setIfInBounds_toArray, List.set_cons_succ, List.set_cons_zero]
  refine ⟨fun w1 hC _ => ?_, ?_⟩
  · go_simp
    refine (stackRd_c ⟨32, sub, rd, rn, rm, ra, imm, imm2, amount, shift, cond, sys, flags, minus, not, link⟩ w1).mono ?_
    rintro e w2 ⟨rfl, rfl⟩
    exact ⟨rfl, below_alloc _ _⟩
  simp only [Act.put, List.setIfInBounds_toArray, List.set_cons_succ, List.set_cons_zero]
  refine ⟨fun w1 hC _ => ?_, ?_⟩
  · go_simp
    refine (name_c rd (spD ⟨32, sub, rd, rn, rm, ra, imm, imm2, amount, shift, cond, sys, flags, minus, not, link⟩) hr.d0 hr.d1 w1 hC.tab).mono ?_
    rintro e w2 ⟨rfl, hb⟩
    exact ⟨rfl, hb⟩
  simp only [Act.put, List.setIfInBounds_toArray, List.set_cons_succ, List.set_cons_zero]
  refine ⟨fun w1 hC _ => by go_simp; exact Below.refl _ _, ?_⟩
  simp only [Act.put, List.setIfInBounds_toArray, List.set_cons_succ, List.set_cons_zero]
  refine ⟨fun w1 hC _ => by have hq := hC.one.at 3 _ rfl; go_simp; exact Below.refl _ _, ?_⟩
  simp only [Act.put, List.setIfInBounds_toArray, List.set_cons_succ, List.set_cons_zero]
  refine ⟨fun w1 hC _ => rel_load_row 23 _ rfl w.heap.size (by go_simp) 23 (⟨32, sub, rd, rn, rm, ra, imm, imm2, amount, shift, cond, sys, flags, minus, not, link⟩ : Ins).cells (0, 0) _ hC.one.box Tryd.underlying23 rfl (by kernel_rfl), ?_⟩
  simp only [Act.put, List.setIfInBounds_toArray, List.set_cons_succ, List.set_cons_zero]
  refine ⟨fun w1 hC _ => ?_, ?_⟩
  · go_simp
    refine (stackRn_c ⟨32, sub, rd, rn, rm, ra, imm, imm2, amount, shift, cond, sys, flags, minus, not, link⟩ w1).mono ?_
    rintro e w2 ⟨rfl, rfl⟩
    exact ⟨rfl, below_alloc _ _⟩
  simp only [Act.put, List.setIfInBounds_toArray, List.set_cons_succ, List.set_cons_zero]
  refine ⟨fun w1 hC _ => ?_, ?_⟩
  · go_simp
    refine (name_c rn (spN ⟨32, sub, rd, rn, rm, ra, imm, imm2, amount, shift, cond, sys, flags, minus, not, link⟩) hr.n0 hr.n1 w1 hC.tab).mono ?_
    rintro e w2 ⟨rfl, hb⟩
    exact ⟨rfl, hb⟩
  simp only [Act.put, List.setIfInBounds_toArray, List.set_cons_succ, List.set_cons_zero]
  refine ⟨fun w1 hC _ => by go_simp; exact Below.refl _ _, ?_⟩
  simp only [Act.put, List.setIfInBounds_toArray, List.set_cons_succ, List.set_cons_zero]
  refine ⟨fun w1 hC _ => by have hq := hC.one.at 4 _ rfl; go_simp; exact Below.refl _ _, ?_⟩
  simp only [Act.put, List.setIfInBounds_toArray, List.set_cons_succ, List.set_cons_zero]
  refine ⟨fun w1 hC _ => ?_, ?_⟩
  · go_simp
    refine (name_c rm false hr.m0 hr.m1 w1 hC.tab).mono ?_
    rintro e w2 ⟨rfl, hb⟩
    exact ⟨rfl, hb⟩
  simp only [Act.put, List.setIfInBounds_toArray, List.set_cons_succ, List.set_cons_zero]
  refine ⟨fun w1 hC _ => by go_simp; exact Below.refl _ _, ?_⟩
  simp only [Act.put, List.setIfInBounds_toArray, List.set_cons_succ, List.set_cons_zero]
  refine ⟨fun w1 hC _ => by go_simp; exact Below.refl _ _, ?_⟩
  simp only [Act.put, List.setIfInBounds_toArray, List.set_cons_succ, List.set_cons_zero]
  refine ⟨fun w1 hC _ => by go_simp; exact Below.refl _ _, ?_⟩
  simp only [Act.put, List.setIfInBounds_toArray, List.set_cons_succ, List.set_cons_zero]
  clear HB
  intro w1 HB _
  have c0 := HB.one.at 0 _ rfl
  have c11 := HB.one.at 11 _ rfl
  repeat' (first | with_reducible refine then_exit ?_ | with_reducible refine then_normal ?_ | with_reducible refine inBlock_eq ?_ | with_reducible refine inBlock_ne rfl ?_ | with_reducible refine inBlock_normal ?_ | (go_at_call 40; refine (number_c sys HN.y0 HN.y1 _ HB.tab).mono ?_; rintro e w' ⟨rfl, hb⟩; dsimp only; replace HB := HB.grow hb; clear hb) | go_step)
  go_ret
  exact ⟨_, rfl, row_new _ [numT sys, rdT ⟨32, sub, rd, rn, rm, ra, imm, imm2, amount, shift, cond, sys, flags, minus, not, link⟩] (by simp) _ HB.size, below_then HB.one.below (below_alloc _ _)⟩
end Go.Proofs.YtmbefmmnkfoneaaDoor
