/- The parts of what has its number at the end, through partsOf: contracts. -/
import Derived.Test.YtmbefmmnkfoneaaDoorLast
namespace Go.Proofs.YtmbefmmnkfoneaaDoor
open Go.RowKit Go.Rel

set_option maxRecDepth 8000 in
set_option maxHeartbeats 8000000 in
theorem parts11 (sub rd rn rm ra imm imm2 amount shift cond sys : Int) (flags minus not link : Bool) (hr : InR ⟨11, sub, rd, rn, rm, ra, imm, imm2, amount, shift, cond, sys, flags, minus, not, link⟩) (HN : Num ⟨11, sub, rd, rn, rm, ra, imm, imm2, amount, shift, cond, sys, flags, minus, not, link⟩) (w : World) (T : Tab w) : Calls Tryd.prog 23 #[(⟨11, sub, rd, rn, rm, ra, imm, imm2, amount, shift, cond, sys, flags, minus, not, link⟩ : Ins).val] w fun e w' => ∃ v, e = .returned v ∧ RowT w.heap.size ([regT rd false, numT imm]) v w' ∧ Below w.heap.size w w' := by
  have HB := oneT_start ⟨11, sub, rd, rn, rm, ra, imm, imm2, amount, shift, cond, sys, flags, minus, not, link⟩ w T
  go_enter Tryd.func23, Tryd.ntmps23
  repeat' (first | with_reducible refine then_exit ?_ | with_reducible refine then_normal ?_ | with_reducible refine inBlock_eq ?_ | with_reducible refine inBlock_ne rfl ?_ | with_reducible refine inBlock_normal ?_ | go_step)
  refine wp_region_rel Grows (fun x => OneT ⟨11, sub, rd, rn, rm, ra, imm, imm2, amount, shift, cond, sys, flags, minus, not, link⟩ w x) [.inl (.pointer (some ⟨w.heap.size, 2, none⟩)), .inl (vI rd), .inl (⟨11, sub, rd, rn, rm, ra, imm, imm2, amount, shift, cond, sys, flags, minus, not, link⟩ : Ins).val, .inl (.bool (spD ⟨11, sub, rd, rn, rm, ra, imm, imm2, amount, shift, cond, sys, flags, minus, not, link⟩)), .inl (strV (rdT ⟨11, sub, rd, rn, rm, ra, imm, imm2, amount, shift, cond, sys, flags, minus, not, link⟩)), .inl (.pointer (some ⟨w.heap.size, 3, none⟩)), .inl (vI rn), .inl (⟨11, sub, rd, rn, rm, ra, imm, imm2, amount, shift, cond, sys, flags, minus, not, link⟩ : Ins).val, .inl (.bool (spN ⟨11, sub, rd, rn, rm, ra, imm, imm2, amount, shift, cond, sys, flags, minus, not, link⟩)), .inl (strV (rnT ⟨11, sub, rd, rn, rm, ra, imm, imm2, amount, shift, cond, sys, flags, minus, not, link⟩)), .inl (.pointer (some ⟨w.heap.size, 4, none⟩)), .inl (vI rm), .inl (strV (rmT ⟨11, sub, rd, rn, rm, ra, imm, imm2, amount, shift, cond, sys, flags, minus, not, link⟩)), .inl (strV (rdT ⟨11, sub, rd, rn, rm, ra, imm, imm2, amount, shift, cond, sys, flags, minus, not, link⟩)), .inl (strV (rnT ⟨11, sub, rd, rn, rm, ra, imm, imm2, amount, shift, cond, sys, flags, minus, not, link⟩)), .inl (strV (rmT ⟨11, sub, rd, rn, rm, ra, imm, imm2, amount, shift, cond, sys, flags, minus, not, link⟩))] (by kernel_rfl) (by kernel_rfl) (OneT.up _ _) HB.drew (by simp [upK]) ?_
  refine ⟨fun w1 hC _ => by go_simp; exact Below.refl _ _, ?_⟩
  simp only [Act.put, List.setIfInBounds_toArray, List.set_cons_succ, List.set_cons_zero]
  refine ⟨fun w1 hC _ => by have hq := hC.one.at 2 _ rfl; go_simp; exact Below.refl _ _, ?_⟩
  simp only [Act.put, List.setIfInBounds_toArray, List.set_cons_succ, List.set_cons_zero]
  refine ⟨fun w1 hC _ => rel_load_row 23 _ rfl w.heap.size (by go_simp) 23 (⟨11, sub, rd, rn, rm, ra, imm, imm2, amount, shift, cond, sys, flags, minus, not, link⟩ : Ins).cells (0, 0) _ hC.one.box Tryd.underlying23 rfl (by kernel_rfl), ?_⟩
  simp only [Act.put, List.setIfInBounds_toArray, List.set_cons_succ, List.set_cons_zero]
  refine ⟨fun w1 hC _ => ?_, ?_⟩
  · go_simp
    refine (stackRd_c ⟨11, sub, rd, rn, rm, ra, imm, imm2, amount, shift, cond, sys, flags, minus, not, link⟩ w1).mono ?_
    rintro e w2 ⟨rfl, rfl⟩
    exact ⟨rfl, below_alloc _ _⟩
  simp only [Act.put, List.setIfInBounds_toArray, List.set_cons_succ, List.set_cons_zero]
  refine ⟨fun w1 hC _ => ?_, ?_⟩
  · go_simp
    refine (name_c rd (spD ⟨11, sub, rd, rn, rm, ra, imm, imm2, amount, shift, cond, sys, flags, minus, not, link⟩) hr.d0 hr.d1 w1 hC.tab).mono ?_
    rintro e w2 ⟨rfl, hb⟩
    exact ⟨rfl, hb⟩
  simp only [Act.put, List.setIfInBounds_toArray, List.set_cons_succ, List.set_cons_zero]
  refine ⟨fun w1 hC _ => by go_simp; exact Below.refl _ _, ?_⟩
  simp only [Act.put, List.setIfInBounds_toArray, List.set_cons_succ, List.set_cons_zero]
  refine ⟨fun w1 hC _ => by have hq := hC.one.at 3 _ rfl; go_simp; exact Below.refl _ _, ?_⟩
  simp only [Act.put, List.setIfInBounds_toArray, List.set_cons_succ, List.set_cons_zero]
  refine ⟨fun w1 hC _ => rel_load_row 23 _ rfl w.heap.size (by go_simp) 23 (⟨11, sub, rd, rn, rm, ra, imm, imm2, amount, shift, cond, sys, flags, minus, not, link⟩ : Ins).cells (0, 0) _ hC.one.box Tryd.underlying23 rfl (by kernel_rfl), ?_⟩
  simp only [Act.put, List.setIfInBounds_toArray, List.set_cons_succ, List.set_cons_zero]
  refine ⟨fun w1 hC _ => ?_, ?_⟩
  · go_simp
    refine (stackRn_c ⟨11, sub, rd, rn, rm, ra, imm, imm2, amount, shift, cond, sys, flags, minus, not, link⟩ w1).mono ?_
    rintro e w2 ⟨rfl, rfl⟩
    exact ⟨rfl, below_alloc _ _⟩
  simp only [Act.put, List.setIfInBounds_toArray, List.set_cons_succ, List.set_cons_zero]
  refine ⟨fun w1 hC _ => ?_, ?_⟩
  · go_simp
    refine (name_c rn (spN ⟨11, sub, rd, rn, rm, ra, imm, imm2, amount, shift, cond, sys, flags, minus, not, link⟩) hr.n0 hr.n1 w1 hC.tab).mono ?_
    rintro e w2 ⟨rfl, hb⟩
    exact ⟨rfl, hb⟩
  simp only [Act.put, List.setIfInBounds_toArray, List.set_cons_succ, List.set_cons_zero]
  refine ⟨fun w1 hC _ => by go_simp; exact Below.refl _ _, ?_⟩
  simp only [Act.put, List.setIfInBounds_toArray, List.set_cons_succ, List.set_cons_zero]
  refine ⟨fun w1 hC _ => by have hq := hC.one.at 4 _ rfl; go_simp; exact Below.refl _ _, ?_⟩
  simp only [Act.put, List.setIfInBounds_toArray, List.set_cons_succ, List.set_cons_zero]
  refine ⟨fun w1 hC _ => ?_, ?_⟩
  · go_simp
    refine (name_c rm false hr.m0 hr.m1 w1 hC.tab).mono ?_
    rintro e w2 ⟨rfl, hb⟩
    exact ⟨rfl, hb⟩
  simp only [Act.put, List.setIfInBounds_toArray, List.set_cons_succ, List.set_cons_zero]
  refine ⟨fun w1 hC _ => by go_simp; exact Below.refl _ _, ?_⟩
  simp only [Act.put, List.setIfInBounds_toArray, List.set_cons_succ, List.set_cons_zero]
  refine ⟨fun w1 hC _ => by go_simp; exact Below.refl _ _, ?_⟩
  simp only [Act.put, List.setIfInBounds_toArray, List.set_cons_succ, List.set_cons_zero]
  refine ⟨fun w1 hC _ => by go_simp; exact Below.refl _ _, ?_⟩
  simp only [Act.put, List.setIfInBounds_toArray, List.set_cons_succ, List.set_cons_zero]
  clear HB
  intro w1 HB _
  have c0 := HB.one.at 0 _ rfl
  repeat' (first | with_reducible refine then_exit ?_ | with_reducible refine then_normal ?_ | with_reducible refine inBlock_eq ?_ | with_reducible refine inBlock_ne rfl ?_ | with_reducible refine inBlock_normal ?_ | (refine wpList_load_if rfl 23 _ rfl w.heap.size rfl 23 _ (0, 0) _ HB.one.box Tryd.underlying23 rfl (by kernel_rfl) ?_; simp only [Act.put, List.setIfInBounds_toArray, List.set_cons_succ, List.set_cons_zero]) | (go_at_call 47; refine (last11 sub rd rn rm ra imm imm2 amount shift cond sys flags minus not link HN hr _ HB.tab).mono ?_; rintro e w' ⟨v, rfl, hrow, hb⟩; dsimp only) | go_step)
  go_ret
  exact ⟨_, rfl, own_mono hrow HB.size, below_then HB.one.below hb⟩

set_option maxRecDepth 8000 in
set_option maxHeartbeats 8000000 in
theorem parts12 (sub rd rn rm ra imm imm2 amount shift cond sys : Int) (flags minus not link : Bool) (hr : InR ⟨12, sub, rd, rn, rm, ra, imm, imm2, amount, shift, cond, sys, flags, minus, not, link⟩) (HN : Num ⟨12, sub, rd, rn, rm, ra, imm, imm2, amount, shift, cond, sys, flags, minus, not, link⟩) (w : World) (T : Tab w) : Calls Tryd.prog 23 #[(⟨12, sub, rd, rn, rm, ra, imm, imm2, amount, shift, cond, sys, flags, minus, not, link⟩ : Ins).val] w fun e w' => ∃ v, e = .returned v ∧ RowT w.heap.size ([numT imm]) v w' ∧ Below w.heap.size w w' := by
  have HB := oneT_start ⟨12, sub, rd, rn, rm, ra, imm, imm2, amount, shift, cond, sys, flags, minus, not, link⟩ w T
  go_enter Tryd.func23, Tryd.ntmps23
  repeat' (first | with_reducible refine then_exit ?_ | with_reducible refine then_normal ?_ | with_reducible refine inBlock_eq ?_ | with_reducible refine inBlock_ne rfl ?_ | with_reducible refine inBlock_normal ?_ | go_step)
  refine wp_region_rel Grows (fun x => OneT ⟨12, sub, rd, rn, rm, ra, imm, imm2, amount, shift, cond, sys, flags, minus, not, link⟩ w x) [.inl (.pointer (some ⟨w.heap.size, 2, none⟩)), .inl (vI rd), .inl (⟨12, sub, rd, rn, rm, ra, imm, imm2, amount, shift, cond, sys, flags, minus, not, link⟩ : Ins).val, .inl (.bool (spD ⟨12, sub, rd, rn, rm, ra, imm, imm2, amount, shift, cond, sys, flags, minus, not, link⟩)), .inl (strV (rdT ⟨12, sub, rd, rn, rm, ra, imm, imm2, amount, shift, cond, sys, flags, minus, not, link⟩)), .inl (.pointer (some ⟨w.heap.size, 3, none⟩)), .inl (vI rn), .inl (⟨12, sub, rd, rn, rm, ra, imm, imm2, amount, shift, cond, sys, flags, minus, not, link⟩ : Ins).val, .inl (.bool (spN ⟨12, sub, rd, rn, rm, ra, imm, imm2, amount, shift, cond, sys, flags, minus, not, link⟩)), .inl (strV (rnT ⟨12, sub, rd, rn, rm, ra, imm, imm2, amount, shift, cond, sys, flags, minus, not, link⟩)), .inl (.pointer (some ⟨w.heap.size, 4, none⟩)), .inl (vI rm), .inl (strV (rmT ⟨12, sub, rd, rn, rm, ra, imm, imm2, amount, shift, cond, sys, flags, minus, not, link⟩)), .inl (strV (rdT ⟨12, sub, rd, rn, rm, ra, imm, imm2, amount, shift, cond, sys, flags, minus, not, link⟩)), .inl (strV (rnT ⟨12, sub, rd, rn, rm, ra, imm, imm2, amount, shift, cond, sys, flags, minus, not, link⟩)), .inl (strV (rmT ⟨12, sub, rd, rn, rm, ra, imm, imm2, amount, shift, cond, sys, flags, minus, not, link⟩))] (by kernel_rfl) (by kernel_rfl) (OneT.up _ _) HB.drew (by simp [upK]) ?_
  refine ⟨fun w1 hC _ => by go_simp; exact Below.refl _ _, ?_⟩
  simp only [Act.put, List.setIfInBounds_toArray, List.set_cons_succ, List.set_cons_zero]
  refine ⟨fun w1 hC _ => by have hq := hC.one.at 2 _ rfl; go_simp; exact Below.refl _ _, ?_⟩
  simp only [Act.put, List.setIfInBounds_toArray, List.set_cons_succ, List.set_cons_zero]
  refine ⟨fun w1 hC _ => rel_load_row 23 _ rfl w.heap.size (by go_simp) 23 (⟨12, sub, rd, rn, rm, ra, imm, imm2, amount, shift, cond, sys, flags, minus, not, link⟩ : Ins).cells (0, 0) _ hC.one.box Tryd.underlying23 rfl (by kernel_rfl), ?_⟩
  simp only [Act.put, List.setIfInBounds_toArray, List.set_cons_succ, List.set_cons_zero]
  refine ⟨fun w1 hC _ => ?_, ?_⟩
  · go_simp
    refine (stackRd_c ⟨12, sub, rd, rn, rm, ra, imm, imm2, amount, shift, cond, sys, flags, minus, not, link⟩ w1).mono ?_
    rintro e w2 ⟨rfl, rfl⟩
    exact ⟨rfl, below_alloc _ _⟩
  simp only [Act.put, List.setIfInBounds_toArray, List.set_cons_succ, List.set_cons_zero]
  refine ⟨fun w1 hC _ => ?_, ?_⟩
  · go_simp
    refine (name_c rd (spD ⟨12, sub, rd, rn, rm, ra, imm, imm2, amount, shift, cond, sys, flags, minus, not, link⟩) hr.d0 hr.d1 w1 hC.tab).mono ?_
    rintro e w2 ⟨rfl, hb⟩
    exact ⟨rfl, hb⟩
  simp only [Act.put, List.setIfInBounds_toArray, List.set_cons_succ, List.set_cons_zero]
  refine ⟨fun w1 hC _ => by go_simp; exact Below.refl _ _, ?_⟩
  simp only [Act.put, List.setIfInBounds_toArray, List.set_cons_succ, List.set_cons_zero]
  refine ⟨fun w1 hC _ => by have hq := hC.one.at 3 _ rfl; go_simp; exact Below.refl _ _, ?_⟩
  simp only [Act.put, List.setIfInBounds_toArray, List.set_cons_succ, List.set_cons_zero]
  refine ⟨fun w1 hC _ => rel_load_row 23 _ rfl w.heap.size (by go_simp) 23 (⟨12, sub, rd, rn, rm, ra, imm, imm2, amount, shift, cond, sys, flags, minus, not, link⟩ : Ins).cells (0, 0) _ hC.one.box Tryd.underlying23 rfl (by kernel_rfl), ?_⟩
  simp only [Act.put, List.setIfInBounds_toArray, List.set_cons_succ, List.set_cons_zero]
  refine ⟨fun w1 hC _ => ?_, ?_⟩
  · go_simp
    refine (stackRn_c ⟨12, sub, rd, rn, rm, ra, imm, imm2, amount, shift, cond, sys, flags, minus, not, link⟩ w1).mono ?_
    rintro e w2 ⟨rfl, rfl⟩
    exact ⟨rfl, below_alloc _ _⟩
  simp only [Act.put, List.setIfInBounds_toArray, List.set_cons_succ, List.set_cons_zero]
  refine ⟨fun w1 hC _ => ?_, ?_⟩
  · go_simp
    refine (name_c rn (spN ⟨12, sub, rd, rn, rm, ra, imm, imm2, amount, shift, cond, sys, flags, minus, not, link⟩) hr.n0 hr.n1 w1 hC.tab).mono ?_
    rintro e w2 ⟨rfl, hb⟩
    exact ⟨rfl, hb⟩
  simp only [Act.put, List.setIfInBounds_toArray, List.set_cons_succ, List.set_cons_zero]
  refine ⟨fun w1 hC _ => by go_simp; exact Below.refl _ _, ?_⟩
  simp only [Act.put, List.setIfInBounds_toArray, List.set_cons_succ, List.set_cons_zero]
  refine ⟨fun w1 hC _ => by have hq := hC.one.at 4 _ rfl; go_simp; exact Below.refl _ _, ?_⟩
  simp only [Act.put, List.setIfInBounds_toArray, List.set_cons_succ, List.set_cons_zero]
  refine ⟨fun w1 hC _ => ?_, ?_⟩
  · go_simp
    refine (name_c rm false hr.m0 hr.m1 w1 hC.tab).mono ?_
    rintro e w2 ⟨rfl, hb⟩
    exact ⟨rfl, hb⟩
  simp only [Act.put, List.setIfInBounds_toArray, List.set_cons_succ, List.set_cons_zero]
  refine ⟨fun w1 hC _ => by go_simp; exact Below.refl _ _, ?_⟩
  simp only [Act.put, List.setIfInBounds_toArray, List.set_cons_succ, List.set_cons_zero]
  refine ⟨fun w1 hC _ => by go_simp; exact Below.refl _ _, ?_⟩
  simp only [Act.put, List.setIfInBounds_toArray, List.set_cons_succ, List.set_cons_zero]
  refine ⟨fun w1 hC _ => by go_simp; exact Below.refl _ _, ?_⟩
  simp only [Act.put, List.setIfInBounds_toArray, List.set_cons_succ, List.set_cons_zero]
  clear HB
  intro w1 HB _
  have c0 := HB.one.at 0 _ rfl
  repeat' (first | with_reducible refine then_exit ?_ | with_reducible refine then_normal ?_ | with_reducible refine inBlock_eq ?_ | with_reducible refine inBlock_ne rfl ?_ | with_reducible refine inBlock_normal ?_ | (refine wpList_load_if rfl 23 _ rfl w.heap.size rfl 23 _ (0, 0) _ HB.one.box Tryd.underlying23 rfl (by kernel_rfl) ?_; simp only [Act.put, List.setIfInBounds_toArray, List.set_cons_succ, List.set_cons_zero]) | (go_at_call 47; refine (last12 sub rd rn rm ra imm imm2 amount shift cond sys flags minus not link HN _ HB.tab).mono ?_; rintro e w' ⟨v, rfl, hrow, hb⟩; dsimp only) | go_step)
  go_ret
  exact ⟨_, rfl, own_mono hrow HB.size, below_then HB.one.below hb⟩

set_option maxRecDepth 8000 in
set_option maxHeartbeats 8000000 in
theorem parts13 (sub rd rn rm ra imm imm2 amount shift cond sys : Int) (flags minus not link : Bool) (hr : InR ⟨13, sub, rd, rn, rm, ra, imm, imm2, amount, shift, cond, sys, flags, minus, not, link⟩) (HN : Num ⟨13, sub, rd, rn, rm, ra, imm, imm2, amount, shift, cond, sys, flags, minus, not, link⟩) (w : World) (T : Tab w) : Calls Tryd.prog 23 #[(⟨13, sub, rd, rn, rm, ra, imm, imm2, amount, shift, cond, sys, flags, minus, not, link⟩ : Ins).val] w fun e w' => ∃ v, e = .returned v ∧ RowT w.heap.size ([numT imm]) v w' ∧ Below w.heap.size w w' := by
  have HB := oneT_start ⟨13, sub, rd, rn, rm, ra, imm, imm2, amount, shift, cond, sys, flags, minus, not, link⟩ w T
  go_enter Tryd.func23, Tryd.ntmps23
  repeat' (first | with_reducible refine then_exit ?_ | with_reducible refine then_normal ?_ | with_reducible refine inBlock_eq ?_ | with_reducible refine inBlock_ne rfl ?_ | with_reducible refine inBlock_normal ?_ | go_step)
  refine wp_region_rel Grows (fun x => OneT ⟨13, sub, rd, rn, rm, ra, imm, imm2, amount, shift, cond, sys, flags, minus, not, link⟩ w x) [.inl (.pointer (some ⟨w.heap.size, 2, none⟩)), .inl (vI rd), .inl (⟨13, sub, rd, rn, rm, ra, imm, imm2, amount, shift, cond, sys, flags, minus, not, link⟩ : Ins).val, .inl (.bool (spD ⟨13, sub, rd, rn, rm, ra, imm, imm2, amount, shift, cond, sys, flags, minus, not, link⟩)), .inl (strV (rdT ⟨13, sub, rd, rn, rm, ra, imm, imm2, amount, shift, cond, sys, flags, minus, not, link⟩)), .inl (.pointer (some ⟨w.heap.size, 3, none⟩)), .inl (vI rn), .inl (⟨13, sub, rd, rn, rm, ra, imm, imm2, amount, shift, cond, sys, flags, minus, not, link⟩ : Ins).val, .inl (.bool (spN ⟨13, sub, rd, rn, rm, ra, imm, imm2, amount, shift, cond, sys, flags, minus, not, link⟩)), .inl (strV (rnT ⟨13, sub, rd, rn, rm, ra, imm, imm2, amount, shift, cond, sys, flags, minus, not, link⟩)), .inl (.pointer (some ⟨w.heap.size, 4, none⟩)), .inl (vI rm), .inl (strV (rmT ⟨13, sub, rd, rn, rm, ra, imm, imm2, amount, shift, cond, sys, flags, minus, not, link⟩)), .inl (strV (rdT ⟨13, sub, rd, rn, rm, ra, imm, imm2, amount, shift, cond, sys, flags, minus, not, link⟩)), .inl (strV (rnT ⟨13, sub, rd, rn, rm, ra, imm, imm2, amount, shift, cond, sys, flags, minus, not, link⟩)), .inl (strV (rmT ⟨13, sub, rd, rn, rm, ra, imm, imm2, amount, shift, cond, sys, flags, minus, not, link⟩))] (by kernel_rfl) (by kernel_rfl) (OneT.up _ _) HB.drew (by simp [upK]) ?_
  refine ⟨fun w1 hC _ => by go_simp; exact Below.refl _ _, ?_⟩
  simp only [Act.put, List.setIfInBounds_toArray, List.set_cons_succ, List.set_cons_zero]
  refine ⟨fun w1 hC _ => by have hq := hC.one.at 2 _ rfl; go_simp; exact Below.refl _ _, ?_⟩
  simp only [Act.put, List.setIfInBounds_toArray, List.set_cons_succ, List.set_cons_zero]
  refine ⟨fun w1 hC _ => rel_load_row 23 _ rfl w.heap.size (by go_simp) 23 (⟨13, sub, rd, rn, rm, ra, imm, imm2, amount, shift, cond, sys, flags, minus, not, link⟩ : Ins).cells (0, 0) _ hC.one.box Tryd.underlying23 rfl (by kernel_rfl), ?_⟩
  simp only [Act.put, List.setIfInBounds_toArray, List.set_cons_succ, List.set_cons_zero]
  refine ⟨fun w1 hC _ => ?_, ?_⟩
  · go_simp
    refine (stackRd_c ⟨13, sub, rd, rn, rm, ra, imm, imm2, amount, shift, cond, sys, flags, minus, not, link⟩ w1).mono ?_
    rintro e w2 ⟨rfl, rfl⟩
    exact ⟨rfl, below_alloc _ _⟩
  simp only [Act.put, List.setIfInBounds_toArray, List.set_cons_succ, List.set_cons_zero]
  refine ⟨fun w1 hC _ => ?_, ?_⟩
  · go_simp
    refine (name_c rd (spD ⟨13, sub, rd, rn, rm, ra, imm, imm2, amount, shift, cond, sys, flags, minus, not, link⟩) hr.d0 hr.d1 w1 hC.tab).mono ?_
    rintro e w2 ⟨rfl, hb⟩
    exact ⟨rfl, hb⟩
  simp only [Act.put, List.setIfInBounds_toArray, List.set_cons_succ, List.set_cons_zero]
  refine ⟨fun w1 hC _ => by go_simp; exact Below.refl _ _, ?_⟩
  simp only [Act.put, List.setIfInBounds_toArray, List.set_cons_succ, List.set_cons_zero]
  refine ⟨fun w1 hC _ => by have hq := hC.one.at 3 _ rfl; go_simp; exact Below.refl _ _, ?_⟩
  simp only [Act.put, List.setIfInBounds_toArray, List.set_cons_succ, List.set_cons_zero]
  refine ⟨fun w1 hC _ => rel_load_row 23 _ rfl w.heap.size (by go_simp) 23 (⟨13, sub, rd, rn, rm, ra, imm, imm2, amount, shift, cond, sys, flags, minus, not, link⟩ : Ins).cells (0, 0) _ hC.one.box Tryd.underlying23 rfl (by kernel_rfl), ?_⟩
  simp only [Act.put, List.setIfInBounds_toArray, List.set_cons_succ, List.set_cons_zero]
  refine ⟨fun w1 hC _ => ?_, ?_⟩
  · go_simp
    refine (stackRn_c ⟨13, sub, rd, rn, rm, ra, imm, imm2, amount, shift, cond, sys, flags, minus, not, link⟩ w1).mono ?_
    rintro e w2 ⟨rfl, rfl⟩
    exact ⟨rfl, below_alloc _ _⟩
  simp only [Act.put, List.setIfInBounds_toArray, List.set_cons_succ, List.set_cons_zero]
  refine ⟨fun w1 hC _ => ?_, ?_⟩
  · go_simp
    refine (name_c rn (spN ⟨13, sub, rd, rn, rm, ra, imm, imm2, amount, shift, cond, sys, flags, minus, not, link⟩) hr.n0 hr.n1 w1 hC.tab).mono ?_
    rintro e w2 ⟨rfl, hb⟩
    exact ⟨rfl, hb⟩
  simp only [Act.put, List.setIfInBounds_toArray, List.set_cons_succ, List.set_cons_zero]
  refine ⟨fun w1 hC _ => by go_simp; exact Below.refl _ _, ?_⟩
  simp only [Act.put, List.setIfInBounds_toArray, List.set_cons_succ, List.set_cons_zero]
  refine ⟨fun w1 hC _ => by have hq := hC.one.at 4 _ rfl; go_simp; exact Below.refl _ _, ?_⟩
  simp only [Act.put, List.setIfInBounds_toArray, List.set_cons_succ, List.set_cons_zero]
  refine ⟨fun w1 hC _ => ?_, ?_⟩
  · go_simp
    refine (name_c rm false hr.m0 hr.m1 w1 hC.tab).mono ?_
    rintro e w2 ⟨rfl, hb⟩
    exact ⟨rfl, hb⟩
  simp only [Act.put, List.setIfInBounds_toArray, List.set_cons_succ, List.set_cons_zero]
  refine ⟨fun w1 hC _ => by go_simp; exact Below.refl _ _, ?_⟩
  simp only [Act.put, List.setIfInBounds_toArray, List.set_cons_succ, List.set_cons_zero]
  refine ⟨fun w1 hC _ => by go_simp; exact Below.refl _ _, ?_⟩
  simp only [Act.put, List.setIfInBounds_toArray, List.set_cons_succ, List.set_cons_zero]
  refine ⟨fun w1 hC _ => by go_simp; exact Below.refl _ _, ?_⟩
  simp only [Act.put, List.setIfInBounds_toArray, List.set_cons_succ, List.set_cons_zero]
  clear HB
  intro w1 HB _
  have c0 := HB.one.at 0 _ rfl
  repeat' (first | with_reducible refine then_exit ?_ | with_reducible refine then_normal ?_ | with_reducible refine inBlock_eq ?_ | with_reducible refine inBlock_ne rfl ?_ | with_reducible refine inBlock_normal ?_ | (refine wpList_load_if rfl 23 _ rfl w.heap.size rfl 23 _ (0, 0) _ HB.one.box Tryd.underlying23 rfl (by kernel_rfl) ?_; simp only [Act.put, List.setIfInBounds_toArray, List.set_cons_succ, List.set_cons_zero]) | (go_at_call 47; refine (last13 sub rd rn rm ra imm imm2 amount shift cond sys flags minus not link HN _ HB.tab).mono ?_; rintro e w' ⟨v, rfl, hrow, hb⟩; dsimp only) | go_step)
  go_ret
  exact ⟨_, rfl, own_mono hrow HB.size, below_then HB.one.below hb⟩

set_option maxRecDepth 8000 in
set_option maxHeartbeats 8000000 in
theorem parts14 (sub rd rn rm ra imm imm2 amount shift cond sys : Int) (flags minus not link : Bool) (hr : InR ⟨14, sub, rd, rn, rm, ra, imm, imm2, amount, shift, cond, sys, flags, minus, not, link⟩) (HN : Num ⟨14, sub, rd, rn, rm, ra, imm, imm2, amount, shift, cond, sys, flags, minus, not, link⟩) (w : World) (T : Tab w) : Calls Tryd.prog 23 #[(⟨14, sub, rd, rn, rm, ra, imm, imm2, amount, shift, cond, sys, flags, minus, not, link⟩ : Ins).val] w fun e w' => ∃ v, e = .returned v ∧ RowT w.heap.size ([regT rd false, numT imm]) v w' ∧ Below w.heap.size w w' := by
  have HB := oneT_start ⟨14, sub, rd, rn, rm, ra, imm, imm2, amount, shift, cond, sys, flags, minus, not, link⟩ w T
  go_enter Tryd.func23, Tryd.ntmps23
  repeat' (first | with_reducible refine then_exit ?_ | with_reducible refine then_normal ?_ | with_reducible refine inBlock_eq ?_ | with_reducible refine inBlock_ne rfl ?_ | with_reducible refine inBlock_normal ?_ | go_step)
  refine wp_region_rel Grows (fun x => OneT ⟨14, sub, rd, rn, rm, ra, imm, imm2, amount, shift, cond, sys, flags, minus, not, link⟩ w x) [.inl (.pointer (some ⟨w.heap.size, 2, none⟩)), .inl (vI rd), .inl (⟨14, sub, rd, rn, rm, ra, imm, imm2, amount, shift, cond, sys, flags, minus, not, link⟩ : Ins).val, .inl (.bool (spD ⟨14, sub, rd, rn, rm, ra, imm, imm2, amount, shift, cond, sys, flags, minus, not, link⟩)), .inl (strV (rdT ⟨14, sub, rd, rn, rm, ra, imm, imm2, amount, shift, cond, sys, flags, minus, not, link⟩)), .inl (.pointer (some ⟨w.heap.size, 3, none⟩)), .inl (vI rn), .inl (⟨14, sub, rd, rn, rm, ra, imm, imm2, amount, shift, cond, sys, flags, minus, not, link⟩ : Ins).val, .inl (.bool (spN ⟨14, sub, rd, rn, rm, ra, imm, imm2, amount, shift, cond, sys, flags, minus, not, link⟩)), .inl (strV (rnT ⟨14, sub, rd, rn, rm, ra, imm, imm2, amount, shift, cond, sys, flags, minus, not, link⟩)), .inl (.pointer (some ⟨w.heap.size, 4, none⟩)), .inl (vI rm), .inl (strV (rmT ⟨14, sub, rd, rn, rm, ra, imm, imm2, amount, shift, cond, sys, flags, minus, not, link⟩)), .inl (strV (rdT ⟨14, sub, rd, rn, rm, ra, imm, imm2, amount, shift, cond, sys, flags, minus, not, link⟩)), .inl (strV (rnT ⟨14, sub, rd, rn, rm, ra, imm, imm2, amount, shift, cond, sys, flags, minus, not, link⟩)), .inl (strV (rmT ⟨14, sub, rd, rn, rm, ra, imm, imm2, amount, shift, cond, sys, flags, minus, not, link⟩))] (by kernel_rfl) (by kernel_rfl) (OneT.up _ _) HB.drew (by simp [upK]) ?_
  refine ⟨fun w1 hC _ => by go_simp; exact Below.refl _ _, ?_⟩
  simp only [Act.put, List.setIfInBounds_toArray, List.set_cons_succ, List.set_cons_zero]
  refine ⟨fun w1 hC _ => by have hq := hC.one.at 2 _ rfl; go_simp; exact Below.refl _ _, ?_⟩
  simp only [Act.put, List.setIfInBounds_toArray, List.set_cons_succ, List.set_cons_zero]
  refine ⟨fun w1 hC _ => rel_load_row 23 _ rfl w.heap.size (by go_simp) 23 (⟨14, sub, rd, rn, rm, ra, imm, imm2, amount, shift, cond, sys, flags, minus, not, link⟩ : Ins).cells (0, 0) _ hC.one.box Tryd.underlying23 rfl (by kernel_rfl), ?_⟩
  simp only [Act.put, List.setIfInBounds_toArray, List.set_cons_succ, List.set_cons_zero]
  refine ⟨fun w1 hC _ => ?_, ?_⟩
  · go_simp
    refine (stackRd_c ⟨14, sub, rd, rn, rm, ra, imm, imm2, amount, shift, cond, sys, flags, minus, not, link⟩ w1).mono ?_
    rintro e w2 ⟨rfl, rfl⟩
    exact ⟨rfl, below_alloc _ _⟩
  simp only [Act.put, List.setIfInBounds_toArray, List.set_cons_succ, List.set_cons_zero]
  refine ⟨fun w1 hC _ => ?_, ?_⟩
  · go_simp
    refine (name_c rd (spD ⟨14, sub, rd, rn, rm, ra, imm, imm2, amount, shift, cond, sys, flags, minus, not, link⟩) hr.d0 hr.d1 w1 hC.tab).mono ?_
    rintro e w2 ⟨rfl, hb⟩
    exact ⟨rfl, hb⟩
  simp only [Act.put, List.setIfInBounds_toArray, List.set_cons_succ, List.set_cons_zero]
  refine ⟨fun w1 hC _ => by go_simp; exact Below.refl _ _, ?_⟩
  simp only [Act.put, List.setIfInBounds_toArray, List.set_cons_succ, List.set_cons_zero]
  refine ⟨fun w1 hC _ => by have hq := hC.one.at 3 _ rfl; go_simp; exact Below.refl _ _, ?_⟩
  simp only [Act.put, List.setIfInBounds_toArray, List.set_cons_succ, List.set_cons_zero]
  refine ⟨fun w1 hC _ => rel_load_row 23 _ rfl w.heap.size (by go_simp) 23 (⟨14, sub, rd, rn, rm, ra, imm, imm2, amount, shift, cond, sys, flags, minus, not, link⟩ : Ins).cells (0, 0) _ hC.one.box Tryd.underlying23 rfl (by kernel_rfl), ?_⟩
  simp only [Act.put, List.setIfInBounds_toArray, List.set_cons_succ, List.set_cons_zero]
  refine ⟨fun w1 hC _ => ?_, ?_⟩
  · go_simp
    refine (stackRn_c ⟨14, sub, rd, rn, rm, ra, imm, imm2, amount, shift, cond, sys, flags, minus, not, link⟩ w1).mono ?_
    rintro e w2 ⟨rfl, rfl⟩
    exact ⟨rfl, below_alloc _ _⟩
  simp only [Act.put, List.setIfInBounds_toArray, List.set_cons_succ, List.set_cons_zero]
  refine ⟨fun w1 hC _ => ?_, ?_⟩
  · go_simp
    refine (name_c rn (spN ⟨14, sub, rd, rn, rm, ra, imm, imm2, amount, shift, cond, sys, flags, minus, not, link⟩) hr.n0 hr.n1 w1 hC.tab).mono ?_
    rintro e w2 ⟨rfl, hb⟩
    exact ⟨rfl, hb⟩
  simp only [Act.put, List.setIfInBounds_toArray, List.set_cons_succ, List.set_cons_zero]
  refine ⟨fun w1 hC _ => by go_simp; exact Below.refl _ _, ?_⟩
  simp only [Act.put, List.setIfInBounds_toArray, List.set_cons_succ, List.set_cons_zero]
  refine ⟨fun w1 hC _ => by have hq := hC.one.at 4 _ rfl; go_simp; exact Below.refl _ _, ?_⟩
  simp only [Act.put, List.setIfInBounds_toArray, List.set_cons_succ, List.set_cons_zero]
  refine ⟨fun w1 hC _ => ?_, ?_⟩
  · go_simp
    refine (name_c rm false hr.m0 hr.m1 w1 hC.tab).mono ?_
    rintro e w2 ⟨rfl, hb⟩
    exact ⟨rfl, hb⟩
  simp only [Act.put, List.setIfInBounds_toArray, List.set_cons_succ, List.set_cons_zero]
  refine ⟨fun w1 hC _ => by go_simp; exact Below.refl _ _, ?_⟩
  simp only [Act.put, List.setIfInBounds_toArray, List.set_cons_succ, List.set_cons_zero]
  refine ⟨fun w1 hC _ => by go_simp; exact Below.refl _ _, ?_⟩
  simp only [Act.put, List.setIfInBounds_toArray, List.set_cons_succ, List.set_cons_zero]
  refine ⟨fun w1 hC _ => by go_simp; exact Below.refl _ _, ?_⟩
  simp only [Act.put, List.setIfInBounds_toArray, List.set_cons_succ, List.set_cons_zero]
  clear HB
  intro w1 HB _
  have c0 := HB.one.at 0 _ rfl
  repeat' (first | with_reducible refine then_exit ?_ | with_reducible refine then_normal ?_ | with_reducible refine inBlock_eq ?_ | with_reducible refine inBlock_ne rfl ?_ | with_reducible refine inBlock_normal ?_ | (refine wpList_load_if rfl 23 _ rfl w.heap.size rfl 23 _ (0, 0) _ HB.one.box Tryd.underlying23 rfl (by kernel_rfl) ?_; simp only [Act.put, List.setIfInBounds_toArray, List.set_cons_succ, List.set_cons_zero]) | (go_at_call 47; refine (last14 sub rd rn rm ra imm imm2 amount shift cond sys flags minus not link HN hr _ HB.tab).mono ?_; rintro e w' ⟨v, rfl, hrow, hb⟩; dsimp only) | go_step)
  go_ret
  exact ⟨_, rfl, own_mono hrow HB.size, below_then HB.one.below hb⟩

set_option maxRecDepth 8000 in
set_option maxHeartbeats 8000000 in
theorem parts15 (sub rd rn rm ra imm imm2 amount shift cond sys : Int) (flags minus not link : Bool) (hr : InR ⟨15, sub, rd, rn, rm, ra, imm, imm2, amount, shift, cond, sys, flags, minus, not, link⟩) (HN : Num ⟨15, sub, rd, rn, rm, ra, imm, imm2, amount, shift, cond, sys, flags, minus, not, link⟩) (w : World) (T : Tab w) : Calls Tryd.prog 23 #[(⟨15, sub, rd, rn, rm, ra, imm, imm2, amount, shift, cond, sys, flags, minus, not, link⟩ : Ins).val] w fun e w' => ∃ v, e = .returned v ∧ RowT w.heap.size ([regT rd false, numT amount, numT imm]) v w' ∧ Below w.heap.size w w' := by
  have HB := oneT_start ⟨15, sub, rd, rn, rm, ra, imm, imm2, amount, shift, cond, sys, flags, minus, not, link⟩ w T
  go_enter Tryd.func23, Tryd.ntmps23
  repeat' (first | with_reducible refine then_exit ?_ | with_reducible refine then_normal ?_ | with_reducible refine inBlock_eq ?_ | with_reducible refine inBlock_ne rfl ?_ | with_reducible refine inBlock_normal ?_ | go_step)
  refine wp_region_rel Grows (fun x => OneT ⟨15, sub, rd, rn, rm, ra, imm, imm2, amount, shift, cond, sys, flags, minus, not, link⟩ w x) [.inl (.pointer (some ⟨w.heap.size, 2, none⟩)), .inl (vI rd), .inl (⟨15, sub, rd, rn, rm, ra, imm, imm2, amount, shift, cond, sys, flags, minus, not, link⟩ : Ins).val, .inl (.bool (spD ⟨15, sub, rd, rn, rm, ra, imm, imm2, amount, shift, cond, sys, flags, minus, not, link⟩)), .inl (strV (rdT ⟨15, sub, rd, rn, rm, ra, imm, imm2, amount, shift, cond, sys, flags, minus, not, link⟩)), .inl (.pointer (some ⟨w.heap.size, 3, none⟩)), .inl (vI rn), .inl (⟨15, sub, rd, rn, rm, ra, imm, imm2, amount, shift, cond, sys, flags, minus, not, link⟩ : Ins).val, .inl (.bool (spN ⟨15, sub, rd, rn, rm, ra, imm, imm2, amount, shift, cond, sys, flags, minus, not, link⟩)), .inl (strV (rnT ⟨15, sub, rd, rn, rm, ra, imm, imm2, amount, shift, cond, sys, flags, minus, not, link⟩)), .inl (.pointer (some ⟨w.heap.size, 4, none⟩)), .inl (vI rm), .inl (strV (rmT ⟨15, sub, rd, rn, rm, ra, imm, imm2, amount, shift, cond, sys, flags, minus, not, link⟩)), .inl (strV (rdT ⟨15, sub, rd, rn, rm, ra, imm, imm2, amount, shift, cond, sys, flags, minus, not, link⟩)), .inl (strV (rnT ⟨15, sub, rd, rn, rm, ra, imm, imm2, amount, shift, cond, sys, flags, minus, not, link⟩)), .inl (strV (rmT ⟨15, sub, rd, rn, rm, ra, imm, imm2, amount, shift, cond, sys, flags, minus, not, link⟩))] (by kernel_rfl) (by kernel_rfl) (OneT.up _ _) HB.drew (by simp [upK]) ?_
  refine ⟨fun w1 hC _ => by go_simp; exact Below.refl _ _, ?_⟩
  simp only [Act.put, List.setIfInBounds_toArray, List.set_cons_succ, List.set_cons_zero]
  refine ⟨fun w1 hC _ => by have hq := hC.one.at 2 _ rfl; go_simp; exact Below.refl _ _, ?_⟩
  simp only [Act.put, List.setIfInBounds_toArray, List.set_cons_succ, List.set_cons_zero]
  refine ⟨fun w1 hC _ => rel_load_row 23 _ rfl w.heap.size (by go_simp) 23 (⟨15, sub, rd, rn, rm, ra, imm, imm2, amount, shift, cond, sys, flags, minus, not, link⟩ : Ins).cells (0, 0) _ hC.one.box Tryd.underlying23 rfl (by kernel_rfl), ?_⟩
  simp only [Act.put, List.setIfInBounds_toArray, List.set_cons_succ, List.set_cons_zero]
  refine ⟨fun w1 hC _ => ?_, ?_⟩
  · go_simp
    refine (stackRd_c ⟨15, sub, rd, rn, rm, ra, imm, imm2, amount, shift, cond, sys, flags, minus, not, link⟩ w1).mono ?_
    rintro e w2 ⟨rfl, rfl⟩
    exact ⟨rfl, below_alloc _ _⟩
  simp only [Act.put, List.setIfInBounds_toArray, List.set_cons_succ, List.set_cons_zero]
  refine ⟨fun w1 hC _ => ?_, ?_⟩
  · go_simp
    refine (name_c rd (spD ⟨15, sub, rd, rn, rm, ra, imm, imm2, amount, shift, cond, sys, flags, minus, not, link⟩) hr.d0 hr.d1 w1 hC.tab).mono ?_
    rintro e w2 ⟨rfl, hb⟩
    exact ⟨rfl, hb⟩
  simp only [Act.put, List.setIfInBounds_toArray, List.set_cons_succ, List.set_cons_zero]
  refine ⟨fun w1 hC _ => by go_simp; exact Below.refl _ _, ?_⟩
  simp only [Act.put, List.setIfInBounds_toArray, List.set_cons_succ, List.set_cons_zero]
  refine ⟨fun w1 hC _ => by have hq := hC.one.at 3 _ rfl; go_simp; exact Below.refl _ _, ?_⟩
  simp only [Act.put, List.setIfInBounds_toArray, List.set_cons_succ, List.set_cons_zero]
  refine ⟨fun w1 hC _ => rel_load_row 23 _ rfl w.heap.size (by go_simp) 23 (⟨15, sub, rd, rn, rm, ra, imm, imm2, amount, shift, cond, sys, flags, minus, not, link⟩ : Ins).cells (0, 0) _ hC.one.box Tryd.underlying23 rfl (by kernel_rfl), ?_⟩
  simp only [Act.put, List.setIfInBounds_toArray, List.set_cons_succ, List.set_cons_zero]
  refine ⟨fun w1 hC _ => ?_, ?_⟩
  · go_simp
    refine (stackRn_c ⟨15, sub, rd, rn, rm, ra, imm, imm2, amount, shift, cond, sys, flags, minus, not, link⟩ w1).mono ?_
    rintro e w2 ⟨rfl, rfl⟩
    exact ⟨rfl, below_alloc _ _⟩
  simp only [Act.put, List.setIfInBounds_toArray, List.set_cons_succ, List.set_cons_zero]
  refine ⟨fun w1 hC _ => ?_, ?_⟩
  · go_simp
    refine (name_c rn (spN ⟨15, sub, rd, rn, rm, ra, imm, imm2, amount, shift, cond, sys, flags, minus, not, link⟩) hr.n0 hr.n1 w1 hC.tab).mono ?_
    rintro e w2 ⟨rfl, hb⟩
    exact ⟨rfl, hb⟩
  simp only [Act.put, List.setIfInBounds_toArray, List.set_cons_succ, List.set_cons_zero]
  refine ⟨fun w1 hC _ => by go_simp; exact Below.refl _ _, ?_⟩
  simp only [Act.put, List.setIfInBounds_toArray, List.set_cons_succ, List.set_cons_zero]
  refine ⟨fun w1 hC _ => by have hq := hC.one.at 4 _ rfl; go_simp; exact Below.refl _ _, ?_⟩
  simp only [Act.put, List.setIfInBounds_toArray, List.set_cons_succ, List.set_cons_zero]
  refine ⟨fun w1 hC _ => ?_, ?_⟩
  · go_simp
    refine (name_c rm false hr.m0 hr.m1 w1 hC.tab).mono ?_
    rintro e w2 ⟨rfl, hb⟩
    exact ⟨rfl, hb⟩
  simp only [Act.put, List.setIfInBounds_toArray, List.set_cons_succ, List.set_cons_zero]
  refine ⟨fun w1 hC _ => by go_simp; exact Below.refl _ _, ?_⟩
  simp only [Act.put, List.setIfInBounds_toArray, List.set_cons_succ, List.set_cons_zero]
  refine ⟨fun w1 hC _ => by go_simp; exact Below.refl _ _, ?_⟩
  simp only [Act.put, List.setIfInBounds_toArray, List.set_cons_succ, List.set_cons_zero]
  refine ⟨fun w1 hC _ => by go_simp; exact Below.refl _ _, ?_⟩
  simp only [Act.put, List.setIfInBounds_toArray, List.set_cons_succ, List.set_cons_zero]
  clear HB
  intro w1 HB _
  have c0 := HB.one.at 0 _ rfl
  repeat' (first | with_reducible refine then_exit ?_ | with_reducible refine then_normal ?_ | with_reducible refine inBlock_eq ?_ | with_reducible refine inBlock_ne rfl ?_ | with_reducible refine inBlock_normal ?_ | (refine wpList_load_if rfl 23 _ rfl w.heap.size rfl 23 _ (0, 0) _ HB.one.box Tryd.underlying23 rfl (by kernel_rfl) ?_; simp only [Act.put, List.setIfInBounds_toArray, List.set_cons_succ, List.set_cons_zero]) | (go_at_call 47; refine (last15 sub rd rn rm ra imm imm2 amount shift cond sys flags minus not link HN hr _ HB.tab).mono ?_; rintro e w' ⟨v, rfl, hrow, hb⟩; dsimp only) | go_step)
  go_ret
  exact ⟨_, rfl, own_mono hrow HB.size, below_then HB.one.below hb⟩

set_option maxRecDepth 8000 in
set_option maxHeartbeats 8000000 in
theorem parts25 (sub rd rn rm ra imm imm2 amount shift cond sys : Int) (flags minus not link : Bool) (hr : InR ⟨25, sub, rd, rn, rm, ra, imm, imm2, amount, shift, cond, sys, flags, minus, not, link⟩) (w : World) (T : Tab w) : Calls Tryd.prog 23 #[(⟨25, sub, rd, rn, rm, ra, imm, imm2, amount, shift, cond, sys, flags, minus, not, link⟩ : Ins).val] w fun e w' => ∃ v, e = .returned v ∧ RowT w.heap.size (([] : List Tx)) v w' ∧ Below w.heap.size w w' := by
  have HB := oneT_start ⟨25, sub, rd, rn, rm, ra, imm, imm2, amount, shift, cond, sys, flags, minus, not, link⟩ w T
  go_enter Tryd.func23, Tryd.ntmps23
  repeat' (first | with_reducible refine then_exit ?_ | with_reducible refine then_normal ?_ | with_reducible refine inBlock_eq ?_ | with_reducible refine inBlock_ne rfl ?_ | with_reducible refine inBlock_normal ?_ | go_step)
  refine wp_region_rel Grows (fun x => OneT ⟨25, sub, rd, rn, rm, ra, imm, imm2, amount, shift, cond, sys, flags, minus, not, link⟩ w x) [.inl (.pointer (some ⟨w.heap.size, 2, none⟩)), .inl (vI rd), .inl (⟨25, sub, rd, rn, rm, ra, imm, imm2, amount, shift, cond, sys, flags, minus, not, link⟩ : Ins).val, .inl (.bool (spD ⟨25, sub, rd, rn, rm, ra, imm, imm2, amount, shift, cond, sys, flags, minus, not, link⟩)), .inl (strV (rdT ⟨25, sub, rd, rn, rm, ra, imm, imm2, amount, shift, cond, sys, flags, minus, not, link⟩)), .inl (.pointer (some ⟨w.heap.size, 3, none⟩)), .inl (vI rn), .inl (⟨25, sub, rd, rn, rm, ra, imm, imm2, amount, shift, cond, sys, flags, minus, not, link⟩ : Ins).val, .inl (.bool (spN ⟨25, sub, rd, rn, rm, ra, imm, imm2, amount, shift, cond, sys, flags, minus, not, link⟩)), .inl (strV (rnT ⟨25, sub, rd, rn, rm, ra, imm, imm2, amount, shift, cond, sys, flags, minus, not, link⟩)), .inl (.pointer (some ⟨w.heap.size, 4, none⟩)), .inl (vI rm), .inl (strV (rmT ⟨25, sub, rd, rn, rm, ra, imm, imm2, amount, shift, cond, sys, flags, minus, not, link⟩)), .inl (strV (rdT ⟨25, sub, rd, rn, rm, ra, imm, imm2, amount, shift, cond, sys, flags, minus, not, link⟩)), .inl (strV (rnT ⟨25, sub, rd, rn, rm, ra, imm, imm2, amount, shift, cond, sys, flags, minus, not, link⟩)), .inl (strV (rmT ⟨25, sub, rd, rn, rm, ra, imm, imm2, amount, shift, cond, sys, flags, minus, not, link⟩))] (by kernel_rfl) (by kernel_rfl) (OneT.up _ _) HB.drew (by simp [upK]) ?_
  refine ⟨fun w1 hC _ => by go_simp; exact Below.refl _ _, ?_⟩
  simp only [Act.put, List.setIfInBounds_toArray, List.set_cons_succ, List.set_cons_zero]
  refine ⟨fun w1 hC _ => by have hq := hC.one.at 2 _ rfl; go_simp; exact Below.refl _ _, ?_⟩
  simp only [Act.put, List.setIfInBounds_toArray, List.set_cons_succ, List.set_cons_zero]
  refine ⟨fun w1 hC _ => rel_load_row 23 _ rfl w.heap.size (by go_simp) 23 (⟨25, sub, rd, rn, rm, ra, imm, imm2, amount, shift, cond, sys, flags, minus, not, link⟩ : Ins).cells (0, 0) _ hC.one.box Tryd.underlying23 rfl (by kernel_rfl), ?_⟩
  simp only [Act.put, List.setIfInBounds_toArray, List.set_cons_succ, List.set_cons_zero]
  refine ⟨fun w1 hC _ => ?_, ?_⟩
  · go_simp
    refine (stackRd_c ⟨25, sub, rd, rn, rm, ra, imm, imm2, amount, shift, cond, sys, flags, minus, not, link⟩ w1).mono ?_
    rintro e w2 ⟨rfl, rfl⟩
    exact ⟨rfl, below_alloc _ _⟩
  simp only [Act.put, List.setIfInBounds_toArray, List.set_cons_succ, List.set_cons_zero]
  refine ⟨fun w1 hC _ => ?_, ?_⟩
  · go_simp
    refine (name_c rd (spD ⟨25, sub, rd, rn, rm, ra, imm, imm2, amount, shift, cond, sys, flags, minus, not, link⟩) hr.d0 hr.d1 w1 hC.tab).mono ?_
    rintro e w2 ⟨rfl, hb⟩
    exact ⟨rfl, hb⟩
  simp only [Act.put, List.setIfInBounds_toArray, List.set_cons_succ, List.set_cons_zero]
  refine ⟨fun w1 hC _ => by go_simp; exact Below.refl _ _, ?_⟩
  simp only [Act.put, List.setIfInBounds_toArray, List.set_cons_succ, List.set_cons_zero]
  refine ⟨fun w1 hC _ => by have hq := hC.one.at 3 _ rfl; go_simp; exact Below.refl _ _, ?_⟩
  simp only [Act.put, List.setIfInBounds_toArray, List.set_cons_succ, List.set_cons_zero]
  refine ⟨fun w1 hC _ => rel_load_row 23 _ rfl w.heap.size (by go_simp) 23 (⟨25, sub, rd, rn, rm, ra, imm, imm2, amount, shift, cond, sys, flags, minus, not, link⟩ : Ins).cells (0, 0) _ hC.one.box Tryd.underlying23 rfl (by kernel_rfl), ?_⟩
  simp only [Act.put, List.setIfInBounds_toArray, List.set_cons_succ, List.set_cons_zero]
  refine ⟨fun w1 hC _ => ?_, ?_⟩
  · go_simp
    refine (stackRn_c ⟨25, sub, rd, rn, rm, ra, imm, imm2, amount, shift, cond, sys, flags, minus, not, link⟩ w1).mono ?_
    rintro e w2 ⟨rfl, rfl⟩
    exact ⟨rfl, below_alloc _ _⟩
  simp only [Act.put, List.setIfInBounds_toArray, List.set_cons_succ, List.set_cons_zero]
  refine ⟨fun w1 hC _ => ?_, ?_⟩
  · go_simp
    refine (name_c rn (spN ⟨25, sub, rd, rn, rm, ra, imm, imm2, amount, shift, cond, sys, flags, minus, not, link⟩) hr.n0 hr.n1 w1 hC.tab).mono ?_
    rintro e w2 ⟨rfl, hb⟩
    exact ⟨rfl, hb⟩
  simp only [Act.put, List.setIfInBounds_toArray, List.set_cons_succ, List.set_cons_zero]
  refine ⟨fun w1 hC _ => by go_simp; exact Below.refl _ _, ?_⟩
  simp only [Act.put, List.setIfInBounds_toArray, List.set_cons_succ, List.set_cons_zero]
  refine ⟨fun w1 hC _ => by have hq := hC.one.at 4 _ rfl; go_simp; exact Below.refl _ _, ?_⟩
  simp only [Act.put, List.setIfInBounds_toArray, List.set_cons_succ, List.set_cons_zero]
  refine ⟨fun w1 hC _ => ?_, ?_⟩
  · go_simp
    refine (name_c rm false hr.m0 hr.m1 w1 hC.tab).mono ?_
    rintro e w2 ⟨rfl, hb⟩
    exact ⟨rfl, hb⟩
  simp only [Act.put, List.setIfInBounds_toArray, List.set_cons_succ, List.set_cons_zero]
  refine ⟨fun w1 hC _ => by go_simp; exact Below.refl _ _, ?_⟩
  simp only [Act.put, List.setIfInBounds_toArray, List.set_cons_succ, List.set_cons_zero]
  refine ⟨fun w1 hC _ => by go_simp; exact Below.refl _ _, ?_⟩
  simp only [Act.put, List.setIfInBounds_toArray, List.set_cons_succ, List.set_cons_zero]
  refine ⟨fun w1 hC _ => by go_simp; exact Below.refl _ _, ?_⟩
  simp only [Act.put, List.setIfInBounds_toArray, List.set_cons_succ, List.set_cons_zero]
  clear HB
  intro w1 HB _
  have c0 := HB.one.at 0 _ rfl
  repeat' (first | with_reducible refine then_exit ?_ | with_reducible refine then_normal ?_ | with_reducible refine inBlock_eq ?_ | with_reducible refine inBlock_ne rfl ?_ | with_reducible refine inBlock_normal ?_ | (refine wpList_load_if rfl 23 _ rfl w.heap.size rfl 23 _ (0, 0) _ HB.one.box Tryd.underlying23 rfl (by kernel_rfl) ?_; simp only [Act.put, List.setIfInBounds_toArray, List.set_cons_succ, List.set_cons_zero]) | (go_at_call 47; refine (last25 sub rd rn rm ra imm imm2 amount shift cond sys flags minus not link _).mono ?_; rintro e w' ⟨v, rfl, hrow, hb⟩; dsimp only) | go_step)
  go_ret
  exact ⟨_, rfl, own_mono hrow HB.size, below_then HB.one.below hb⟩

set_option maxRecDepth 8000 in
set_option maxHeartbeats 8000000 in
theorem parts27 (sub rd rn rm ra imm imm2 amount shift cond sys : Int) (flags minus not link : Bool) (hr : InR ⟨27, sub, rd, rn, rm, ra, imm, imm2, amount, shift, cond, sys, flags, minus, not, link⟩) (w : World) (T : Tab w) : Calls Tryd.prog 23 #[(⟨27, sub, rd, rn, rm, ra, imm, imm2, amount, shift, cond, sys, flags, minus, not, link⟩ : Ins).val] w fun e w' => ∃ v, e = .returned v ∧ RowT w.heap.size (([] : List Tx)) v w' ∧ Below w.heap.size w w' := by
  have HB := oneT_start ⟨27, sub, rd, rn, rm, ra, imm, imm2, amount, shift, cond, sys, flags, minus, not, link⟩ w T
  go_enter Tryd.func23, Tryd.ntmps23
  repeat' (first | with_reducible refine then_exit ?_ | with_reducible refine then_normal ?_ | with_reducible refine inBlock_eq ?_ | with_reducible refine inBlock_ne rfl ?_ | with_reducible refine inBlock_normal ?_ | go_step)
  refine wp_region_rel Grows (fun x => OneT ⟨27, sub, rd, rn, rm, ra, imm, imm2, amount, shift, cond, sys, flags, minus, not, link⟩ w x) [.inl (.pointer (some ⟨w.heap.size, 2, none⟩)), .inl (vI rd), .inl (⟨27, sub, rd, rn, rm, ra, imm, imm2, amount, shift, cond, sys, flags, minus, not, link⟩ : Ins).val, .inl (.bool (spD ⟨27, sub, rd, rn, rm, ra, imm, imm2, amount, shift, cond, sys, flags, minus, not, link⟩)), .inl (strV (rdT ⟨27, sub, rd, rn, rm, ra, imm, imm2, amount, shift, cond, sys, flags, minus, not, link⟩)), .inl (.pointer (some ⟨w.heap.size, 3, none⟩)), .inl (vI rn), .inl (⟨27, sub, rd, rn, rm, ra, imm, imm2, amount, shift, cond, sys, flags, minus, not, link⟩ : Ins).val, .inl (.bool (spN ⟨27, sub, rd, rn, rm, ra, imm, imm2, amount, shift, cond, sys, flags, minus, not, link⟩)), .inl (strV (rnT ⟨27, sub, rd, rn, rm, ra, imm, imm2, amount, shift, cond, sys, flags, minus, not, link⟩)), .inl (.pointer (some ⟨w.heap.size, 4, none⟩)), .inl (vI rm), .inl (strV (rmT ⟨27, sub, rd, rn, rm, ra, imm, imm2, amount, shift, cond, sys, flags, minus, not, link⟩)), .inl (strV (rdT ⟨27, sub, rd, rn, rm, ra, imm, imm2, amount, shift, cond, sys, flags, minus, not, link⟩)), .inl (strV (rnT ⟨27, sub, rd, rn, rm, ra, imm, imm2, amount, shift, cond, sys, flags, minus, not, link⟩)), .inl (strV (rmT ⟨27, sub, rd, rn, rm, ra, imm, imm2, amount, shift, cond, sys, flags, minus, not, link⟩))] (by kernel_rfl) (by kernel_rfl) (OneT.up _ _) HB.drew (by simp [upK]) ?_
  refine ⟨fun w1 hC _ => by go_simp; exact Below.refl _ _, ?_⟩
  simp only [Act.put, List.setIfInBounds_toArray, List.set_cons_succ, List.set_cons_zero]
  refine ⟨fun w1 hC _ => by have hq := hC.one.at 2 _ rfl; go_simp; exact Below.refl _ _, ?_⟩
  simp only [Act.put, List.setIfInBounds_toArray, List.set_cons_succ, List.set_cons_zero]
  refine ⟨fun w1 hC _ => rel_load_row 23 _ rfl w.heap.size (by go_simp) 23 (⟨27, sub, rd, rn, rm, ra, imm, imm2, amount, shift, cond, sys, flags, minus, not, link⟩ : Ins).cells (0, 0) _ hC.one.box Tryd.underlying23 rfl (by kernel_rfl), ?_⟩
  simp only [Act.put, List.setIfInBounds_toArray, List.set_cons_succ, List.set_cons_zero]
  refine ⟨fun w1 hC _ => ?_, ?_⟩
  · go_simp
    refine (stackRd_c ⟨27, sub, rd, rn, rm, ra, imm, imm2, amount, shift, cond, sys, flags, minus, not, link⟩ w1).mono ?_
    rintro e w2 ⟨rfl, rfl⟩
    exact ⟨rfl, below_alloc _ _⟩
  simp only [Act.put, List.setIfInBounds_toArray, List.set_cons_succ, List.set_cons_zero]
  refine ⟨fun w1 hC _ => ?_, ?_⟩
  · go_simp
    refine (name_c rd (spD ⟨27, sub, rd, rn, rm, ra, imm, imm2, amount, shift, cond, sys, flags, minus, not, link⟩) hr.d0 hr.d1 w1 hC.tab).mono ?_
    rintro e w2 ⟨rfl, hb⟩
    exact ⟨rfl, hb⟩
  simp only [Act.put, List.setIfInBounds_toArray, List.set_cons_succ, List.set_cons_zero]
  refine ⟨fun w1 hC _ => by go_simp; exact Below.refl _ _, ?_⟩
  simp only [Act.put, List.setIfInBounds_toArray, List.set_cons_succ, List.set_cons_zero]
  refine ⟨fun w1 hC _ => by have hq := hC.one.at 3 _ rfl; go_simp; exact Below.refl _ _, ?_⟩
  simp only [Act.put, List.setIfInBounds_toArray, List.set_cons_succ, List.set_cons_zero]
  refine ⟨fun w1 hC _ => rel_load_row 23 _ rfl w.heap.size (by go_simp) 23 (⟨27, sub, rd, rn, rm, ra, imm, imm2, amount, shift, cond, sys, flags, minus, not, link⟩ : Ins).cells (0, 0) _ hC.one.box Tryd.underlying23 rfl (by kernel_rfl), ?_⟩
  simp only [Act.put, List.setIfInBounds_toArray, List.set_cons_succ, List.set_cons_zero]
  refine ⟨fun w1 hC _ => ?_, ?_⟩
  · go_simp
    refine (stackRn_c ⟨27, sub, rd, rn, rm, ra, imm, imm2, amount, shift, cond, sys, flags, minus, not, link⟩ w1).mono ?_
    rintro e w2 ⟨rfl, rfl⟩
    exact ⟨rfl, below_alloc _ _⟩
  simp only [Act.put, List.setIfInBounds_toArray, List.set_cons_succ, List.set_cons_zero]
  refine ⟨fun w1 hC _ => ?_, ?_⟩
  · go_simp
    refine (name_c rn (spN ⟨27, sub, rd, rn, rm, ra, imm, imm2, amount, shift, cond, sys, flags, minus, not, link⟩) hr.n0 hr.n1 w1 hC.tab).mono ?_
    rintro e w2 ⟨rfl, hb⟩
    exact ⟨rfl, hb⟩
  simp only [Act.put, List.setIfInBounds_toArray, List.set_cons_succ, List.set_cons_zero]
  refine ⟨fun w1 hC _ => by go_simp; exact Below.refl _ _, ?_⟩
  simp only [Act.put, List.setIfInBounds_toArray, List.set_cons_succ, List.set_cons_zero]
  refine ⟨fun w1 hC _ => by have hq := hC.one.at 4 _ rfl; go_simp; exact Below.refl _ _, ?_⟩
  simp only [Act.put, List.setIfInBounds_toArray, List.set_cons_succ, List.set_cons_zero]
  refine ⟨fun w1 hC _ => ?_, ?_⟩
  · go_simp
    refine (name_c rm false hr.m0 hr.m1 w1 hC.tab).mono ?_
    rintro e w2 ⟨rfl, hb⟩
    exact ⟨rfl, hb⟩
  simp only [Act.put, List.setIfInBounds_toArray, List.set_cons_succ, List.set_cons_zero]
  refine ⟨fun w1 hC _ => by go_simp; exact Below.refl _ _, ?_⟩
  simp only [Act.put, List.setIfInBounds_toArray, List.set_cons_succ, List.set_cons_zero]
  refine ⟨fun w1 hC _ => by go_simp; exact Below.refl _ _, ?_⟩
  simp only [Act.put, List.setIfInBounds_toArray, List.set_cons_succ, List.set_cons_zero]
  refine ⟨fun w1 hC _ => by go_simp; exact Below.refl _ _, ?_⟩
  simp only [Act.put, List.setIfInBounds_toArray, List.set_cons_succ, List.set_cons_zero]
  clear HB
  intro w1 HB _
  have c0 := HB.one.at 0 _ rfl
  repeat' (first | with_reducible refine then_exit ?_ | with_reducible refine then_normal ?_ | with_reducible refine inBlock_eq ?_ | with_reducible refine inBlock_ne rfl ?_ | with_reducible refine inBlock_normal ?_ | (refine wpList_load_if rfl 23 _ rfl w.heap.size rfl 23 _ (0, 0) _ HB.one.box Tryd.underlying23 rfl (by kernel_rfl) ?_; simp only [Act.put, List.setIfInBounds_toArray, List.set_cons_succ, List.set_cons_zero]) | (go_at_call 47; refine (last27 sub rd rn rm ra imm imm2 amount shift cond sys flags minus not link _).mono ?_; rintro e w' ⟨v, rfl, hrow, hb⟩; dsimp only) | go_step)
  go_ret
  exact ⟨_, rfl, own_mono hrow HB.size, below_then HB.one.below hb⟩
end Go.Proofs.YtmbefmmnkfoneaaDoor
