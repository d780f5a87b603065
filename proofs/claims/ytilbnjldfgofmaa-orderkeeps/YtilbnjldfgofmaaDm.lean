/- The document's own Right: the fields. -/
import Derived.Test.YtilbnjldfgofmaaDb
namespace Go.Proofs.Ytilbnjldfgofmaa
open Go.RowKit
set_option linter.unusedVariables false
set_option linter.unusedSimpArgs false
set_option maxRecDepth 8000

def fieldB (o : Opr) : Bool := isK o.kind && (hasP o.kind 1 || o.r == 0) && (hasP o.kind 8 || o.order == 0) && (hasP o.kind 16 || o.imm == 0) && rangeB o
section
variable {r a b order imm : Int}
set_option maxHeartbeats 2000000 in
theorem field_1 (hi : 0 ≤ imm) (w : World) : Calls Try.prog 22 #[opV ⟨1, r, a, b, order, imm⟩] w fun e w' => e = .returned (.bool (fieldB ⟨1, r, a, b, order, imm⟩)) ∧ Below w.heap.size w w' := by
  have hb := below_alloc w (.cells (opA ⟨1, r, a, b, order, imm⟩) 40)
  have L : LocO w.heap.size ⟨1, r, a, b, order, imm⟩ (w.alloc (.cells (opA ⟨1, r, a, b, order, imm⟩) 40)) := LocO.new w _
  have ef : fieldB ⟨1, r, a, b, order, imm⟩ = ((r == 0) && (order == 0) && (true)) := by
    unfold fieldB
    have h0 : isK 1 = true := by decide
    have hr : rangeB ⟨1, r, a, b, order, imm⟩ = (true) := by
      simp [rangeB]
    rw [hr]
    simp [h0, hp1_1, hp1_8, hp1_16]
  rw [ef]
  clear ef
  go_enter Try.func22, Try.ntmps22
  go_upto_region 1 with fail
  generalize w.alloc (.cells (opA ⟨1, r, a, b, order, imm⟩) 40) = w1 at *
  have z0 := L.c0
  have z1 := L.c1
  have z4 := L.c4
  have z5 := L.c5
  generalize hr : (r == 0) = br
  generalize horder : (order == 0) = border
  go_wp2_with fail
  all_goals (go_ret; refine ⟨ret_bool ?_, hb⟩; simp_all)
set_option maxHeartbeats 2000000 in
theorem field_2 (hi : 0 ≤ imm) (w : World) : Calls Try.prog 22 #[opV ⟨2, r, a, b, order, imm⟩] w fun e w' => e = .returned (.bool (fieldB ⟨2, r, a, b, order, imm⟩)) ∧ Below w.heap.size w w' := by
  have hb := below_alloc w (.cells (opA ⟨2, r, a, b, order, imm⟩) 40)
  have L : LocO w.heap.size ⟨2, r, a, b, order, imm⟩ (w.alloc (.cells (opA ⟨2, r, a, b, order, imm⟩) 40)) := LocO.new w _
  have ef : fieldB ⟨2, r, a, b, order, imm⟩ = ((order == 0) && (imm == 0) && (decide (0 ≤ r) && decide (r ≤ 30))) := by
    unfold fieldB
    have h0 : isK 2 = true := by decide
    have hr : rangeB ⟨2, r, a, b, order, imm⟩ = (decide (0 ≤ r) && decide (r ≤ 30)) := by
      simp [rangeB]
    rw [hr]
    simp [h0, hp2_1, hp2_8, hp2_16]
  rw [ef]
  clear ef
  go_enter Try.func22, Try.ntmps22
  go_upto_region 1 with fail
  generalize w.alloc (.cells (opA ⟨2, r, a, b, order, imm⟩) 40) = w1 at *
  have z0 := L.c0
  have z1 := L.c1
  have z4 := L.c4
  have z5 := L.c5
  have ki := fun y => dIn_c r 0 30 y
  generalize hg : (decide ((0 : Int) ≤ r) && decide (r ≤ (30 : Int))) = gg at ki ⊢
  generalize horder : (order == 0) = border
  generalize himm : (imm == 0) = bimm
  go_wp2_with (go_at_call 21; (with_reducible refine (ki _).mono ?_); rintro e w2 ⟨rfl, rfl⟩; dsimp only)
  all_goals (go_ret; refine ⟨ret_bool ?_, hb⟩; simp_all)
set_option maxHeartbeats 2000000 in
theorem field_3 (hi : 0 ≤ imm) (w : World) : Calls Try.prog 22 #[opV ⟨3, r, a, b, order, imm⟩] w fun e w' => e = .returned (.bool (fieldB ⟨3, r, a, b, order, imm⟩)) ∧ Below w.heap.size w w' := by
  have hb := below_alloc w (.cells (opA ⟨3, r, a, b, order, imm⟩) 40)
  have L : LocO w.heap.size ⟨3, r, a, b, order, imm⟩ (w.alloc (.cells (opA ⟨3, r, a, b, order, imm⟩) 40)) := LocO.new w _
  have ef : fieldB ⟨3, r, a, b, order, imm⟩ = ((order == 0) && (imm == 0) && (decide (0 ≤ r) && decide (r ≤ 30))) := by
    unfold fieldB
    have h0 : isK 3 = true := by decide
    have hr : rangeB ⟨3, r, a, b, order, imm⟩ = (decide (0 ≤ r) && decide (r ≤ 30)) := by
      simp [rangeB]
    rw [hr]
    simp [h0, hp3_1, hp3_8, hp3_16]
  rw [ef]
  clear ef
  go_enter Try.func22, Try.ntmps22
  go_upto_region 1 with fail
  generalize w.alloc (.cells (opA ⟨3, r, a, b, order, imm⟩) 40) = w1 at *
  have z0 := L.c0
  have z1 := L.c1
  have z4 := L.c4
  have z5 := L.c5
  have ki := fun y => dIn_c r 0 30 y
  generalize hg : (decide ((0 : Int) ≤ r) && decide (r ≤ (30 : Int))) = gg at ki ⊢
  generalize horder : (order == 0) = border
  generalize himm : (imm == 0) = bimm
  go_wp2_with (go_at_call 21; (with_reducible refine (ki _).mono ?_); rintro e w2 ⟨rfl, rfl⟩; dsimp only)
  all_goals (go_ret; refine ⟨ret_bool ?_, hb⟩; simp_all)
set_option maxHeartbeats 2000000 in
theorem field_4 (hi : 0 ≤ imm) (w : World) : Calls Try.prog 22 #[opV ⟨4, r, a, b, order, imm⟩] w fun e w' => e = .returned (.bool (fieldB ⟨4, r, a, b, order, imm⟩)) ∧ Below w.heap.size w w' := by
  have hb := below_alloc w (.cells (opA ⟨4, r, a, b, order, imm⟩) 40)
  have L : LocO w.heap.size ⟨4, r, a, b, order, imm⟩ (w.alloc (.cells (opA ⟨4, r, a, b, order, imm⟩) 40)) := LocO.new w _
  have ef : fieldB ⟨4, r, a, b, order, imm⟩ = ((r == 0) && (order == 0) && (imm == 0) && (true)) := by
    unfold fieldB
    have h0 : isK 4 = true := by decide
    have hr : rangeB ⟨4, r, a, b, order, imm⟩ = (true) := by
      simp [rangeB]
    rw [hr]
    simp [h0, hp4_1, hp4_8, hp4_16]
  rw [ef]
  clear ef
  go_enter Try.func22, Try.ntmps22
  go_upto_region 1 with fail
  generalize w.alloc (.cells (opA ⟨4, r, a, b, order, imm⟩) 40) = w1 at *
  have z0 := L.c0
  have z1 := L.c1
  have z4 := L.c4
  have z5 := L.c5
  generalize hr : (r == 0) = br
  generalize horder : (order == 0) = border
  generalize himm : (imm == 0) = bimm
  go_wp2_with fail
  all_goals (go_ret; refine ⟨ret_bool ?_, hb⟩; simp_all)
set_option maxHeartbeats 2000000 in
theorem field_5 (hi : 0 ≤ imm) (w : World) : Calls Try.prog 22 #[opV ⟨5, r, a, b, order, imm⟩] w fun e w' => e = .returned (.bool (fieldB ⟨5, r, a, b, order, imm⟩)) ∧ Below w.heap.size w w' := by
  have hb := below_alloc w (.cells (opA ⟨5, r, a, b, order, imm⟩) 40)
  have L : LocO w.heap.size ⟨5, r, a, b, order, imm⟩ (w.alloc (.cells (opA ⟨5, r, a, b, order, imm⟩) 40)) := LocO.new w _
  have ef : fieldB ⟨5, r, a, b, order, imm⟩ = ((r == 0) && (order == 0) && (imm == 0) && (true)) := by
    unfold fieldB
    have h0 : isK 5 = true := by decide
    have hr : rangeB ⟨5, r, a, b, order, imm⟩ = (true) := by
      simp [rangeB]
    rw [hr]
    simp [h0, hp5_1, hp5_8, hp5_16]
  rw [ef]
  clear ef
  go_enter Try.func22, Try.ntmps22
  go_upto_region 1 with fail
  generalize w.alloc (.cells (opA ⟨5, r, a, b, order, imm⟩) 40) = w1 at *
  have z0 := L.c0
  have z1 := L.c1
  have z4 := L.c4
  have z5 := L.c5
  generalize hr : (r == 0) = br
  generalize horder : (order == 0) = border
  generalize himm : (imm == 0) = bimm
  go_wp2_with fail
  all_goals (go_ret; refine ⟨ret_bool ?_, hb⟩; simp_all)
set_option maxHeartbeats 2000000 in
theorem field_6 (hi : 0 ≤ imm) (w : World) : Calls Try.prog 22 #[opV ⟨6, r, a, b, order, imm⟩] w fun e w' => e = .returned (.bool (fieldB ⟨6, r, a, b, order, imm⟩)) ∧ Below w.heap.size w w' := by
  have hb := below_alloc w (.cells (opA ⟨6, r, a, b, order, imm⟩) 40)
  have L : LocO w.heap.size ⟨6, r, a, b, order, imm⟩ (w.alloc (.cells (opA ⟨6, r, a, b, order, imm⟩) 40)) := LocO.new w _
  have ef : fieldB ⟨6, r, a, b, order, imm⟩ = ((order == 0) && (imm == 0) && (decide (0 ≤ r) && decide (r ≤ 3))) := by
    unfold fieldB
    have h0 : isK 6 = true := by decide
    have hr : rangeB ⟨6, r, a, b, order, imm⟩ = (decide (0 ≤ r) && decide (r ≤ 3)) := by
      simp [rangeB]
    rw [hr]
    simp [h0, hp6_1, hp6_8, hp6_16]
  rw [ef]
  clear ef
  go_enter Try.func22, Try.ntmps22
  go_upto_region 1 with fail
  generalize w.alloc (.cells (opA ⟨6, r, a, b, order, imm⟩) 40) = w1 at *
  have z0 := L.c0
  have z1 := L.c1
  have z4 := L.c4
  have z5 := L.c5
  have ki := fun y => dIn_c r 0 3 y
  generalize hg : (decide ((0 : Int) ≤ r) && decide (r ≤ (3 : Int))) = gg at ki ⊢
  generalize horder : (order == 0) = border
  generalize himm : (imm == 0) = bimm
  go_wp2_with (go_at_call 21; (with_reducible refine (ki _).mono ?_); rintro e w2 ⟨rfl, rfl⟩; dsimp only)
  all_goals (go_ret; refine ⟨ret_bool ?_, hb⟩; simp_all)
set_option maxHeartbeats 2000000 in
theorem field_7 (hi : 0 ≤ imm) (w : World) : Calls Try.prog 22 #[opV ⟨7, r, a, b, order, imm⟩] w fun e w' => e = .returned (.bool (fieldB ⟨7, r, a, b, order, imm⟩)) ∧ Below w.heap.size w w' := by
  have hb := below_alloc w (.cells (opA ⟨7, r, a, b, order, imm⟩) 40)
  have L : LocO w.heap.size ⟨7, r, a, b, order, imm⟩ (w.alloc (.cells (opA ⟨7, r, a, b, order, imm⟩) 40)) := LocO.new w _
  have ef : fieldB ⟨7, r, a, b, order, imm⟩ = ((order == 0) && (imm == 0) && (decide (0 ≤ r) && decide (r ≤ 3))) := by
    unfold fieldB
    have h0 : isK 7 = true := by decide
    have hr : rangeB ⟨7, r, a, b, order, imm⟩ = (decide (0 ≤ r) && decide (r ≤ 3)) := by
      simp [rangeB]
    rw [hr]
    simp [h0, hp7_1, hp7_8, hp7_16]
  rw [ef]
  clear ef
  go_enter Try.func22, Try.ntmps22
  go_upto_region 1 with fail
  generalize w.alloc (.cells (opA ⟨7, r, a, b, order, imm⟩) 40) = w1 at *
  have z0 := L.c0
  have z1 := L.c1
  have z4 := L.c4
  have z5 := L.c5
  have ki := fun y => dIn_c r 0 3 y
  generalize hg : (decide ((0 : Int) ≤ r) && decide (r ≤ (3 : Int))) = gg at ki ⊢
  generalize horder : (order == 0) = border
  generalize himm : (imm == 0) = bimm
  go_wp2_with (go_at_call 21; (with_reducible refine (ki _).mono ?_); rintro e w2 ⟨rfl, rfl⟩; dsimp only)
  all_goals (go_ret; refine ⟨ret_bool ?_, hb⟩; simp_all)
set_option maxHeartbeats 2000000 in
theorem field_8 (hi : 0 ≤ imm) (w : World) : Calls Try.prog 22 #[opV ⟨8, r, a, b, order, imm⟩] w fun e w' => e = .returned (.bool (fieldB ⟨8, r, a, b, order, imm⟩)) ∧ Below w.heap.size w w' := by
  have hb := below_alloc w (.cells (opA ⟨8, r, a, b, order, imm⟩) 40)
  have L : LocO w.heap.size ⟨8, r, a, b, order, imm⟩ (w.alloc (.cells (opA ⟨8, r, a, b, order, imm⟩) 40)) := LocO.new w _
  have ef : fieldB ⟨8, r, a, b, order, imm⟩ = ((order == 0) && (imm == 0) && (decide (1 ≤ r) && decide (r ≤ 15))) := by
    unfold fieldB
    have h0 : isK 8 = true := by decide
    have hr : rangeB ⟨8, r, a, b, order, imm⟩ = (decide (1 ≤ r) && decide (r ≤ 15)) := by
      simp [rangeB]
    rw [hr]
    simp [h0, hp8_1, hp8_8, hp8_16]
  rw [ef]
  clear ef
  go_enter Try.func22, Try.ntmps22
  go_upto_region 1 with fail
  generalize w.alloc (.cells (opA ⟨8, r, a, b, order, imm⟩) 40) = w1 at *
  have z0 := L.c0
  have z1 := L.c1
  have z4 := L.c4
  have z5 := L.c5
  have ki := fun y => dIn_c r 1 15 y
  generalize hg : (decide ((1 : Int) ≤ r) && decide (r ≤ (15 : Int))) = gg at ki ⊢
  generalize horder : (order == 0) = border
  generalize himm : (imm == 0) = bimm
  go_wp2_with (go_at_call 21; (with_reducible refine (ki _).mono ?_); rintro e w2 ⟨rfl, rfl⟩; dsimp only)
  all_goals (go_ret; refine ⟨ret_bool ?_, hb⟩; simp_all)
set_option maxHeartbeats 2000000 in
theorem field_9 (hi : 0 ≤ imm) (w : World) : Calls Try.prog 22 #[opV ⟨9, r, a, b, order, imm⟩] w fun e w' => e = .returned (.bool (fieldB ⟨9, r, a, b, order, imm⟩)) ∧ Below w.heap.size w w' := by
  have hb := below_alloc w (.cells (opA ⟨9, r, a, b, order, imm⟩) 40)
  have L : LocO w.heap.size ⟨9, r, a, b, order, imm⟩ (w.alloc (.cells (opA ⟨9, r, a, b, order, imm⟩) 40)) := LocO.new w _
  have e9 : (order == 0 || order == 1 || order == 2) = (decide (0 ≤ order) && decide (order ≤ 2)) := by rw [Bool.eq_iff_iff]; simp; omega
  have ef : fieldB ⟨9, r, a, b, order, imm⟩ = ((r == 0) && (imm == 0) && (decide (0 ≤ order) && decide (order ≤ 2))) := by
    unfold fieldB
    have h0 : isK 9 = true := by decide
    have hr : rangeB ⟨9, r, a, b, order, imm⟩ = (decide (0 ≤ order) && decide (order ≤ 2)) := by
      simp [rangeB]
      exact e9
    rw [hr]
    simp [h0, hp9_1, hp9_8, hp9_16]
  rw [ef]
  clear ef
  go_enter Try.func22, Try.ntmps22
  go_upto_region 1 with fail
  generalize w.alloc (.cells (opA ⟨9, r, a, b, order, imm⟩) 40) = w1 at *
  have z0 := L.c0
  have z1 := L.c1
  have z4 := L.c4
  have z5 := L.c5
  have ki := fun y => dIn_c order 0 2 y
  generalize hg : (decide ((0 : Int) ≤ order) && decide (order ≤ (2 : Int))) = gg at ki ⊢
  generalize hr : (r == 0) = br
  generalize himm : (imm == 0) = bimm
  go_wp2_with (go_at_call 21; (with_reducible refine (ki _).mono ?_); rintro e w2 ⟨rfl, rfl⟩; dsimp only)
  all_goals (go_ret; refine ⟨ret_bool ?_, hb⟩; simp_all)
set_option maxHeartbeats 2000000 in
theorem field_10 (hi : 0 ≤ imm) (w : World) : Calls Try.prog 22 #[opV ⟨10, r, a, b, order, imm⟩] w fun e w' => e = .returned (.bool (fieldB ⟨10, r, a, b, order, imm⟩)) ∧ Below w.heap.size w w' := by
  have hb := below_alloc w (.cells (opA ⟨10, r, a, b, order, imm⟩) 40)
  have L : LocO w.heap.size ⟨10, r, a, b, order, imm⟩ (w.alloc (.cells (opA ⟨10, r, a, b, order, imm⟩) 40)) := LocO.new w _
  have ef : fieldB ⟨10, r, a, b, order, imm⟩ = ((r == 0) && (imm == 0) && ((order == 0 || order == 4))) := by
    unfold fieldB
    have h0 : isK 10 = true := by decide
    have hr : rangeB ⟨10, r, a, b, order, imm⟩ = ((order == 0 || order == 4)) := by
      simp [rangeB]
    rw [hr]
    simp [h0, hp10_1, hp10_8, hp10_16]
  rw [ef]
  clear ef
  go_enter Try.func22, Try.ntmps22
  go_upto_region 1 with fail
  generalize w.alloc (.cells (opA ⟨10, r, a, b, order, imm⟩) 40) = w1 at *
  have z0 := L.c0
  have z1 := L.c1
  have z4 := L.c4
  have z5 := L.c5
  generalize hr : (r == 0) = br
  generalize himm : (imm == 0) = bimm
  go_wp2_with fail
  all_goals (go_ret; refine ⟨ret_bool ?_, hb⟩; simp_all)
set_option maxHeartbeats 2000000 in
theorem field_11 (hi : 0 ≤ imm) (w : World) : Calls Try.prog 22 #[opV ⟨11, r, a, b, order, imm⟩] w fun e w' => e = .returned (.bool (fieldB ⟨11, r, a, b, order, imm⟩)) ∧ Below w.heap.size w w' := by
  have hb := below_alloc w (.cells (opA ⟨11, r, a, b, order, imm⟩) 40)
  have L : LocO w.heap.size ⟨11, r, a, b, order, imm⟩ (w.alloc (.cells (opA ⟨11, r, a, b, order, imm⟩) 40)) := LocO.new w _
  have ef : fieldB ⟨11, r, a, b, order, imm⟩ = ((r == 0) && (imm == 0) && ((order == 0 || order == 2))) := by
    unfold fieldB
    have h0 : isK 11 = true := by decide
    have hr : rangeB ⟨11, r, a, b, order, imm⟩ = ((order == 0 || order == 2)) := by
      simp [rangeB]
    rw [hr]
    simp [h0, hp11_1, hp11_8, hp11_16]
  rw [ef]
  clear ef
  go_enter Try.func22, Try.ntmps22
  go_upto_region 1 with fail
  generalize w.alloc (.cells (opA ⟨11, r, a, b, order, imm⟩) 40) = w1 at *
  have z0 := L.c0
  have z1 := L.c1
  have z4 := L.c4
  have z5 := L.c5
  generalize hr : (r == 0) = br
  generalize himm : (imm == 0) = bimm
  go_wp2_with fail
  all_goals (go_ret; refine ⟨ret_bool ?_, hb⟩; simp_all)
set_option maxHeartbeats 2000000 in
theorem field_12 (hi : 0 ≤ imm) (w : World) : Calls Try.prog 22 #[opV ⟨12, r, a, b, order, imm⟩] w fun e w' => e = .returned (.bool (fieldB ⟨12, r, a, b, order, imm⟩)) ∧ Below w.heap.size w w' := by
  have hb := below_alloc w (.cells (opA ⟨12, r, a, b, order, imm⟩) 40)
  have L : LocO w.heap.size ⟨12, r, a, b, order, imm⟩ (w.alloc (.cells (opA ⟨12, r, a, b, order, imm⟩) 40)) := LocO.new w _
  have ef : fieldB ⟨12, r, a, b, order, imm⟩ = ((r == 0) && (imm == 0) && ((order == 0 || order == 4))) := by
    unfold fieldB
    have h0 : isK 12 = true := by decide
    have hr : rangeB ⟨12, r, a, b, order, imm⟩ = ((order == 0 || order == 4)) := by
      simp [rangeB]
    rw [hr]
    simp [h0, hp12_1, hp12_8, hp12_16]
  rw [ef]
  clear ef
  go_enter Try.func22, Try.ntmps22
  go_upto_region 1 with fail
  generalize w.alloc (.cells (opA ⟨12, r, a, b, order, imm⟩) 40) = w1 at *
  have z0 := L.c0
  have z1 := L.c1
  have z4 := L.c4
  have z5 := L.c5
  generalize hr : (r == 0) = br
  generalize himm : (imm == 0) = bimm
  go_wp2_with fail
  all_goals (go_ret; refine ⟨ret_bool ?_, hb⟩; simp_all)
set_option maxHeartbeats 2000000 in
theorem field_13 (hi : 0 ≤ imm) (w : World) : Calls Try.prog 22 #[opV ⟨13, r, a, b, order, imm⟩] w fun e w' => e = .returned (.bool (fieldB ⟨13, r, a, b, order, imm⟩)) ∧ Below w.heap.size w w' := by
  have hb := below_alloc w (.cells (opA ⟨13, r, a, b, order, imm⟩) 40)
  have L : LocO w.heap.size ⟨13, r, a, b, order, imm⟩ (w.alloc (.cells (opA ⟨13, r, a, b, order, imm⟩) 40)) := LocO.new w _
  have ef : fieldB ⟨13, r, a, b, order, imm⟩ = ((order == 0) && (imm == 0) && ((r == 13 || r == 10 || r == 15))) := by
    unfold fieldB
    have h0 : isK 13 = true := by decide
    have hr : rangeB ⟨13, r, a, b, order, imm⟩ = ((r == 13 || r == 10 || r == 15)) := by
      simp [rangeB]
    rw [hr]
    simp [h0, hp13_1, hp13_8, hp13_16]
  rw [ef]
  clear ef
  go_enter Try.func22, Try.ntmps22
  go_upto_region 1 with fail
  generalize w.alloc (.cells (opA ⟨13, r, a, b, order, imm⟩) 40) = w1 at *
  have z0 := L.c0
  have z1 := L.c1
  have z4 := L.c4
  have z5 := L.c5
  generalize horder : (order == 0) = border
  generalize himm : (imm == 0) = bimm
  go_wp2_with fail
  all_goals (go_ret; refine ⟨ret_bool ?_, hb⟩; simp_all)
set_option maxHeartbeats 2000000 in
theorem field_14 (hi : 0 ≤ imm) (w : World) : Calls Try.prog 22 #[opV ⟨14, r, a, b, order, imm⟩] w fun e w' => e = .returned (.bool (fieldB ⟨14, r, a, b, order, imm⟩)) ∧ Below w.heap.size w w' := by
  have hb := below_alloc w (.cells (opA ⟨14, r, a, b, order, imm⟩) 40)
  have L : LocO w.heap.size ⟨14, r, a, b, order, imm⟩ (w.alloc (.cells (opA ⟨14, r, a, b, order, imm⟩) 40)) := LocO.new w _
  have e14 : (imm % 4 == 0) = (imm.tmod 4 == 0) := by rw [Int.tmod_eq_emod_of_nonneg hi]
  have ef : fieldB ⟨14, r, a, b, order, imm⟩ = ((r == 0) && (order == 0) && (imm.tmod 4 == 0)) := by
    unfold fieldB
    have h0 : isK 14 = true := by decide
    have hr : rangeB ⟨14, r, a, b, order, imm⟩ = (imm.tmod 4 == 0) := by
      simp [rangeB]
      exact e14
    rw [hr]
    simp [h0, hp14_1, hp14_8, hp14_16]
  rw [ef]
  clear ef
  go_enter Try.func22, Try.ntmps22
  go_upto_region 1 with fail
  generalize w.alloc (.cells (opA ⟨14, r, a, b, order, imm⟩) 40) = w1 at *
  have z0 := L.c0
  have z1 := L.c1
  have z4 := L.c4
  have z5 := L.c5
  generalize hr : (r == 0) = br
  generalize horder : (order == 0) = border
  go_wp2_with fail
  all_goals (go_ret; refine ⟨ret_bool ?_, hb⟩; simp_all)
set_option maxHeartbeats 2000000 in
theorem field_15 (hi : 0 ≤ imm) (w : World) : Calls Try.prog 22 #[opV ⟨15, r, a, b, order, imm⟩] w fun e w' => e = .returned (.bool (fieldB ⟨15, r, a, b, order, imm⟩)) ∧ Below w.heap.size w w' := by
  have hb := below_alloc w (.cells (opA ⟨15, r, a, b, order, imm⟩) 40)
  have L : LocO w.heap.size ⟨15, r, a, b, order, imm⟩ (w.alloc (.cells (opA ⟨15, r, a, b, order, imm⟩) 40)) := LocO.new w _
  have ef : fieldB ⟨15, r, a, b, order, imm⟩ = ((r == 0) && (order == 0) && (true)) := by
    unfold fieldB
    have h0 : isK 15 = true := by decide
    have hr : rangeB ⟨15, r, a, b, order, imm⟩ = (true) := by
      simp [rangeB]
    rw [hr]
    simp [h0, hp15_1, hp15_8, hp15_16]
  rw [ef]
  clear ef
  go_enter Try.func22, Try.ntmps22
  go_upto_region 1 with fail
  generalize w.alloc (.cells (opA ⟨15, r, a, b, order, imm⟩) 40) = w1 at *
  have z0 := L.c0
  have z1 := L.c1
  have z4 := L.c4
  have z5 := L.c5
  generalize hr : (r == 0) = br
  generalize horder : (order == 0) = border
  go_wp2_with fail
  all_goals (go_ret; refine ⟨ret_bool ?_, hb⟩; simp_all)
set_option maxHeartbeats 2000000 in
theorem field_16 (hi : 0 ≤ imm) (w : World) : Calls Try.prog 22 #[opV ⟨16, r, a, b, order, imm⟩] w fun e w' => e = .returned (.bool (fieldB ⟨16, r, a, b, order, imm⟩)) ∧ Below w.heap.size w w' := by
  have hb := below_alloc w (.cells (opA ⟨16, r, a, b, order, imm⟩) 40)
  have L : LocO w.heap.size ⟨16, r, a, b, order, imm⟩ (w.alloc (.cells (opA ⟨16, r, a, b, order, imm⟩) 40)) := LocO.new w _
  have ef : fieldB ⟨16, r, a, b, order, imm⟩ = ((r == 0) && (order == 0) && (true)) := by
    unfold fieldB
    have h0 : isK 16 = true := by decide
    have hr : rangeB ⟨16, r, a, b, order, imm⟩ = (true) := by
      simp [rangeB]
    rw [hr]
    simp [h0, hp16_1, hp16_8, hp16_16]
  rw [ef]
  clear ef
  go_enter Try.func22, Try.ntmps22
  go_upto_region 1 with fail
  generalize w.alloc (.cells (opA ⟨16, r, a, b, order, imm⟩) 40) = w1 at *
  have z0 := L.c0
  have z1 := L.c1
  have z4 := L.c4
  have z5 := L.c5
  generalize hr : (r == 0) = br
  generalize horder : (order == 0) = border
  go_wp2_with fail
  all_goals (go_ret; refine ⟨ret_bool ?_, hb⟩; simp_all)
set_option maxHeartbeats 2000000 in
theorem field_17 (hi : 0 ≤ imm) (w : World) : Calls Try.prog 22 #[opV ⟨17, r, a, b, order, imm⟩] w fun e w' => e = .returned (.bool (fieldB ⟨17, r, a, b, order, imm⟩)) ∧ Below w.heap.size w w' := by
  have hb := below_alloc w (.cells (opA ⟨17, r, a, b, order, imm⟩) 40)
  have L : LocO w.heap.size ⟨17, r, a, b, order, imm⟩ (w.alloc (.cells (opA ⟨17, r, a, b, order, imm⟩) 40)) := LocO.new w _
  have ef : fieldB ⟨17, r, a, b, order, imm⟩ = ((r == 0) && (order == 0) && (imm == 0) && (true)) := by
    unfold fieldB
    have h0 : isK 17 = true := by decide
    have hr : rangeB ⟨17, r, a, b, order, imm⟩ = (true) := by
      simp [rangeB]
    rw [hr]
    simp [h0, hp17_1, hp17_8, hp17_16]
  rw [ef]
  clear ef
  go_enter Try.func22, Try.ntmps22
  go_upto_region 1 with fail
  generalize w.alloc (.cells (opA ⟨17, r, a, b, order, imm⟩) 40) = w1 at *
  have z0 := L.c0
  have z1 := L.c1
  have z4 := L.c4
  have z5 := L.c5
  generalize hr : (r == 0) = br
  generalize horder : (order == 0) = border
  generalize himm : (imm == 0) = bimm
  go_wp2_with fail
  all_goals (go_ret; refine ⟨ret_bool ?_, hb⟩; simp_all)
set_option maxHeartbeats 2000000 in
theorem field_18 (hi : 0 ≤ imm) (w : World) : Calls Try.prog 22 #[opV ⟨18, r, a, b, order, imm⟩] w fun e w' => e = .returned (.bool (fieldB ⟨18, r, a, b, order, imm⟩)) ∧ Below w.heap.size w w' := by
  have hb := below_alloc w (.cells (opA ⟨18, r, a, b, order, imm⟩) 40)
  have L : LocO w.heap.size ⟨18, r, a, b, order, imm⟩ (w.alloc (.cells (opA ⟨18, r, a, b, order, imm⟩) 40)) := LocO.new w _
  have ef : fieldB ⟨18, r, a, b, order, imm⟩ = ((r == 0) && (order == 0) && (decide (imm < 4294967296))) := by
    unfold fieldB
    have h0 : isK 18 = true := by decide
    have hr : rangeB ⟨18, r, a, b, order, imm⟩ = (decide (imm < 4294967296)) := by
      simp [rangeB]
    rw [hr]
    simp [h0, hp18_1, hp18_8, hp18_16]
  rw [ef]
  clear ef
  go_enter Try.func22, Try.ntmps22
  go_upto_region 1 with fail
  generalize w.alloc (.cells (opA ⟨18, r, a, b, order, imm⟩) 40) = w1 at *
  have z0 := L.c0
  have z1 := L.c1
  have z4 := L.c4
  have z5 := L.c5
  generalize hr : (r == 0) = br
  generalize horder : (order == 0) = border
  go_wp2_with fail
  all_goals (go_ret; refine ⟨ret_bool ?_, hb⟩; simp_all)
theorem field_no (o : Opr) (hk : isK o.kind = false) (w : World) : Calls Try.prog 22 #[opV o] w fun e w' => e = .returned (.bool false) ∧ Below w.heap.size w w' := by
  have hn : ∀ k : Int, isK k = true → (o.kind == k) = false := fun k h => by
    cases hh : o.kind == k with
    | false => rfl
    | true => rw [beq_iff_eq] at hh; rw [hh, h] at hk; cases hk
  have e1 := hn 1 (by decide)
  have e2 := hn 2 (by decide)
  have e3 := hn 3 (by decide)
  have e4 := hn 4 (by decide)
  have e5 := hn 5 (by decide)
  have e6 := hn 6 (by decide)
  have e7 := hn 7 (by decide)
  have e8 := hn 8 (by decide)
  have e9 := hn 9 (by decide)
  have e10 := hn 10 (by decide)
  have e11 := hn 11 (by decide)
  have e12 := hn 12 (by decide)
  have e13 := hn 13 (by decide)
  have e14 := hn 14 (by decide)
  have e15 := hn 15 (by decide)
  have e16 := hn 16 (by decide)
  have e17 := hn 17 (by decide)
  have e18 := hn 18 (by decide)
  clear hn hk
  go_enter Try.func22, Try.ntmps22
  go_wp2
  all_goals (go_ret; refine ⟨rfl, by repeat (first | exact Below.refl _ _ | apply below_more | apply below_drew | apply below_drewN)⟩)
end
end Go.Proofs.Ytilbnjldfgofmaa
