/- Dm, Dn of the seat, joined. -/
import Derived.Test.YtejlmggfeejgpaaXa
/- The document's own Right: the fields. -/
namespace Go.Proofs.Ytejlmggfeejgpaa
open Go.RowKit
set_option linter.unusedVariables false
set_option linter.unusedSimpArgs false
set_option maxRecDepth 8000

def fieldB (o : Opr) : Bool := isK o.kind && (hasP o.kind 1 || o.r == 0) && (hasP o.kind 8 || o.order == 0) && (hasP o.kind 16 || o.imm == 0) && rangeB o
section
variable {r a b order imm : Int}
set_option maxHeartbeats 2000000 in
theorem field_1 (hi : 0 ≤ imm) (w : World) : Calls Try.prog 22 #[opV ⟨1, r, a, b, order, imm⟩] w fun e w' => e = .returned (.bool (fieldB ⟨1, r, a, b, order, imm⟩)) ∧ Below w.heap.size w w' := by
  have hb := below_alloc w (.cells (opA ⟨1, r, a, b, order, imm⟩) 39)
  have L : LocO w.heap.size ⟨1, r, a, b, order, imm⟩ (w.alloc (.cells (opA ⟨1, r, a, b, order, imm⟩) 39)) := LocO.new w _
  have ef : fieldB ⟨1, r, a, b, order, imm⟩ = ((r == 0) && (order == 0) && (true)) := by
    unfold fieldB
    have h0 : isK 1 = true := by decide
    have hr : rangeB ⟨1, r, a, b, order, imm⟩ = (true) := by
      simp [rangeB]
    rw [hr]
    simp [h0, hp1_1, hp1_8, hp1_16]
  rw [ef]
  clear ef
  go_enter Try.func22, Try.ntmps22
  go_upto_region 1 with fail
  generalize w.alloc (.cells (opA ⟨1, r, a, b, order, imm⟩) 39) = w1 at *
  have z0 := L.c0
  have z1 := L.c1
  have z4 := L.c4
  have z5 := L.c5
  generalize hr : (r == 0) = br
  generalize horder : (order == 0) = border
  go_wp2_with fail
  all_goals (go_ret; refine ⟨ret_bool ?_, hb⟩; simp_all)
set_option maxHeartbeats 2000000 in
theorem field_2 (hi : 0 ≤ imm) (w : World) : Calls Try.prog 22 #[opV ⟨2, r, a, b, order, imm⟩] w fun e w' => e = .returned (.bool (fieldB ⟨2, r, a, b, order, imm⟩)) ∧ Below w.heap.size w w' := by
  have hb := below_alloc w (.cells (opA ⟨2, r, a, b, order, imm⟩) 39)
  have L : LocO w.heap.size ⟨2, r, a, b, order, imm⟩ (w.alloc (.cells (opA ⟨2, r, a, b, order, imm⟩) 39)) := LocO.new w _
  have ef : fieldB ⟨2, r, a, b, order, imm⟩ = ((order == 0) && (imm == 0) && (decide (0 ≤ r) && decide (r ≤ 30))) := by
    unfold fieldB
    have h0 : isK 2 = true := by decide
    have hr : rangeB ⟨2, r, a, b, order, imm⟩ = (decide (0 ≤ r) && decide (r ≤ 30)) := by
      simp [rangeB]
    rw [hr]
    simp [h0, hp2_1, hp2_8, hp2_16]
  rw [ef]
  clear ef
  go_enter Try.func22, Try.ntmps22
  go_upto_region 1 with fail
  generalize w.alloc (.cells (opA ⟨2, r, a, b, order, imm⟩) 39) = w1 at *
  have z0 := L.c0
  have z1 := L.c1
  have z4 := L.c4
  have z5 := L.c5
  have ki := fun y => dIn_c r 0 30 y
  generalize hg : (decide ((0 : Int) ≤ r) && decide (r ≤ (30 : Int))) = gg at ki ⊢
  generalize horder : (order == 0) = border
  generalize himm : (imm == 0) = bimm
  go_wp2_with (go_at_call 21; (with_reducible refine (ki _).mono ?_); rintro e w2 ⟨rfl, rfl⟩; dsimp only)
  all_goals (go_ret; refine ⟨ret_bool ?_, hb⟩; simp_all)
set_option maxHeartbeats 2000000 in
theorem field_3 (hi : 0 ≤ imm) (w : World) : Calls Try.prog 22 #[opV ⟨3, r, a, b, order, imm⟩] w fun e w' => e = .returned (.bool (fieldB ⟨3, r, a, b, order, imm⟩)) ∧ Below w.heap.size w w' := by
  have hb := below_alloc w (.cells (opA ⟨3, r, a, b, order, imm⟩) 39)
  have L : LocO w.heap.size ⟨3, r, a, b, order, imm⟩ (w.alloc (.cells (opA ⟨3, r, a, b, order, imm⟩) 39)) := LocO.new w _
  have ef : fieldB ⟨3, r, a, b, order, imm⟩ = ((order == 0) && (imm == 0) && (decide (0 ≤ r) && decide (r ≤ 30))) := by
    unfold fieldB
    have h0 : isK 3 = true := by decide
    have hr : rangeB ⟨3, r, a, b, order, imm⟩ = (decide (0 ≤ r) && decide (r ≤ 30)) := by
      simp [rangeB]
    rw [hr]
    simp [h0, hp3_1, hp3_8, hp3_16]
  rw [ef]
  clear ef
  go_enter Try.func22, Try.ntmps22
  go_upto_region 1 with fail
  generalize w.alloc (.cells (opA ⟨3, r, a, b, order, imm⟩) 39) = w1 at *
  have z0 := L.c0
  have z1 := L.c1
  have z4 := L.c4
  have z5 := L.c5
  have ki := fun y => dIn_c r 0 30 y
  generalize hg : (decide ((0 : Int) ≤ r) && decide (r ≤ (30 : Int))) = gg at ki ⊢
  generalize horder : (order == 0) = border
  generalize himm : (imm == 0) = bimm
  go_wp2_with (go_at_call 21; (with_reducible refine (ki _).mono ?_); rintro e w2 ⟨rfl, rfl⟩; dsimp only)
  all_goals (go_ret; refine ⟨ret_bool ?_, hb⟩; simp_all)
set_option maxHeartbeats 2000000 in
theorem field_4 (hi : 0 ≤ imm) (w : World) : Calls Try.prog 22 #[opV ⟨4, r, a, b, order, imm⟩] w fun e w' => e = .returned (.bool (fieldB ⟨4, r, a, b, order, imm⟩)) ∧ Below w.heap.size w w' := by
  have hb := below_alloc w (.cells (opA ⟨4, r, a, b, order, imm⟩) 39)
  have L : LocO w.heap.size ⟨4, r, a, b, order, imm⟩ (w.alloc (.cells (opA ⟨4, r, a, b, order, imm⟩) 39)) := LocO.new w _
  have ef : fieldB ⟨4, r, a, b, order, imm⟩ = ((r == 0) && (order == 0) && (imm == 0) && (true)) := by
    unfold fieldB
    have h0 : isK 4 = true := by decide
    have hr : rangeB ⟨4, r, a, b, order, imm⟩ = (true) := by
      simp [rangeB]
    rw [hr]
    simp [h0, hp4_1, hp4_8, hp4_16]
  rw [ef]
  clear ef
  go_enter Try.func22, Try.ntmps22
  go_upto_region 1 with fail
  generalize w.alloc (.cells (opA ⟨4, r, a, b, order, imm⟩) 39) = w1 at *
  have z0 := L.c0
  have z1 := L.c1
  have z4 := L.c4
  have z5 := L.c5
  generalize hr : (r == 0) = br
  generalize horder : (order == 0) = border
  generalize himm : (imm == 0) = bimm
  go_wp2_with fail
  all_goals (go_ret; refine ⟨ret_bool ?_, hb⟩; simp_all)
set_option maxHeartbeats 2000000 in
theorem field_5 (hi : 0 ≤ imm) (w : World) : Calls Try.prog 22 #[opV ⟨5, r, a, b, order, imm⟩] w fun e w' => e = .returned (.bool (fieldB ⟨5, r, a, b, order, imm⟩)) ∧ Below w.heap.size w w' := by
  have hb := below_alloc w (.cells (opA ⟨5, r, a, b, order, imm⟩) 39)
  have L : LocO w.heap.size ⟨5, r, a, b, order, imm⟩ (w.alloc (.cells (opA ⟨5, r, a, b, order, imm⟩) 39)) := LocO.new w _
  have ef : fieldB ⟨5, r, a, b, order, imm⟩ = ((r == 0) && (order == 0) && (imm == 0) && (true)) := by
    unfold fieldB
    have h0 : isK 5 = true := by decide
    have hr : rangeB ⟨5, r, a, b, order, imm⟩ = (true) := by
      simp [rangeB]
    rw [hr]
    simp [h0, hp5_1, hp5_8, hp5_16]
  rw [ef]
  clear ef
  go_enter Try.func22, Try.ntmps22
  go_upto_region 1 with fail
  generalize w.alloc (.cells (opA ⟨5, r, a, b, order, imm⟩) 39) = w1 at *
  have z0 := L.c0
  have z1 := L.c1
  have z4 := L.c4
  have z5 := L.c5
  generalize hr : (r == 0) = br
  generalize horder : (order == 0) = border
  generalize himm : (imm == 0) = bimm
  go_wp2_with fail
  all_goals (go_ret; refine ⟨ret_bool ?_, hb⟩; simp_all)
set_option maxHeartbeats 2000000 in
theorem field_6 (hi : 0 ≤ imm) (w : World) : Calls Try.prog 22 #[opV ⟨6, r, a, b, order, imm⟩] w fun e w' => e = .returned (.bool (fieldB ⟨6, r, a, b, order, imm⟩)) ∧ Below w.heap.size w w' := by
  have hb := below_alloc w (.cells (opA ⟨6, r, a, b, order, imm⟩) 39)
  have L : LocO w.heap.size ⟨6, r, a, b, order, imm⟩ (w.alloc (.cells (opA ⟨6, r, a, b, order, imm⟩) 39)) := LocO.new w _
  have ef : fieldB ⟨6, r, a, b, order, imm⟩ = ((order == 0) && (imm == 0) && (decide (0 ≤ r) && decide (r ≤ 3))) := by
    unfold fieldB
    have h0 : isK 6 = true := by decide
    have hr : rangeB ⟨6, r, a, b, order, imm⟩ = (decide (0 ≤ r) && decide (r ≤ 3)) := by
      simp [rangeB]
    rw [hr]
    simp [h0, hp6_1, hp6_8, hp6_16]
  rw [ef]
  clear ef
  go_enter Try.func22, Try.ntmps22
  go_upto_region 1 with fail
  generalize w.alloc (.cells (opA ⟨6, r, a, b, order, imm⟩) 39) = w1 at *
  have z0 := L.c0
  have z1 := L.c1
  have z4 := L.c4
  have z5 := L.c5
  have ki := fun y => dIn_c r 0 3 y
  generalize hg : (decide ((0 : Int) ≤ r) && decide (r ≤ (3 : Int))) = gg at ki ⊢
  generalize horder : (order == 0) = border
  generalize himm : (imm == 0) = bimm
  go_wp2_with (go_at_call 21; (with_reducible refine (ki _).mono ?_); rintro e w2 ⟨rfl, rfl⟩; dsimp only)
  all_goals (go_ret; refine ⟨ret_bool ?_, hb⟩; simp_all)
set_option maxHeartbeats 2000000 in
theorem field_7 (hi : 0 ≤ imm) (w : World) : Calls Try.prog 22 #[opV ⟨7, r, a, b, order, imm⟩] w fun e w' => e = .returned (.bool (fieldB ⟨7, r, a, b, order, imm⟩)) ∧ Below w.heap.size w w' := by
  have hb := below_alloc w (.cells (opA ⟨7, r, a, b, order, imm⟩) 39)
  have L : LocO w.heap.size ⟨7, r, a, b, order, imm⟩ (w.alloc (.cells (opA ⟨7, r, a, b, order, imm⟩) 39)) := LocO.new w _
  have ef : fieldB ⟨7, r, a, b, order, imm⟩ = ((order == 0) && (imm == 0) && (decide (0 ≤ r) && decide (r ≤ 3))) := by
    unfold fieldB
    have h0 : isK 7 = true := by decide
    have hr : rangeB ⟨7, r, a, b, order, imm⟩ = (decide (0 ≤ r) && decide (r ≤ 3)) := by
      simp [rangeB]
    rw [hr]
    simp [h0, hp7_1, hp7_8, hp7_16]
  rw [ef]
  clear ef
  go_enter Try.func22, Try.ntmps22
  go_upto_region 1 with fail
  generalize w.alloc (.cells (opA ⟨7, r, a, b, order, imm⟩) 39) = w1 at *
  have z0 := L.c0
  have z1 := L.c1
  have z4 := L.c4
  have z5 := L.c5
  have ki := fun y => dIn_c r 0 3 y
  generalize hg : (decide ((0 : Int) ≤ r) && decide (r ≤ (3 : Int))) = gg at ki ⊢
  generalize horder : (order == 0) = border
  generalize himm : (imm == 0) = bimm
  go_wp2_with (go_at_call 21; (with_reducible refine (ki _).mono ?_); rintro e w2 ⟨rfl, rfl⟩; dsimp only)
  all_goals (go_ret; refine ⟨ret_bool ?_, hb⟩; simp_all)
set_option maxHeartbeats 2000000 in
theorem field_8 (hi : 0 ≤ imm) (w : World) : Calls Try.prog 22 #[opV ⟨8, r, a, b, order, imm⟩] w fun e w' => e = .returned (.bool (fieldB ⟨8, r, a, b, order, imm⟩)) ∧ Below w.heap.size w w' := by
  have hb := below_alloc w (.cells (opA ⟨8, r, a, b, order, imm⟩) 39)
  have L : LocO w.heap.size ⟨8, r, a, b, order, imm⟩ (w.alloc (.cells (opA ⟨8, r, a, b, order, imm⟩) 39)) := LocO.new w _
  have ef : fieldB ⟨8, r, a, b, order, imm⟩ = ((order == 0) && (imm == 0) && (decide (1 ≤ r) && decide (r ≤ 15))) := by
    unfold fieldB
    have h0 : isK 8 = true := by decide
    have hr : rangeB ⟨8, r, a, b, order, imm⟩ = (decide (1 ≤ r) && decide (r ≤ 15)) := by
      simp [rangeB]
    rw [hr]
    simp [h0, hp8_1, hp8_8, hp8_16]
  rw [ef]
  clear ef
  go_enter Try.func22, Try.ntmps22
  go_upto_region 1 with fail
  generalize w.alloc (.cells (opA ⟨8, r, a, b, order, imm⟩) 39) = w1 at *
  have z0 := L.c0
  have z1 := L.c1
  have z4 := L.c4
  have z5 := L.c5
  have ki := fun y => dIn_c r 1 15 y
  generalize hg : (decide ((1 : Int) ≤ r) && decide (r ≤ (15 : Int))) = gg at ki ⊢
  generalize horder : (order == 0) = border
  generalize himm : (imm == 0) = bimm
  go_wp2_with (go_at_call 21; (with_reducible refine (ki _).mono ?_); rintro e w2 ⟨rfl, rfl⟩; dsimp only)
  all_goals (go_ret; refine ⟨ret_bool ?_, hb⟩; simp_all)
set_option maxHeartbeats 2000000 in
theorem field_9 (hi : 0 ≤ imm) (w : World) : Calls Try.prog 22 #[opV ⟨9, r, a, b, order, imm⟩] w fun e w' => e = .returned (.bool (fieldB ⟨9, r, a, b, order, imm⟩)) ∧ Below w.heap.size w w' := by
  have hb := below_alloc w (.cells (opA ⟨9, r, a, b, order, imm⟩) 39)
  have L : LocO w.heap.size ⟨9, r, a, b, order, imm⟩ (w.alloc (.cells (opA ⟨9, r, a, b, order, imm⟩) 39)) := LocO.new w _
  have e9 : (order == 0 || order == 1 || order == 2) = (decide (0 ≤ order) && decide (order ≤ 2)) := by rw [Bool.eq_iff_iff]; simp; omega
  have ef : fieldB ⟨9, r, a, b, order, imm⟩ = ((r == 0) && (imm == 0) && (decide (0 ≤ order) && decide (order ≤ 2))) := by
    unfold fieldB
    have h0 : isK 9 = true := by decide
    have hr : rangeB ⟨9, r, a, b, order, imm⟩ = (decide (0 ≤ order) && decide (order ≤ 2)) := by
      simp [rangeB]
      exact e9
    rw [hr]
    simp [h0, hp9_1, hp9_8, hp9_16]
  rw [ef]
  clear ef
  go_enter Try.func22, Try.ntmps22
  go_upto_region 1 with fail
  generalize w.alloc (.cells (opA ⟨9, r, a, b, order, imm⟩) 39) = w1 at *
  have z0 := L.c0
  have z1 := L.c1
  have z4 := L.c4
  have z5 := L.c5
  have ki := fun y => dIn_c order 0 2 y
  generalize hg : (decide ((0 : Int) ≤ order) && decide (order ≤ (2 : Int))) = gg at ki ⊢
  generalize hr : (r == 0) = br
  generalize himm : (imm == 0) = bimm
  go_wp2_with (go_at_call 21; (with_reducible refine (ki _).mono ?_); rintro e w2 ⟨rfl, rfl⟩; dsimp only)
  all_goals (go_ret; refine ⟨ret_bool ?_, hb⟩; simp_all)
set_option maxHeartbeats 2000000 in
theorem field_10 (hi : 0 ≤ imm) (w : World) : Calls Try.prog 22 #[opV ⟨10, r, a, b, order, imm⟩] w fun e w' => e = .returned (.bool (fieldB ⟨10, r, a, b, order, imm⟩)) ∧ Below w.heap.size w w' := by
  have hb := below_alloc w (.cells (opA ⟨10, r, a, b, order, imm⟩) 39)
  have L : LocO w.heap.size ⟨10, r, a, b, order, imm⟩ (w.alloc (.cells (opA ⟨10, r, a, b, order, imm⟩) 39)) := LocO.new w _
  have ef : fieldB ⟨10, r, a, b, order, imm⟩ = ((r == 0) && (imm == 0) && ((order == 0 || order == 4))) := by
    unfold fieldB
    have h0 : isK 10 = true := by decide
    have hr : rangeB ⟨10, r, a, b, order, imm⟩ = ((order == 0 || order == 4)) := by
      simp [rangeB]
    rw [hr]
    simp [h0, hp10_1, hp10_8, hp10_16]
  rw [ef]
  clear ef
  go_enter Try.func22, Try.ntmps22
  go_upto_region 1 with fail
  generalize w.alloc (.cells (opA ⟨10, r, a, b, order, imm⟩) 39) = w1 at *
  have z0 := L.c0
  have z1 := L.c1
  have z4 := L.c4
  have z5 := L.c5
  generalize hr : (r == 0) = br
  generalize himm : (imm == 0) = bimm
  go_wp2_with fail
  all_goals (go_ret; refine ⟨ret_bool ?_, hb⟩; simp_all)
set_option maxHeartbeats 2000000 in
theorem field_11 (hi : 0 ≤ imm) (w : World) : Calls Try.prog 22 #[opV ⟨11, r, a, b, order, imm⟩] w fun e w' => e = .returned (.bool (fieldB ⟨11, r, a, b, order, imm⟩)) ∧ Below w.heap.size w w' := by
  have hb := below_alloc w (.cells (opA ⟨11, r, a, b, order, imm⟩) 39)
  have L : LocO w.heap.size ⟨11, r, a, b, order, imm⟩ (w.alloc (.cells (opA ⟨11, r, a, b, order, imm⟩) 39)) := LocO.new w _
  have ef : fieldB ⟨11, r, a, b, order, imm⟩ = ((r == 0) && (imm == 0) && ((order == 0 || order == 2))) := by
    unfold fieldB
    have h0 : isK 11 = true := by decide
    have hr : rangeB ⟨11, r, a, b, order, imm⟩ = ((order == 0 || order == 2)) := by
      simp [rangeB]
    rw [hr]
    simp [h0, hp11_1, hp11_8, hp11_16]
  rw [ef]
  clear ef
  go_enter Try.func22, Try.ntmps22
  go_upto_region 1 with fail
  generalize w.alloc (.cells (opA ⟨11, r, a, b, order, imm⟩) 39) = w1 at *
  have z0 := L.c0
  have z1 := L.c1
  have z4 := L.c4
  have z5 := L.c5
  generalize hr : (r == 0) = br
  generalize himm : (imm == 0) = bimm
  go_wp2_with fail
  all_goals (go_ret; refine ⟨ret_bool ?_, hb⟩; simp_all)
set_option maxHeartbeats 2000000 in
theorem field_12 (hi : 0 ≤ imm) (w : World) : Calls Try.prog 22 #[opV ⟨12, r, a, b, order, imm⟩] w fun e w' => e = .returned (.bool (fieldB ⟨12, r, a, b, order, imm⟩)) ∧ Below w.heap.size w w' := by
  have hb := below_alloc w (.cells (opA ⟨12, r, a, b, order, imm⟩) 39)
  have L : LocO w.heap.size ⟨12, r, a, b, order, imm⟩ (w.alloc (.cells (opA ⟨12, r, a, b, order, imm⟩) 39)) := LocO.new w _
  have ef : fieldB ⟨12, r, a, b, order, imm⟩ = ((r == 0) && (imm == 0) && ((order == 0 || order == 4))) := by
    unfold fieldB
    have h0 : isK 12 = true := by decide
    have hr : rangeB ⟨12, r, a, b, order, imm⟩ = ((order == 0 || order == 4)) := by
      simp [rangeB]
    rw [hr]
    simp [h0, hp12_1, hp12_8, hp12_16]
  rw [ef]
  clear ef
  go_enter Try.func22, Try.ntmps22
  go_upto_region 1 with fail
  generalize w.alloc (.cells (opA ⟨12, r, a, b, order, imm⟩) 39) = w1 at *
  have z0 := L.c0
  have z1 := L.c1
  have z4 := L.c4
  have z5 := L.c5
  generalize hr : (r == 0) = br
  generalize himm : (imm == 0) = bimm
  go_wp2_with fail
  all_goals (go_ret; refine ⟨ret_bool ?_, hb⟩; simp_all)
set_option maxHeartbeats 2000000 in
theorem field_13 (hi : 0 ≤ imm) (w : World) : Calls Try.prog 22 #[opV ⟨13, r, a, b, order, imm⟩] w fun e w' => e = .returned (.bool (fieldB ⟨13, r, a, b, order, imm⟩)) ∧ Below w.heap.size w w' := by
  have hb := below_alloc w (.cells (opA ⟨13, r, a, b, order, imm⟩) 39)
  have L : LocO w.heap.size ⟨13, r, a, b, order, imm⟩ (w.alloc (.cells (opA ⟨13, r, a, b, order, imm⟩) 39)) := LocO.new w _
  have ef : fieldB ⟨13, r, a, b, order, imm⟩ = ((order == 0) && (imm == 0) && ((r == 13 || r == 10 || r == 15))) := by
    unfold fieldB
    have h0 : isK 13 = true := by decide
    have hr : rangeB ⟨13, r, a, b, order, imm⟩ = ((r == 13 || r == 10 || r == 15)) := by
      simp [rangeB]
    rw [hr]
    simp [h0, hp13_1, hp13_8, hp13_16]
  rw [ef]
  clear ef
  go_enter Try.func22, Try.ntmps22
  go_upto_region 1 with fail
  generalize w.alloc (.cells (opA ⟨13, r, a, b, order, imm⟩) 39) = w1 at *
  have z0 := L.c0
  have z1 := L.c1
  have z4 := L.c4
  have z5 := L.c5
  generalize horder : (order == 0) = border
  generalize himm : (imm == 0) = bimm
  go_wp2_with fail
  all_goals (go_ret; refine ⟨ret_bool ?_, hb⟩; simp_all)
set_option maxHeartbeats 2000000 in
theorem field_14 (hi : 0 ≤ imm) (w : World) : Calls Try.prog 22 #[opV ⟨14, r, a, b, order, imm⟩] w fun e w' => e = .returned (.bool (fieldB ⟨14, r, a, b, order, imm⟩)) ∧ Below w.heap.size w w' := by
  have hb := below_alloc w (.cells (opA ⟨14, r, a, b, order, imm⟩) 39)
  have L : LocO w.heap.size ⟨14, r, a, b, order, imm⟩ (w.alloc (.cells (opA ⟨14, r, a, b, order, imm⟩) 39)) := LocO.new w _
  have e14 : (imm % 4 == 0) = (imm.tmod 4 == 0) := by rw [Int.tmod_eq_emod_of_nonneg hi]
  have ef : fieldB ⟨14, r, a, b, order, imm⟩ = ((r == 0) && (order == 0) && (imm.tmod 4 == 0)) := by
    unfold fieldB
    have h0 : isK 14 = true := by decide
    have hr : rangeB ⟨14, r, a, b, order, imm⟩ = (imm.tmod 4 == 0) := by
      simp [rangeB]
      exact e14
    rw [hr]
    simp [h0, hp14_1, hp14_8, hp14_16]
  rw [ef]
  clear ef
  go_enter Try.func22, Try.ntmps22
  go_upto_region 1 with fail
  generalize w.alloc (.cells (opA ⟨14, r, a, b, order, imm⟩) 39) = w1 at *
  have z0 := L.c0
  have z1 := L.c1
  have z4 := L.c4
  have z5 := L.c5
  generalize hr : (r == 0) = br
  generalize horder : (order == 0) = border
  go_wp2_with fail
  all_goals (go_ret; refine ⟨ret_bool ?_, hb⟩; simp_all)
set_option maxHeartbeats 2000000 in
theorem field_15 (hi : 0 ≤ imm) (w : World) : Calls Try.prog 22 #[opV ⟨15, r, a, b, order, imm⟩] w fun e w' => e = .returned (.bool (fieldB ⟨15, r, a, b, order, imm⟩)) ∧ Below w.heap.size w w' := by
  have hb := below_alloc w (.cells (opA ⟨15, r, a, b, order, imm⟩) 39)
  have L : LocO w.heap.size ⟨15, r, a, b, order, imm⟩ (w.alloc (.cells (opA ⟨15, r, a, b, order, imm⟩) 39)) := LocO.new w _
  have ef : fieldB ⟨15, r, a, b, order, imm⟩ = ((r == 0) && (order == 0) && (true)) := by
    unfold fieldB
    have h0 : isK 15 = true := by decide
    have hr : rangeB ⟨15, r, a, b, order, imm⟩ = (true) := by
      simp [rangeB]
    rw [hr]
    simp [h0, hp15_1, hp15_8, hp15_16]
  rw [ef]
  clear ef
  go_enter Try.func22, Try.ntmps22
  go_upto_region 1 with fail
  generalize w.alloc (.cells (opA ⟨15, r, a, b, order, imm⟩) 39) = w1 at *
  have z0 := L.c0
  have z1 := L.c1
  have z4 := L.c4
  have z5 := L.c5
  generalize hr : (r == 0) = br
  generalize horder : (order == 0) = border
  go_wp2_with fail
  all_goals (go_ret; refine ⟨ret_bool ?_, hb⟩; simp_all)
set_option maxHeartbeats 2000000 in
theorem field_16 (hi : 0 ≤ imm) (w : World) : Calls Try.prog 22 #[opV ⟨16, r, a, b, order, imm⟩] w fun e w' => e = .returned (.bool (fieldB ⟨16, r, a, b, order, imm⟩)) ∧ Below w.heap.size w w' := by
  have hb := below_alloc w (.cells (opA ⟨16, r, a, b, order, imm⟩) 39)
  have L : LocO w.heap.size ⟨16, r, a, b, order, imm⟩ (w.alloc (.cells (opA ⟨16, r, a, b, order, imm⟩) 39)) := LocO.new w _
  have ef : fieldB ⟨16, r, a, b, order, imm⟩ = ((r == 0) && (order == 0) && (true)) := by
    unfold fieldB
    have h0 : isK 16 = true := by decide
    have hr : rangeB ⟨16, r, a, b, order, imm⟩ = (true) := by
      simp [rangeB]
    rw [hr]
    simp [h0, hp16_1, hp16_8, hp16_16]
  rw [ef]
  clear ef
  go_enter Try.func22, Try.ntmps22
  go_upto_region 1 with fail
  generalize w.alloc (.cells (opA ⟨16, r, a, b, order, imm⟩) 39) = w1 at *
  have z0 := L.c0
  have z1 := L.c1
  have z4 := L.c4
  have z5 := L.c5
  generalize hr : (r == 0) = br
  generalize horder : (order == 0) = border
  go_wp2_with fail
  all_goals (go_ret; refine ⟨ret_bool ?_, hb⟩; simp_all)
set_option maxHeartbeats 2000000 in
theorem field_17 (hi : 0 ≤ imm) (w : World) : Calls Try.prog 22 #[opV ⟨17, r, a, b, order, imm⟩] w fun e w' => e = .returned (.bool (fieldB ⟨17, r, a, b, order, imm⟩)) ∧ Below w.heap.size w w' := by
  have hb := below_alloc w (.cells (opA ⟨17, r, a, b, order, imm⟩) 39)
  have L : LocO w.heap.size ⟨17, r, a, b, order, imm⟩ (w.alloc (.cells (opA ⟨17, r, a, b, order, imm⟩) 39)) := LocO.new w _
  have ef : fieldB ⟨17, r, a, b, order, imm⟩ = ((r == 0) && (order == 0) && (imm == 0) && (true)) := by
    unfold fieldB
    have h0 : isK 17 = true := by decide
    have hr : rangeB ⟨17, r, a, b, order, imm⟩ = (true) := by
      simp [rangeB]
    rw [hr]
    simp [h0, hp17_1, hp17_8, hp17_16]
  rw [ef]
  clear ef
  go_enter Try.func22, Try.ntmps22
  go_upto_region 1 with fail
  generalize w.alloc (.cells (opA ⟨17, r, a, b, order, imm⟩) 39) = w1 at *
  have z0 := L.c0
  have z1 := L.c1
  have z4 := L.c4
  have z5 := L.c5
  generalize hr : (r == 0) = br
  generalize horder : (order == 0) = border
  generalize himm : (imm == 0) = bimm
  go_wp2_with fail
  all_goals (go_ret; refine ⟨ret_bool ?_, hb⟩; simp_all)
set_option maxHeartbeats 2000000 in
theorem field_18 (hi : 0 ≤ imm) (w : World) : Calls Try.prog 22 #[opV ⟨18, r, a, b, order, imm⟩] w fun e w' => e = .returned (.bool (fieldB ⟨18, r, a, b, order, imm⟩)) ∧ Below w.heap.size w w' := by
  have hb := below_alloc w (.cells (opA ⟨18, r, a, b, order, imm⟩) 39)
  have L : LocO w.heap.size ⟨18, r, a, b, order, imm⟩ (w.alloc (.cells (opA ⟨18, r, a, b, order, imm⟩) 39)) := LocO.new w _
  have ef : fieldB ⟨18, r, a, b, order, imm⟩ = ((r == 0) && (order == 0) && (decide (imm < 4294967296))) := by
    unfold fieldB
    have h0 : isK 18 = true := by decide
    have hr : rangeB ⟨18, r, a, b, order, imm⟩ = (decide (imm < 4294967296)) := by
      simp [rangeB]
    rw [hr]
    simp [h0, hp18_1, hp18_8, hp18_16]
  rw [ef]
  clear ef
  go_enter Try.func22, Try.ntmps22
  go_upto_region 1 with fail
  generalize w.alloc (.cells (opA ⟨18, r, a, b, order, imm⟩) 39) = w1 at *
  have z0 := L.c0
  have z1 := L.c1
  have z4 := L.c4
  have z5 := L.c5
  generalize hr : (r == 0) = br
  generalize horder : (order == 0) = border
  go_wp2_with fail
  all_goals (go_ret; refine ⟨ret_bool ?_, hb⟩; simp_all)
theorem field_no (o : Opr) (hk : isK o.kind = false) (w : World) : Calls Try.prog 22 #[opV o] w fun e w' => e = .returned (.bool false) ∧ Below w.heap.size w w' := by
  have hn : ∀ k : Int, isK k = true → (o.kind == k) = false := fun k h => by
    cases hh : o.kind == k with
    | false => rfl
    | true => rw [beq_iff_eq] at hh; rw [hh, h] at hk; cases hk
  have e1 := hn 1 (by decide)
  have e2 := hn 2 (by decide)
  have e3 := hn 3 (by decide)
  have e4 := hn 4 (by decide)
  have e5 := hn 5 (by decide)
  have e6 := hn 6 (by decide)
  have e7 := hn 7 (by decide)
  have e8 := hn 8 (by decide)
  have e9 := hn 9 (by decide)
  have e10 := hn 10 (by decide)
  have e11 := hn 11 (by decide)
  have e12 := hn 12 (by decide)
  have e13 := hn 13 (by decide)
  have e14 := hn 14 (by decide)
  have e15 := hn 15 (by decide)
  have e16 := hn 16 (by decide)
  have e17 := hn 17 (by decide)
  have e18 := hn 18 (by decide)
  clear hn hk
  go_enter Try.func22, Try.ntmps22
  go_wp2
  all_goals (go_ret; refine ⟨rfl, by repeat (first | exact Below.refl _ _ | apply below_more | apply below_drew | apply below_drewN)⟩)
end
end Go.Proofs.Ytejlmggfeejgpaa
/- The document's own Right: what an operation uses; what is right, plainly. -/
namespace Go.Proofs.Ytejlmggfeejgpaa
open Go.RowKit
set_option linter.unusedVariables false
set_option linter.unusedSimpArgs false
set_option maxRecDepth 8000

def usesD (o : Opr) : List Int := if shpV o.kind = 1 then [o.a] else if shpV o.kind = 2 then [o.a, o.b] else []
theorem run_two59 (p q : Int) (w : World) : (Instr.buildSlice 59 2 #[(0, vI p), (1, vI q)]).run Try.prog w = .ok (.slice (some ⟨w.heap.size, 0, none⟩) 2 2) (w.alloc (.cells #[vI p, vI q] 3)) := by
  obtain ⟨i, hi, hz, hs, hby⟩ := info_parts info3
  exact run_buildSlice (P := Try.prog) w 59 3 2 _ _ i (vI 0) Try.underlying59 hi hz (by rw [hs]; decide) (by rw [hs]; decide) (by rw [hs]; kernel_rfl)
theorem wpList_two59 {ops : Array Oper} {rest : List Oper} {o : Oper} {a : Act} {w : World} {Q : Exit → Act → World → Prop} (hg : o.guard = none) (x y : Operand) (ho : o.op = .buildSlice 59 2 #[(0, x), (1, y)]) (p q : Int) (hx : a.eval x = vI p) (hy : a.eval y = vI q)
    (h : wpList Try.prog ops Q rest (a.put o.dst (.slice (some ⟨w.heap.size, 0, none⟩) 2 2)) (w.alloc (.cells #[vI p, vI q] 3))) : wpList Try.prog ops Q (o :: rest) a w :=
  wpList_plain hg fun _ hK => by
    unfold Oper.wp execOp
    simp only [ho, Sem.run_bind, List.map_toArray, List.map_cons, List.map_nil, hx, hy, run_two59, Result.andThen_ok]
    exact hK _ _ h
theorem rawI_new (w : World) (zs : List Int) (hm : zs.length ≤ maxLen) : RawI (w.alloc (.cells (zs.map vI).toArray 3)) (.slice (some ⟨w.heap.size, 0, none⟩) zs.length zs.length) zs :=
  ⟨⟨_, _, rfl⟩, hm, fun _ => ⟨_, _, rfl, fun i x hx => by
    have e : (⟨w.heap.size, 0, none⟩ : Addr).add i = ⟨w.heap.size, i, none⟩ := by rw [Addr.add_mid, Nat.zero_add]
    rw [e]
    refine ⟨by simp, ?_⟩
    rw [cell_of_row _ _ _ _ _ _ (heap_alloc_new w _)]
    simp [hx]⟩⟩
set_option maxHeartbeats 2000000 in
theorem dUses_c (o : Opr) (w : World) : Calls Try.prog 23 #[opV o] w fun e w' => ∃ v, e = .returned v ∧ RawI w' v (usesD o) ∧ Below w.heap.size w w' := by
  have hb := below_alloc w (.cells (opA o) 39)
  have L : LocO w.heap.size o (w.alloc (.cells (opA o) 39)) := LocO.new w _
  have ks := fun x => dShape_c o.kind x
  by_cases h1 : shpV o.kind = 1
  · have hu : usesD o = [o.a] := by unfold usesD; rw [if_pos h1]
    rw [h1] at ks
    rw [hu]
    clear h1 hu
    go_enter Try.func23, Try.ntmps23
    go_upto_region 1 with fail
    generalize w.alloc (.cells (opA o) 39) = w1 at *
    have z0 := L.c0
    have z2 := L.c2
    go_wp2_with (first | (go_at_call 40; (with_reducible refine (ks _).mono ?_); rintro e w2 ⟨rfl, rfl⟩; dsimp only) | ((with_reducible refine wpList_one36 rfl _ rfl o.a rfl ?_); try simp only [Act.put]))
    go_ret
    exact ⟨_, rfl, rawI_new w2 [o.a] (by show 1 ≤ maxLen; decide), below_then hb (Nat.le_refl _) (below_alloc _ _)⟩
  · by_cases h2 : shpV o.kind = 2
    · have hu : usesD o = [o.a, o.b] := by unfold usesD; rw [if_neg h1, if_pos h2]
      rw [h2] at ks
      rw [hu]
      clear h1 h2 hu
      go_enter Try.func23, Try.ntmps23
      go_upto_region 1 with fail
      generalize w.alloc (.cells (opA o) 39) = w1 at *
      have z0 := L.c0
      have z2 := L.c2
      have z3 := L.c3
      go_wp2_with (first | (go_at_call 40; (with_reducible refine (ks _).mono ?_); rintro e w2 ⟨rfl, rfl⟩; dsimp only) | ((with_reducible refine wpList_two59 rfl _ _ rfl o.a o.b rfl rfl ?_); try simp only [Act.put]))
      go_ret
      exact ⟨_, rfl, rawI_new w2 [o.a, o.b] (by show 2 ≤ maxLen; decide), below_then hb (Nat.le_refl _) (below_alloc _ _)⟩
    · have h0 : shpV o.kind = 0 := by unfold shpV at h1 h2 ⊢; split <;> simp_all
      have hu : usesD o = [] := by unfold usesD; rw [if_neg h1, if_neg h2]
      rw [h0] at ks
      rw [hu]
      clear h0 h1 h2 hu
      go_enter Try.func23, Try.ntmps23
      go_upto_region 1 with fail
      generalize w.alloc (.cells (opA o) 39) = w1 at *
      have z0 := L.c0
      go_wp2_with (go_at_call 40; (with_reducible refine (ks _).mono ?_); rintro e w2 ⟨rfl, rfl⟩; dsimp only)
      go_ret
      exact ⟨_, rfl, RawI.nil _, hb⟩
/-- What is right of a block, in the document's words. -/
def lastD (o : Opr) : Bool := o.kind == 16 || o.kind == 17 || o.kind == 18
def defD (l : List Opr) (k : Nat) (p : Int) : Bool := decide (0 ≤ p) && decide (p < k) && defsB (opAt l p.toNat).kind
def zeroD (o : Opr) : Bool := !(decide ((usesD o).length < 2) && o.b != 0) && !(decide ((usesD o).length < 1) && o.a != 0)
def okD (l : List Opr) (k : Nat) : Bool := fieldB (opAt l k) && (lastD (opAt l k) == decide (k + 1 = l.length)) && (usesD (opAt l k)).all (defD l k) && zeroD (opAt l k)
def headD (pc words el : Int) (l : List Opr) : Bool := pc % 4 == 0 && decide (1 ≤ words) && decide (words ≤ 16) && decide (0 ≤ el) && decide (el ≤ 1) && decide (1 ≤ l.length) && decide (l.length ≤ 512) && (opAt l 0).kind == 14 && (opAt l 0).imm == pc
theorem prt_none {k : Nat} (h : k = 0 ∨ 18 < k) : prt k = 0 := by
  unfold prt
  split <;> first | rfl | omega
theorem has_none_ {k : Int} (h : isK k = false) (m : Int) (hm : m = 32) : hasP k m = false := by
  subst hm
  have : k.toNat = 0 ∨ 18 < k.toNat := by
    unfold isK at h
    simp only [Bool.and_eq_false_iff, decide_eq_false_iff_not] at h
    omega
  unfold hasP partsV
  rw [prt_none this]
  decide +kernel
theorem defs_has (k : Int) : defsB k = hasP k 32 := by
  cases h : isK k with
  | true =>
    rcases isK_cases h with rfl | rfl | rfl | rfl | rfl | rfl | rfl | rfl | rfl | rfl | rfl | rfl | rfl | rfl | rfl | rfl | rfl | rfl <;> decide +kernel
  | false =>
    rw [has_none_ h _ rfl]
    have hn : ∀ j : Int, isK j = true → (k == j) = false := fun j hj => by
      cases hh : k == j with
      | false => rfl
      | true => rw [beq_iff_eq] at hh; rw [hh, hj] at h; cases h
    unfold defsB
    rw [hn 1 (by decide), hn 2 (by decide), hn 4 (by decide), hn 6 (by decide), hn 8 (by decide), hn 9 (by decide), hn 11 (by decide), hn 12 (by decide)]
    rfl
theorem defD_eq (l : List Opr) (k : Nat) : defD l k = defB l k := by
  funext p
  unfold defD defB
  rw [defs_has]
theorem okD_eq (l : List Opr) (k : Nat) : okD l k = okAt l k := by
  unfold okD okAt
  rw [defD_eq]
  generalize defB l k = P
  generalize opAt l k = o
  obtain ⟨kind, r, a, b, order, imm⟩ := o
  cases h : isK kind with
  | false =>
    have : fieldB ⟨kind, r, a, b, order, imm⟩ = false := by unfold fieldB; rw [h]; rfl
    rw [this]
    simp [h]
  | true =>
    rcases isK_cases h with rfl | rfl | rfl | rfl | rfl | rfl | rfl | rfl | rfl | rfl | rfl | rfl | rfl | rfl | rfl | rfl | rfl | rfl
    · have hr := rangeB ⟨1, r, a, b, order, imm⟩
      have e1 : usesD ⟨1, r, a, b, order, imm⟩ = usesL ⟨1, r, a, b, order, imm⟩ := by simp [usesD, usesL, shpV, hp1_2, hp1_4]
      have e2 : lastD ⟨1, r, a, b, order, imm⟩ = hasP 1 128 := by rw [hp1_128]; rfl
      have e3 : usesL ⟨1, r, a, b, order, imm⟩ = (if hasP 1 2 = true then [a] else []) ++ (if hasP 1 4 = true then [b] else []) := rfl
      rw [hp1_2, hp1_4] at e3
      unfold zeroD fieldB opB
      rw [e1, e2]
      simp only [hp1_1, hp1_2, hp1_4, hp1_8, hp1_16, hp1_128, e3, h, Bool.true_or, Bool.false_or, Bool.true_and, Bool.and_true, if_true]
      generalize rangeB ⟨1, r, a, b, order, imm⟩ = R
      generalize decide (k + 1 = l.length) = z
      generalize (r == 0) = b1
      generalize (order == 0) = b2
      generalize (imm == 0) = b3
      try generalize P a = p1
      try generalize P b = p2
      cases ha : (a == 0) <;> cases hb : (b == 0) <;> simp [ha, hb, bne] <;> cases R <;> cases z <;> cases b1 <;> cases b2 <;> cases b3 <;> simp_all
    · have hr := rangeB ⟨2, r, a, b, order, imm⟩
      have e1 : usesD ⟨2, r, a, b, order, imm⟩ = usesL ⟨2, r, a, b, order, imm⟩ := by simp [usesD, usesL, shpV, hp2_2, hp2_4]
      have e2 : lastD ⟨2, r, a, b, order, imm⟩ = hasP 2 128 := by rw [hp2_128]; rfl
      have e3 : usesL ⟨2, r, a, b, order, imm⟩ = (if hasP 2 2 = true then [a] else []) ++ (if hasP 2 4 = true then [b] else []) := rfl
      rw [hp2_2, hp2_4] at e3
      unfold zeroD fieldB opB
      rw [e1, e2]
      simp only [hp2_1, hp2_2, hp2_4, hp2_8, hp2_16, hp2_128, e3, h, Bool.true_or, Bool.false_or, Bool.true_and, Bool.and_true, if_true]
      generalize rangeB ⟨2, r, a, b, order, imm⟩ = R
      generalize decide (k + 1 = l.length) = z
      generalize (r == 0) = b1
      generalize (order == 0) = b2
      generalize (imm == 0) = b3
      try generalize P a = p1
      try generalize P b = p2
      cases ha : (a == 0) <;> cases hb : (b == 0) <;> simp [ha, hb, bne] <;> cases R <;> cases z <;> cases b1 <;> cases b2 <;> cases b3 <;> simp_all
    · have hr := rangeB ⟨3, r, a, b, order, imm⟩
      have e1 : usesD ⟨3, r, a, b, order, imm⟩ = usesL ⟨3, r, a, b, order, imm⟩ := by simp [usesD, usesL, shpV, hp3_2, hp3_4]
      have e2 : lastD ⟨3, r, a, b, order, imm⟩ = hasP 3 128 := by rw [hp3_128]; rfl
      have e3 : usesL ⟨3, r, a, b, order, imm⟩ = (if hasP 3 2 = true then [a] else []) ++ (if hasP 3 4 = true then [b] else []) := rfl
      rw [hp3_2, hp3_4] at e3
      unfold zeroD fieldB opB
      rw [e1, e2]
      simp only [hp3_1, hp3_2, hp3_4, hp3_8, hp3_16, hp3_128, e3, h, Bool.true_or, Bool.false_or, Bool.true_and, Bool.and_true, if_true]
      generalize rangeB ⟨3, r, a, b, order, imm⟩ = R
      generalize decide (k + 1 = l.length) = z
      generalize (r == 0) = b1
      generalize (order == 0) = b2
      generalize (imm == 0) = b3
      try generalize P a = p1
      try generalize P b = p2
      cases ha : (a == 0) <;> cases hb : (b == 0) <;> simp [ha, hb, bne] <;> cases R <;> cases z <;> cases b1 <;> cases b2 <;> cases b3 <;> simp_all
    · have hr := rangeB ⟨4, r, a, b, order, imm⟩
      have e1 : usesD ⟨4, r, a, b, order, imm⟩ = usesL ⟨4, r, a, b, order, imm⟩ := by simp [usesD, usesL, shpV, hp4_2, hp4_4]
      have e2 : lastD ⟨4, r, a, b, order, imm⟩ = hasP 4 128 := by rw [hp4_128]; rfl
      have e3 : usesL ⟨4, r, a, b, order, imm⟩ = (if hasP 4 2 = true then [a] else []) ++ (if hasP 4 4 = true then [b] else []) := rfl
      rw [hp4_2, hp4_4] at e3
      unfold zeroD fieldB opB
      rw [e1, e2]
      simp only [hp4_1, hp4_2, hp4_4, hp4_8, hp4_16, hp4_128, e3, h, Bool.true_or, Bool.false_or, Bool.true_and, Bool.and_true, if_true]
      generalize rangeB ⟨4, r, a, b, order, imm⟩ = R
      generalize decide (k + 1 = l.length) = z
      generalize (r == 0) = b1
      generalize (order == 0) = b2
      generalize (imm == 0) = b3
      try generalize P a = p1
      try generalize P b = p2
      cases ha : (a == 0) <;> cases hb : (b == 0) <;> simp [ha, hb, bne] <;> cases R <;> cases z <;> cases b1 <;> cases b2 <;> cases b3 <;> simp_all
    · have hr := rangeB ⟨5, r, a, b, order, imm⟩
      have e1 : usesD ⟨5, r, a, b, order, imm⟩ = usesL ⟨5, r, a, b, order, imm⟩ := by simp [usesD, usesL, shpV, hp5_2, hp5_4]
      have e2 : lastD ⟨5, r, a, b, order, imm⟩ = hasP 5 128 := by rw [hp5_128]; rfl
      have e3 : usesL ⟨5, r, a, b, order, imm⟩ = (if hasP 5 2 = true then [a] else []) ++ (if hasP 5 4 = true then [b] else []) := rfl
      rw [hp5_2, hp5_4] at e3
      unfold zeroD fieldB opB
      rw [e1, e2]
      simp only [hp5_1, hp5_2, hp5_4, hp5_8, hp5_16, hp5_128, e3, h, Bool.true_or, Bool.false_or, Bool.true_and, Bool.and_true, if_true]
      generalize rangeB ⟨5, r, a, b, order, imm⟩ = R
      generalize decide (k + 1 = l.length) = z
      generalize (r == 0) = b1
      generalize (order == 0) = b2
      generalize (imm == 0) = b3
      try generalize P a = p1
      try generalize P b = p2
      cases ha : (a == 0) <;> cases hb : (b == 0) <;> simp [ha, hb, bne] <;> cases R <;> cases z <;> cases b1 <;> cases b2 <;> cases b3 <;> simp_all
    · have hr := rangeB ⟨6, r, a, b, order, imm⟩
      have e1 : usesD ⟨6, r, a, b, order, imm⟩ = usesL ⟨6, r, a, b, order, imm⟩ := by simp [usesD, usesL, shpV, hp6_2, hp6_4]
      have e2 : lastD ⟨6, r, a, b, order, imm⟩ = hasP 6 128 := by rw [hp6_128]; rfl
      have e3 : usesL ⟨6, r, a, b, order, imm⟩ = (if hasP 6 2 = true then [a] else []) ++ (if hasP 6 4 = true then [b] else []) := rfl
      rw [hp6_2, hp6_4] at e3
      unfold zeroD fieldB opB
      rw [e1, e2]
      simp only [hp6_1, hp6_2, hp6_4, hp6_8, hp6_16, hp6_128, e3, h, Bool.true_or, Bool.false_or, Bool.true_and, Bool.and_true, if_true]
      generalize rangeB ⟨6, r, a, b, order, imm⟩ = R
      generalize decide (k + 1 = l.length) = z
      generalize (r == 0) = b1
      generalize (order == 0) = b2
      generalize (imm == 0) = b3
      try generalize P a = p1
      try generalize P b = p2
      cases ha : (a == 0) <;> cases hb : (b == 0) <;> simp [ha, hb, bne] <;> cases R <;> cases z <;> cases b1 <;> cases b2 <;> cases b3 <;> simp_all
    · have hr := rangeB ⟨7, r, a, b, order, imm⟩
      have e1 : usesD ⟨7, r, a, b, order, imm⟩ = usesL ⟨7, r, a, b, order, imm⟩ := by simp [usesD, usesL, shpV, hp7_2, hp7_4]
      have e2 : lastD ⟨7, r, a, b, order, imm⟩ = hasP 7 128 := by rw [hp7_128]; rfl
      have e3 : usesL ⟨7, r, a, b, order, imm⟩ = (if hasP 7 2 = true then [a] else []) ++ (if hasP 7 4 = true then [b] else []) := rfl
      rw [hp7_2, hp7_4] at e3
      unfold zeroD fieldB opB
      rw [e1, e2]
      simp only [hp7_1, hp7_2, hp7_4, hp7_8, hp7_16, hp7_128, e3, h, Bool.true_or, Bool.false_or, Bool.true_and, Bool.and_true, if_true]
      generalize rangeB ⟨7, r, a, b, order, imm⟩ = R
      generalize decide (k + 1 = l.length) = z
      generalize (r == 0) = b1
      generalize (order == 0) = b2
      generalize (imm == 0) = b3
      try generalize P a = p1
      try generalize P b = p2
      cases ha : (a == 0) <;> cases hb : (b == 0) <;> simp [ha, hb, bne] <;> cases R <;> cases z <;> cases b1 <;> cases b2 <;> cases b3 <;> simp_all
    · have hr := rangeB ⟨8, r, a, b, order, imm⟩
      have e1 : usesD ⟨8, r, a, b, order, imm⟩ = usesL ⟨8, r, a, b, order, imm⟩ := by simp [usesD, usesL, shpV, hp8_2, hp8_4]
      have e2 : lastD ⟨8, r, a, b, order, imm⟩ = hasP 8 128 := by rw [hp8_128]; rfl
      have e3 : usesL ⟨8, r, a, b, order, imm⟩ = (if hasP 8 2 = true then [a] else []) ++ (if hasP 8 4 = true then [b] else []) := rfl
      rw [hp8_2, hp8_4] at e3
      unfold zeroD fieldB opB
      rw [e1, e2]
      simp only [hp8_1, hp8_2, hp8_4, hp8_8, hp8_16, hp8_128, e3, h, Bool.true_or, Bool.false_or, Bool.true_and, Bool.and_true, if_true]
      generalize rangeB ⟨8, r, a, b, order, imm⟩ = R
      generalize decide (k + 1 = l.length) = z
      generalize (r == 0) = b1
      generalize (order == 0) = b2
      generalize (imm == 0) = b3
      try generalize P a = p1
      try generalize P b = p2
      cases ha : (a == 0) <;> cases hb : (b == 0) <;> simp [ha, hb, bne] <;> cases R <;> cases z <;> cases b1 <;> cases b2 <;> cases b3 <;> simp_all
    · have hr := rangeB ⟨9, r, a, b, order, imm⟩
      have e1 : usesD ⟨9, r, a, b, order, imm⟩ = usesL ⟨9, r, a, b, order, imm⟩ := by simp [usesD, usesL, shpV, hp9_2, hp9_4]
      have e2 : lastD ⟨9, r, a, b, order, imm⟩ = hasP 9 128 := by rw [hp9_128]; rfl
      have e3 : usesL ⟨9, r, a, b, order, imm⟩ = (if hasP 9 2 = true then [a] else []) ++ (if hasP 9 4 = true then [b] else []) := rfl
      rw [hp9_2, hp9_4] at e3
      unfold zeroD fieldB opB
      rw [e1, e2]
      simp only [hp9_1, hp9_2, hp9_4, hp9_8, hp9_16, hp9_128, e3, h, Bool.true_or, Bool.false_or, Bool.true_and, Bool.and_true, if_true]
      generalize rangeB ⟨9, r, a, b, order, imm⟩ = R
      generalize decide (k + 1 = l.length) = z
      generalize (r == 0) = b1
      generalize (order == 0) = b2
      generalize (imm == 0) = b3
      try generalize P a = p1
      try generalize P b = p2
      cases ha : (a == 0) <;> cases hb : (b == 0) <;> simp [ha, hb, bne] <;> cases R <;> cases z <;> cases b1 <;> cases b2 <;> cases b3 <;> simp_all
    · have hr := rangeB ⟨10, r, a, b, order, imm⟩
      have e1 : usesD ⟨10, r, a, b, order, imm⟩ = usesL ⟨10, r, a, b, order, imm⟩ := by simp [usesD, usesL, shpV, hp10_2, hp10_4]
      have e2 : lastD ⟨10, r, a, b, order, imm⟩ = hasP 10 128 := by rw [hp10_128]; rfl
      have e3 : usesL ⟨10, r, a, b, order, imm⟩ = (if hasP 10 2 = true then [a] else []) ++ (if hasP 10 4 = true then [b] else []) := rfl
      rw [hp10_2, hp10_4] at e3
      unfold zeroD fieldB opB
      rw [e1, e2]
      simp only [hp10_1, hp10_2, hp10_4, hp10_8, hp10_16, hp10_128, e3, h, Bool.true_or, Bool.false_or, Bool.true_and, Bool.and_true, if_true]
      generalize rangeB ⟨10, r, a, b, order, imm⟩ = R
      generalize decide (k + 1 = l.length) = z
      generalize (r == 0) = b1
      generalize (order == 0) = b2
      generalize (imm == 0) = b3
      try generalize P a = p1
      try generalize P b = p2
      cases ha : (a == 0) <;> cases hb : (b == 0) <;> simp [ha, hb, bne] <;> cases R <;> cases z <;> cases b1 <;> cases b2 <;> cases b3 <;> simp_all
    · have hr := rangeB ⟨11, r, a, b, order, imm⟩
      have e1 : usesD ⟨11, r, a, b, order, imm⟩ = usesL ⟨11, r, a, b, order, imm⟩ := by simp [usesD, usesL, shpV, hp11_2, hp11_4]
      have e2 : lastD ⟨11, r, a, b, order, imm⟩ = hasP 11 128 := by rw [hp11_128]; rfl
      have e3 : usesL ⟨11, r, a, b, order, imm⟩ = (if hasP 11 2 = true then [a] else []) ++ (if hasP 11 4 = true then [b] else []) := rfl
      rw [hp11_2, hp11_4] at e3
      unfold zeroD fieldB opB
      rw [e1, e2]
      simp only [hp11_1, hp11_2, hp11_4, hp11_8, hp11_16, hp11_128, e3, h, Bool.true_or, Bool.false_or, Bool.true_and, Bool.and_true, if_true]
      generalize rangeB ⟨11, r, a, b, order, imm⟩ = R
      generalize decide (k + 1 = l.length) = z
      generalize (r == 0) = b1
      generalize (order == 0) = b2
      generalize (imm == 0) = b3
      try generalize P a = p1
      try generalize P b = p2
      cases ha : (a == 0) <;> cases hb : (b == 0) <;> simp [ha, hb, bne] <;> cases R <;> cases z <;> cases b1 <;> cases b2 <;> cases b3 <;> simp_all
    · have hr := rangeB ⟨12, r, a, b, order, imm⟩
      have e1 : usesD ⟨12, r, a, b, order, imm⟩ = usesL ⟨12, r, a, b, order, imm⟩ := by simp [usesD, usesL, shpV, hp12_2, hp12_4]
      have e2 : lastD ⟨12, r, a, b, order, imm⟩ = hasP 12 128 := by rw [hp12_128]; rfl
      have e3 : usesL ⟨12, r, a, b, order, imm⟩ = (if hasP 12 2 = true then [a] else []) ++ (if hasP 12 4 = true then [b] else []) := rfl
      rw [hp12_2, hp12_4] at e3
      unfold zeroD fieldB opB
      rw [e1, e2]
      simp only [hp12_1, hp12_2, hp12_4, hp12_8, hp12_16, hp12_128, e3, h, Bool.true_or, Bool.false_or, Bool.true_and, Bool.and_true, if_true]
      generalize rangeB ⟨12, r, a, b, order, imm⟩ = R
      generalize decide (k + 1 = l.length) = z
      generalize (r == 0) = b1
      generalize (order == 0) = b2
      generalize (imm == 0) = b3
      try generalize P a = p1
      try generalize P b = p2
      cases ha : (a == 0) <;> cases hb : (b == 0) <;> simp [ha, hb, bne] <;> cases R <;> cases z <;> cases b1 <;> cases b2 <;> cases b3 <;> simp_all
    · have hr := rangeB ⟨13, r, a, b, order, imm⟩
      have e1 : usesD ⟨13, r, a, b, order, imm⟩ = usesL ⟨13, r, a, b, order, imm⟩ := by simp [usesD, usesL, shpV, hp13_2, hp13_4]
      have e2 : lastD ⟨13, r, a, b, order, imm⟩ = hasP 13 128 := by rw [hp13_128]; rfl
      have e3 : usesL ⟨13, r, a, b, order, imm⟩ = (if hasP 13 2 = true then [a] else []) ++ (if hasP 13 4 = true then [b] else []) := rfl
      rw [hp13_2, hp13_4] at e3
      unfold zeroD fieldB opB
      rw [e1, e2]
      simp only [hp13_1, hp13_2, hp13_4, hp13_8, hp13_16, hp13_128, e3, h, Bool.true_or, Bool.false_or, Bool.true_and, Bool.and_true, if_true]
      generalize rangeB ⟨13, r, a, b, order, imm⟩ = R
      generalize decide (k + 1 = l.length) = z
      generalize (r == 0) = b1
      generalize (order == 0) = b2
      generalize (imm == 0) = b3
      try generalize P a = p1
      try generalize P b = p2
      cases ha : (a == 0) <;> cases hb : (b == 0) <;> simp [ha, hb, bne] <;> cases R <;> cases z <;> cases b1 <;> cases b2 <;> cases b3 <;> simp_all
    · have hr := rangeB ⟨14, r, a, b, order, imm⟩
      have e1 : usesD ⟨14, r, a, b, order, imm⟩ = usesL ⟨14, r, a, b, order, imm⟩ := by simp [usesD, usesL, shpV, hp14_2, hp14_4]
      have e2 : lastD ⟨14, r, a, b, order, imm⟩ = hasP 14 128 := by rw [hp14_128]; rfl
      have e3 : usesL ⟨14, r, a, b, order, imm⟩ = (if hasP 14 2 = true then [a] else []) ++ (if hasP 14 4 = true then [b] else []) := rfl
      rw [hp14_2, hp14_4] at e3
      unfold zeroD fieldB opB
      rw [e1, e2]
      simp only [hp14_1, hp14_2, hp14_4, hp14_8, hp14_16, hp14_128, e3, h, Bool.true_or, Bool.false_or, Bool.true_and, Bool.and_true, if_true]
      generalize rangeB ⟨14, r, a, b, order, imm⟩ = R
      generalize decide (k + 1 = l.length) = z
      generalize (r == 0) = b1
      generalize (order == 0) = b2
      generalize (imm == 0) = b3
      try generalize P a = p1
      try generalize P b = p2
      cases ha : (a == 0) <;> cases hb : (b == 0) <;> simp [ha, hb, bne] <;> cases R <;> cases z <;> cases b1 <;> cases b2 <;> cases b3 <;> simp_all
    · have hr := rangeB ⟨15, r, a, b, order, imm⟩
      have e1 : usesD ⟨15, r, a, b, order, imm⟩ = usesL ⟨15, r, a, b, order, imm⟩ := by simp [usesD, usesL, shpV, hp15_2, hp15_4]
      have e2 : lastD ⟨15, r, a, b, order, imm⟩ = hasP 15 128 := by rw [hp15_128]; rfl
      have e3 : usesL ⟨15, r, a, b, order, imm⟩ = (if hasP 15 2 = true then [a] else []) ++ (if hasP 15 4 = true then [b] else []) := rfl
      rw [hp15_2, hp15_4] at e3
      unfold zeroD fieldB opB
      rw [e1, e2]
      simp only [hp15_1, hp15_2, hp15_4, hp15_8, hp15_16, hp15_128, e3, h, Bool.true_or, Bool.false_or, Bool.true_and, Bool.and_true, if_true]
      generalize rangeB ⟨15, r, a, b, order, imm⟩ = R
      generalize decide (k + 1 = l.length) = z
      generalize (r == 0) = b1
      generalize (order == 0) = b2
      generalize (imm == 0) = b3
      try generalize P a = p1
      try generalize P b = p2
      cases ha : (a == 0) <;> cases hb : (b == 0) <;> simp [ha, hb, bne] <;> cases R <;> cases z <;> cases b1 <;> cases b2 <;> cases b3 <;> simp_all
    · have hr := rangeB ⟨16, r, a, b, order, imm⟩
      have e1 : usesD ⟨16, r, a, b, order, imm⟩ = usesL ⟨16, r, a, b, order, imm⟩ := by simp [usesD, usesL, shpV, hp16_2, hp16_4]
      have e2 : lastD ⟨16, r, a, b, order, imm⟩ = hasP 16 128 := by rw [hp16_128]; rfl
      have e3 : usesL ⟨16, r, a, b, order, imm⟩ = (if hasP 16 2 = true then [a] else []) ++ (if hasP 16 4 = true then [b] else []) := rfl
      rw [hp16_2, hp16_4] at e3
      unfold zeroD fieldB opB
      rw [e1, e2]
      simp only [hp16_1, hp16_2, hp16_4, hp16_8, hp16_16, hp16_128, e3, h, Bool.true_or, Bool.false_or, Bool.true_and, Bool.and_true, if_true]
      generalize rangeB ⟨16, r, a, b, order, imm⟩ = R
      generalize decide (k + 1 = l.length) = z
      generalize (r == 0) = b1
      generalize (order == 0) = b2
      generalize (imm == 0) = b3
      try generalize P a = p1
      try generalize P b = p2
      cases ha : (a == 0) <;> cases hb : (b == 0) <;> simp [ha, hb, bne] <;> cases R <;> cases z <;> cases b1 <;> cases b2 <;> cases b3 <;> simp_all
    · have hr := rangeB ⟨17, r, a, b, order, imm⟩
      have e1 : usesD ⟨17, r, a, b, order, imm⟩ = usesL ⟨17, r, a, b, order, imm⟩ := by simp [usesD, usesL, shpV, hp17_2, hp17_4]
      have e2 : lastD ⟨17, r, a, b, order, imm⟩ = hasP 17 128 := by rw [hp17_128]; rfl
      have e3 : usesL ⟨17, r, a, b, order, imm⟩ = (if hasP 17 2 = true then [a] else []) ++ (if hasP 17 4 = true then [b] else []) := rfl
      rw [hp17_2, hp17_4] at e3
      unfold zeroD fieldB opB
      rw [e1, e2]
      simp only [hp17_1, hp17_2, hp17_4, hp17_8, hp17_16, hp17_128, e3, h, Bool.true_or, Bool.false_or, Bool.true_and, Bool.and_true, if_true]
      generalize rangeB ⟨17, r, a, b, order, imm⟩ = R
      generalize decide (k + 1 = l.length) = z
      generalize (r == 0) = b1
      generalize (order == 0) = b2
      generalize (imm == 0) = b3
      try generalize P a = p1
      try generalize P b = p2
      cases ha : (a == 0) <;> cases hb : (b == 0) <;> simp [ha, hb, bne] <;> cases R <;> cases z <;> cases b1 <;> cases b2 <;> cases b3 <;> simp_all
    · have hr := rangeB ⟨18, r, a, b, order, imm⟩
      have e1 : usesD ⟨18, r, a, b, order, imm⟩ = usesL ⟨18, r, a, b, order, imm⟩ := by simp [usesD, usesL, shpV, hp18_2, hp18_4]
      have e2 : lastD ⟨18, r, a, b, order, imm⟩ = hasP 18 128 := by rw [hp18_128]; rfl
      have e3 : usesL ⟨18, r, a, b, order, imm⟩ = (if hasP 18 2 = true then [a] else []) ++ (if hasP 18 4 = true then [b] else []) := rfl
      rw [hp18_2, hp18_4] at e3
      unfold zeroD fieldB opB
      rw [e1, e2]
      simp only [hp18_1, hp18_2, hp18_4, hp18_8, hp18_16, hp18_128, e3, h, Bool.true_or, Bool.false_or, Bool.true_and, Bool.and_true, if_true]
      generalize rangeB ⟨18, r, a, b, order, imm⟩ = R
      generalize decide (k + 1 = l.length) = z
      generalize (r == 0) = b1
      generalize (order == 0) = b2
      generalize (imm == 0) = b3
      try generalize P a = p1
      try generalize P b = p2
      cases ha : (a == 0) <;> cases hb : (b == 0) <;> simp [ha, hb, bne] <;> cases R <;> cases z <;> cases b1 <;> cases b2 <;> cases b3 <;> simp_all
end Go.Proofs.Ytejlmggfeejgpaa
