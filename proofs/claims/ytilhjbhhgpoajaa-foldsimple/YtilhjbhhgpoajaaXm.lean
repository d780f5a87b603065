/- Dm, Dn, Do, Dp of the seat, joined. -/
import Derived.Test.YtilhjbhhgpoajaaXa
import Derived.Test.YtilhjbhhgpoajaaIg
import Derived.StillTail
import Derived.StillTactics
/- The document's own Right: the fields. -/
namespace Go.Proofs.Ytilhjbhhgpoajaa
open Go.RowKit
set_option linter.unusedVariables false
set_option linter.unusedSimpArgs false
set_option maxRecDepth 8000

def fieldB (o : Opr) : Bool := isK o.kind && (hasP o.kind 1 || o.r == 0) && (hasP o.kind 8 || o.order == 0) && (hasP o.kind 16 || o.imm == 0) && rangeB o
section
variable {r a b order imm : Int}
set_option maxHeartbeats 2000000 in
theorem field_1 (hi : 0 ≤ imm) (w : World) : Calls Try.prog 19 #[opV ⟨1, r, a, b, order, imm⟩] w fun e w' => e = .returned (.bool (fieldB ⟨1, r, a, b, order, imm⟩)) ∧ Below w.heap.size w w' := by
  have hb := below_alloc w (.cells (opA ⟨1, r, a, b, order, imm⟩) 45)
  have L : LocO w.heap.size ⟨1, r, a, b, order, imm⟩ (w.alloc (.cells (opA ⟨1, r, a, b, order, imm⟩) 45)) := LocO.new w _
  have ef : fieldB ⟨1, r, a, b, order, imm⟩ = ((r == 0) && (order == 0) && (true)) := by
    unfold fieldB
    have h0 : isK 1 = true := by decide
    have hr : rangeB ⟨1, r, a, b, order, imm⟩ = (true) := by
      simp [rangeB]
    rw [hr]
    simp [h0, hp1_1, hp1_8, hp1_16]
  rw [ef]
  clear ef
  go_enter Try.func19, Try.ntmps19
  go_upto_region 1 with fail
  generalize w.alloc (.cells (opA ⟨1, r, a, b, order, imm⟩) 45) = w1 at *
  have z0 := L.c0
  have z1 := L.c1
  have z4 := L.c4
  have z5 := L.c5
  generalize hr : (r == 0) = br
  generalize horder : (order == 0) = border
  go_wp2_with fail
  all_goals (go_ret; refine ⟨ret_bool ?_, hb⟩; simp_all)
set_option maxHeartbeats 2000000 in
theorem field_2 (hi : 0 ≤ imm) (w : World) : Calls Try.prog 19 #[opV ⟨2, r, a, b, order, imm⟩] w fun e w' => e = .returned (.bool (fieldB ⟨2, r, a, b, order, imm⟩)) ∧ Below w.heap.size w w' := by
  have hb := below_alloc w (.cells (opA ⟨2, r, a, b, order, imm⟩) 45)
  have L : LocO w.heap.size ⟨2, r, a, b, order, imm⟩ (w.alloc (.cells (opA ⟨2, r, a, b, order, imm⟩) 45)) := LocO.new w _
  have ef : fieldB ⟨2, r, a, b, order, imm⟩ = ((order == 0) && (imm == 0) && (decide (0 ≤ r) && decide (r ≤ 30))) := by
    unfold fieldB
    have h0 : isK 2 = true := by decide
    have hr : rangeB ⟨2, r, a, b, order, imm⟩ = (decide (0 ≤ r) && decide (r ≤ 30)) := by
      simp [rangeB]
    rw [hr]
    simp [h0, hp2_1, hp2_8, hp2_16]
  rw [ef]
  clear ef
  go_enter Try.func19, Try.ntmps19
  go_upto_region 1 with fail
  generalize w.alloc (.cells (opA ⟨2, r, a, b, order, imm⟩) 45) = w1 at *
  have z0 := L.c0
  have z1 := L.c1
  have z4 := L.c4
  have z5 := L.c5
  have ki := fun y => dIn_c r 0 30 y
  generalize hg : (decide ((0 : Int) ≤ r) && decide (r ≤ (30 : Int))) = gg at ki ⊢
  generalize horder : (order == 0) = border
  generalize himm : (imm == 0) = bimm
  go_wp2_with (go_at_call 18; (with_reducible refine (ki _).mono ?_); rintro e w2 ⟨rfl, rfl⟩; dsimp only)
  all_goals (go_ret; refine ⟨ret_bool ?_, hb⟩; simp_all)
set_option maxHeartbeats 2000000 in
theorem field_3 (hi : 0 ≤ imm) (w : World) : Calls Try.prog 19 #[opV ⟨3, r, a, b, order, imm⟩] w fun e w' => e = .returned (.bool (fieldB ⟨3, r, a, b, order, imm⟩)) ∧ Below w.heap.size w w' := by
  have hb := below_alloc w (.cells (opA ⟨3, r, a, b, order, imm⟩) 45)
  have L : LocO w.heap.size ⟨3, r, a, b, order, imm⟩ (w.alloc (.cells (opA ⟨3, r, a, b, order, imm⟩) 45)) := LocO.new w _
  have ef : fieldB ⟨3, r, a, b, order, imm⟩ = ((order == 0) && (imm == 0) && (decide (0 ≤ r) && decide (r ≤ 30))) := by
    unfold fieldB
    have h0 : isK 3 = true := by decide
    have hr : rangeB ⟨3, r, a, b, order, imm⟩ = (decide (0 ≤ r) && decide (r ≤ 30)) := by
      simp [rangeB]
    rw [hr]
    simp [h0, hp3_1, hp3_8, hp3_16]
  rw [ef]
  clear ef
  go_enter Try.func19, Try.ntmps19
  go_upto_region 1 with fail
  generalize w.alloc (.cells (opA ⟨3, r, a, b, order, imm⟩) 45) = w1 at *
  have z0 := L.c0
  have z1 := L.c1
  have z4 := L.c4
  have z5 := L.c5
  have ki := fun y => dIn_c r 0 30 y
  generalize hg : (decide ((0 : Int) ≤ r) && decide (r ≤ (30 : Int))) = gg at ki ⊢
  generalize horder : (order == 0) = border
  generalize himm : (imm == 0) = bimm
  go_wp2_with (go_at_call 18; (with_reducible refine (ki _).mono ?_); rintro e w2 ⟨rfl, rfl⟩; dsimp only)
  all_goals (go_ret; refine ⟨ret_bool ?_, hb⟩; simp_all)
set_option maxHeartbeats 2000000 in
theorem field_4 (hi : 0 ≤ imm) (w : World) : Calls Try.prog 19 #[opV ⟨4, r, a, b, order, imm⟩] w fun e w' => e = .returned (.bool (fieldB ⟨4, r, a, b, order, imm⟩)) ∧ Below w.heap.size w w' := by
  have hb := below_alloc w (.cells (opA ⟨4, r, a, b, order, imm⟩) 45)
  have L : LocO w.heap.size ⟨4, r, a, b, order, imm⟩ (w.alloc (.cells (opA ⟨4, r, a, b, order, imm⟩) 45)) := LocO.new w _
  have ef : fieldB ⟨4, r, a, b, order, imm⟩ = ((r == 0) && (order == 0) && (imm == 0) && (true)) := by
    unfold fieldB
    have h0 : isK 4 = true := by decide
    have hr : rangeB ⟨4, r, a, b, order, imm⟩ = (true) := by
      simp [rangeB]
    rw [hr]
    simp [h0, hp4_1, hp4_8, hp4_16]
  rw [ef]
  clear ef
  go_enter Try.func19, Try.ntmps19
  go_upto_region 1 with fail
  generalize w.alloc (.cells (opA ⟨4, r, a, b, order, imm⟩) 45) = w1 at *
  have z0 := L.c0
  have z1 := L.c1
  have z4 := L.c4
  have z5 := L.c5
  generalize hr : (r == 0) = br
  generalize horder : (order == 0) = border
  generalize himm : (imm == 0) = bimm
  go_wp2_with fail
  all_goals (go_ret; refine ⟨ret_bool ?_, hb⟩; simp_all)
set_option maxHeartbeats 2000000 in
theorem field_5 (hi : 0 ≤ imm) (w : World) : Calls Try.prog 19 #[opV ⟨5, r, a, b, order, imm⟩] w fun e w' => e = .returned (.bool (fieldB ⟨5, r, a, b, order, imm⟩)) ∧ Below w.heap.size w w' := by
  have hb := below_alloc w (.cells (opA ⟨5, r, a, b, order, imm⟩) 45)
  have L : LocO w.heap.size ⟨5, r, a, b, order, imm⟩ (w.alloc (.cells (opA ⟨5, r, a, b, order, imm⟩) 45)) := LocO.new w _
  have ef : fieldB ⟨5, r, a, b, order, imm⟩ = ((r == 0) && (order == 0) && (imm == 0) && (true)) := by
    unfold fieldB
    have h0 : isK 5 = true := by decide
    have hr : rangeB ⟨5, r, a, b, order, imm⟩ = (true) := by
      simp [rangeB]
    rw [hr]
    simp [h0, hp5_1, hp5_8, hp5_16]
  rw [ef]
  clear ef
  go_enter Try.func19, Try.ntmps19
  go_upto_region 1 with fail
  generalize w.alloc (.cells (opA ⟨5, r, a, b, order, imm⟩) 45) = w1 at *
  have z0 := L.c0
  have z1 := L.c1
  have z4 := L.c4
  have z5 := L.c5
  generalize hr : (r == 0) = br
  generalize horder : (order == 0) = border
  generalize himm : (imm == 0) = bimm
  go_wp2_with fail
  all_goals (go_ret; refine ⟨ret_bool ?_, hb⟩; simp_all)
set_option maxHeartbeats 2000000 in
theorem field_6 (hi : 0 ≤ imm) (w : World) : Calls Try.prog 19 #[opV ⟨6, r, a, b, order, imm⟩] w fun e w' => e = .returned (.bool (fieldB ⟨6, r, a, b, order, imm⟩)) ∧ Below w.heap.size w w' := by
  have hb := below_alloc w (.cells (opA ⟨6, r, a, b, order, imm⟩) 45)
  have L : LocO w.heap.size ⟨6, r, a, b, order, imm⟩ (w.alloc (.cells (opA ⟨6, r, a, b, order, imm⟩) 45)) := LocO.new w _
  have ef : fieldB ⟨6, r, a, b, order, imm⟩ = ((order == 0) && (imm == 0) && (decide (0 ≤ r) && decide (r ≤ 3))) := by
    unfold fieldB
    have h0 : isK 6 = true := by decide
    have hr : rangeB ⟨6, r, a, b, order, imm⟩ = (decide (0 ≤ r) && decide (r ≤ 3)) := by
      simp [rangeB]
    rw [hr]
    simp [h0, hp6_1, hp6_8, hp6_16]
  rw [ef]
  clear ef
  go_enter Try.func19, Try.ntmps19
  go_upto_region 1 with fail
  generalize w.alloc (.cells (opA ⟨6, r, a, b, order, imm⟩) 45) = w1 at *
  have z0 := L.c0
  have z1 := L.c1
  have z4 := L.c4
  have z5 := L.c5
  have ki := fun y => dIn_c r 0 3 y
  generalize hg : (decide ((0 : Int) ≤ r) && decide (r ≤ (3 : Int))) = gg at ki ⊢
  generalize horder : (order == 0) = border
  generalize himm : (imm == 0) = bimm
  go_wp2_with (go_at_call 18; (with_reducible refine (ki _).mono ?_); rintro e w2 ⟨rfl, rfl⟩; dsimp only)
  all_goals (go_ret; refine ⟨ret_bool ?_, hb⟩; simp_all)
set_option maxHeartbeats 2000000 in
theorem field_7 (hi : 0 ≤ imm) (w : World) : Calls Try.prog 19 #[opV ⟨7, r, a, b, order, imm⟩] w fun e w' => e = .returned (.bool (fieldB ⟨7, r, a, b, order, imm⟩)) ∧ Below w.heap.size w w' := by
  have hb := below_alloc w (.cells (opA ⟨7, r, a, b, order, imm⟩) 45)
  have L : LocO w.heap.size ⟨7, r, a, b, order, imm⟩ (w.alloc (.cells (opA ⟨7, r, a, b, order, imm⟩) 45)) := LocO.new w _
  have ef : fieldB ⟨7, r, a, b, order, imm⟩ = ((order == 0) && (imm == 0) && (decide (0 ≤ r) && decide (r ≤ 3))) := by
    unfold fieldB
    have h0 : isK 7 = true := by decide
    have hr : rangeB ⟨7, r, a, b, order, imm⟩ = (decide (0 ≤ r) && decide (r ≤ 3)) := by
      simp [rangeB]
    rw [hr]
    simp [h0, hp7_1, hp7_8, hp7_16]
  rw [ef]
  clear ef
  go_enter Try.func19, Try.ntmps19
  go_upto_region 1 with fail
  generalize w.alloc (.cells (opA ⟨7, r, a, b, order, imm⟩) 45) = w1 at *
  have z0 := L.c0
  have z1 := L.c1
  have z4 := L.c4
  have z5 := L.c5
  have ki := fun y => dIn_c r 0 3 y
  generalize hg : (decide ((0 : Int) ≤ r) && decide (r ≤ (3 : Int))) = gg at ki ⊢
  generalize horder : (order == 0) = border
  generalize himm : (imm == 0) = bimm
  go_wp2_with (go_at_call 18; (with_reducible refine (ki _).mono ?_); rintro e w2 ⟨rfl, rfl⟩; dsimp only)
  all_goals (go_ret; refine ⟨ret_bool ?_, hb⟩; simp_all)
set_option maxHeartbeats 2000000 in
theorem field_8 (hi : 0 ≤ imm) (w : World) : Calls Try.prog 19 #[opV ⟨8, r, a, b, order, imm⟩] w fun e w' => e = .returned (.bool (fieldB ⟨8, r, a, b, order, imm⟩)) ∧ Below w.heap.size w w' := by
  have hb := below_alloc w (.cells (opA ⟨8, r, a, b, order, imm⟩) 45)
  have L : LocO w.heap.size ⟨8, r, a, b, order, imm⟩ (w.alloc (.cells (opA ⟨8, r, a, b, order, imm⟩) 45)) := LocO.new w _
  have ef : fieldB ⟨8, r, a, b, order, imm⟩ = ((order == 0) && (imm == 0) && (decide (1 ≤ r) && decide (r ≤ 15))) := by
    unfold fieldB
    have h0 : isK 8 = true := by decide
    have hr : rangeB ⟨8, r, a, b, order, imm⟩ = (decide (1 ≤ r) && decide (r ≤ 15)) := by
      simp [rangeB]
    rw [hr]
    simp [h0, hp8_1, hp8_8, hp8_16]
  rw [ef]
  clear ef
  go_enter Try.func19, Try.ntmps19
  go_upto_region 1 with fail
  generalize w.alloc (.cells (opA ⟨8, r, a, b, order, imm⟩) 45) = w1 at *
  have z0 := L.c0
  have z1 := L.c1
  have z4 := L.c4
  have z5 := L.c5
  have ki := fun y => dIn_c r 1 15 y
  generalize hg : (decide ((1 : Int) ≤ r) && decide (r ≤ (15 : Int))) = gg at ki ⊢
  generalize horder : (order == 0) = border
  generalize himm : (imm == 0) = bimm
  go_wp2_with (go_at_call 18; (with_reducible refine (ki _).mono ?_); rintro e w2 ⟨rfl, rfl⟩; dsimp only)
  all_goals (go_ret; refine ⟨ret_bool ?_, hb⟩; simp_all)
set_option maxHeartbeats 2000000 in
theorem field_9 (hi : 0 ≤ imm) (w : World) : Calls Try.prog 19 #[opV ⟨9, r, a, b, order, imm⟩] w fun e w' => e = .returned (.bool (fieldB ⟨9, r, a, b, order, imm⟩)) ∧ Below w.heap.size w w' := by
  have hb := below_alloc w (.cells (opA ⟨9, r, a, b, order, imm⟩) 45)
  have L : LocO w.heap.size ⟨9, r, a, b, order, imm⟩ (w.alloc (.cells (opA ⟨9, r, a, b, order, imm⟩) 45)) := LocO.new w _
  have e9 : (order == 0 || order == 1 || order == 2) = (decide (0 ≤ order) && decide (order ≤ 2)) := by rw [Bool.eq_iff_iff]; simp; omega
  have ef : fieldB ⟨9, r, a, b, order, imm⟩ = ((r == 0) && (imm == 0) && (decide (0 ≤ order) && decide (order ≤ 2))) := by
    unfold fieldB
    have h0 : isK 9 = true := by decide
    have hr : rangeB ⟨9, r, a, b, order, imm⟩ = (decide (0 ≤ order) && decide (order ≤ 2)) := by
      simp [rangeB]
      exact e9
    rw [hr]
    simp [h0, hp9_1, hp9_8, hp9_16]
  rw [ef]
  clear ef
  go_enter Try.func19, Try.ntmps19
  go_upto_region 1 with fail
  generalize w.alloc (.cells (opA ⟨9, r, a, b, order, imm⟩) 45) = w1 at *
  have z0 := L.c0
  have z1 := L.c1
  have z4 := L.c4
  have z5 := L.c5
  have ki := fun y => dIn_c order 0 2 y
  generalize hg : (decide ((0 : Int) ≤ order) && decide (order ≤ (2 : Int))) = gg at ki ⊢
  generalize hr : (r == 0) = br
  generalize himm : (imm == 0) = bimm
  go_wp2_with (go_at_call 18; (with_reducible refine (ki _).mono ?_); rintro e w2 ⟨rfl, rfl⟩; dsimp only)
  all_goals (go_ret; refine ⟨ret_bool ?_, hb⟩; simp_all)
set_option maxHeartbeats 2000000 in
theorem field_10 (hi : 0 ≤ imm) (w : World) : Calls Try.prog 19 #[opV ⟨10, r, a, b, order, imm⟩] w fun e w' => e = .returned (.bool (fieldB ⟨10, r, a, b, order, imm⟩)) ∧ Below w.heap.size w w' := by
  have hb := below_alloc w (.cells (opA ⟨10, r, a, b, order, imm⟩) 45)
  have L : LocO w.heap.size ⟨10, r, a, b, order, imm⟩ (w.alloc (.cells (opA ⟨10, r, a, b, order, imm⟩) 45)) := LocO.new w _
  have ef : fieldB ⟨10, r, a, b, order, imm⟩ = ((r == 0) && (imm == 0) && ((order == 0 || order == 4))) := by
    unfold fieldB
    have h0 : isK 10 = true := by decide
    have hr : rangeB ⟨10, r, a, b, order, imm⟩ = ((order == 0 || order == 4)) := by
      simp [rangeB]
    rw [hr]
    simp [h0, hp10_1, hp10_8, hp10_16]
  rw [ef]
  clear ef
  go_enter Try.func19, Try.ntmps19
  go_upto_region 1 with fail
  generalize w.alloc (.cells (opA ⟨10, r, a, b, order, imm⟩) 45) = w1 at *
  have z0 := L.c0
  have z1 := L.c1
  have z4 := L.c4
  have z5 := L.c5
  generalize hr : (r == 0) = br
  generalize himm : (imm == 0) = bimm
  go_wp2_with fail
  all_goals (go_ret; refine ⟨ret_bool ?_, hb⟩; simp_all)
set_option maxHeartbeats 2000000 in
theorem field_11 (hi : 0 ≤ imm) (w : World) : Calls Try.prog 19 #[opV ⟨11, r, a, b, order, imm⟩] w fun e w' => e = .returned (.bool (fieldB ⟨11, r, a, b, order, imm⟩)) ∧ Below w.heap.size w w' := by
  have hb := below_alloc w (.cells (opA ⟨11, r, a, b, order, imm⟩) 45)
  have L : LocO w.heap.size ⟨11, r, a, b, order, imm⟩ (w.alloc (.cells (opA ⟨11, r, a, b, order, imm⟩) 45)) := LocO.new w _
  have ef : fieldB ⟨11, r, a, b, order, imm⟩ = ((r == 0) && (imm == 0) && ((order == 0 || order == 2))) := by
    unfold fieldB
    have h0 : isK 11 = true := by decide
    have hr : rangeB ⟨11, r, a, b, order, imm⟩ = ((order == 0 || order == 2)) := by
      simp [rangeB]
    rw [hr]
    simp [h0, hp11_1, hp11_8, hp11_16]
  rw [ef]
  clear ef
  go_enter Try.func19, Try.ntmps19
  go_upto_region 1 with fail
  generalize w.alloc (.cells (opA ⟨11, r, a, b, order, imm⟩) 45) = w1 at *
  have z0 := L.c0
  have z1 := L.c1
  have z4 := L.c4
  have z5 := L.c5
  generalize hr : (r == 0) = br
  generalize himm : (imm == 0) = bimm
  go_wp2_with fail
  all_goals (go_ret; refine ⟨ret_bool ?_, hb⟩; simp_all)
set_option maxHeartbeats 2000000 in
theorem field_12 (hi : 0 ≤ imm) (w : World) : Calls Try.prog 19 #[opV ⟨12, r, a, b, order, imm⟩] w fun e w' => e = .returned (.bool (fieldB ⟨12, r, a, b, order, imm⟩)) ∧ Below w.heap.size w w' := by
  have hb := below_alloc w (.cells (opA ⟨12, r, a, b, order, imm⟩) 45)
  have L : LocO w.heap.size ⟨12, r, a, b, order, imm⟩ (w.alloc (.cells (opA ⟨12, r, a, b, order, imm⟩) 45)) := LocO.new w _
  have ef : fieldB ⟨12, r, a, b, order, imm⟩ = ((r == 0) && (imm == 0) && ((order == 0 || order == 4))) := by
    unfold fieldB
    have h0 : isK 12 = true := by decide
    have hr : rangeB ⟨12, r, a, b, order, imm⟩ = ((order == 0 || order == 4)) := by
      simp [rangeB]
    rw [hr]
    simp [h0, hp12_1, hp12_8, hp12_16]
  rw [ef]
  clear ef
  go_enter Try.func19, Try.ntmps19
  go_upto_region 1 with fail
  generalize w.alloc (.cells (opA ⟨12, r, a, b, order, imm⟩) 45) = w1 at *
  have z0 := L.c0
  have z1 := L.c1
  have z4 := L.c4
  have z5 := L.c5
  generalize hr : (r == 0) = br
  generalize himm : (imm == 0) = bimm
  go_wp2_with fail
  all_goals (go_ret; refine ⟨ret_bool ?_, hb⟩; simp_all)
set_option maxHeartbeats 2000000 in
theorem field_13 (hi : 0 ≤ imm) (w : World) : Calls Try.prog 19 #[opV ⟨13, r, a, b, order, imm⟩] w fun e w' => e = .returned (.bool (fieldB ⟨13, r, a, b, order, imm⟩)) ∧ Below w.heap.size w w' := by
  have hb := below_alloc w (.cells (opA ⟨13, r, a, b, order, imm⟩) 45)
  have L : LocO w.heap.size ⟨13, r, a, b, order, imm⟩ (w.alloc (.cells (opA ⟨13, r, a, b, order, imm⟩) 45)) := LocO.new w _
  have ef : fieldB ⟨13, r, a, b, order, imm⟩ = ((order == 0) && (imm == 0) && ((r == 13 || r == 10 || r == 15))) := by
    unfold fieldB
    have h0 : isK 13 = true := by decide
    have hr : rangeB ⟨13, r, a, b, order, imm⟩ = ((r == 13 || r == 10 || r == 15)) := by
      simp [rangeB]
    rw [hr]
    simp [h0, hp13_1, hp13_8, hp13_16]
  rw [ef]
  clear ef
  go_enter Try.func19, Try.ntmps19
  go_upto_region 1 with fail
  generalize w.alloc (.cells (opA ⟨13, r, a, b, order, imm⟩) 45) = w1 at *
  have z0 := L.c0
  have z1 := L.c1
  have z4 := L.c4
  have z5 := L.c5
  generalize horder : (order == 0) = border
  generalize himm : (imm == 0) = bimm
  go_wp2_with fail
  all_goals (go_ret; refine ⟨ret_bool ?_, hb⟩; simp_all)
set_option maxHeartbeats 2000000 in
theorem field_14 (hi : 0 ≤ imm) (w : World) : Calls Try.prog 19 #[opV ⟨14, r, a, b, order, imm⟩] w fun e w' => e = .returned (.bool (fieldB ⟨14, r, a, b, order, imm⟩)) ∧ Below w.heap.size w w' := by
  have hb := below_alloc w (.cells (opA ⟨14, r, a, b, order, imm⟩) 45)
  have L : LocO w.heap.size ⟨14, r, a, b, order, imm⟩ (w.alloc (.cells (opA ⟨14, r, a, b, order, imm⟩) 45)) := LocO.new w _
  have e14 : (imm % 4 == 0) = (imm.tmod 4 == 0) := by rw [Int.tmod_eq_emod_of_nonneg hi]
  have ef : fieldB ⟨14, r, a, b, order, imm⟩ = ((r == 0) && (order == 0) && (imm.tmod 4 == 0)) := by
    unfold fieldB
    have h0 : isK 14 = true := by decide
    have hr : rangeB ⟨14, r, a, b, order, imm⟩ = (imm.tmod 4 == 0) := by
      simp [rangeB]
      exact e14
    rw [hr]
    simp [h0, hp14_1, hp14_8, hp14_16]
  rw [ef]
  clear ef
  go_enter Try.func19, Try.ntmps19
  go_upto_region 1 with fail
  generalize w.alloc (.cells (opA ⟨14, r, a, b, order, imm⟩) 45) = w1 at *
  have z0 := L.c0
  have z1 := L.c1
  have z4 := L.c4
  have z5 := L.c5
  generalize hr : (r == 0) = br
  generalize horder : (order == 0) = border
  go_wp2_with fail
  all_goals (go_ret; refine ⟨ret_bool ?_, hb⟩; simp_all)
set_option maxHeartbeats 2000000 in
theorem field_15 (hi : 0 ≤ imm) (w : World) : Calls Try.prog 19 #[opV ⟨15, r, a, b, order, imm⟩] w fun e w' => e = .returned (.bool (fieldB ⟨15, r, a, b, order, imm⟩)) ∧ Below w.heap.size w w' := by
  have hb := below_alloc w (.cells (opA ⟨15, r, a, b, order, imm⟩) 45)
  have L : LocO w.heap.size ⟨15, r, a, b, order, imm⟩ (w.alloc (.cells (opA ⟨15, r, a, b, order, imm⟩) 45)) := LocO.new w _
  have ef : fieldB ⟨15, r, a, b, order, imm⟩ = ((r == 0) && (order == 0) && (true)) := by
    unfold fieldB
    have h0 : isK 15 = true := by decide
    have hr : rangeB ⟨15, r, a, b, order, imm⟩ = (true) := by
      simp [rangeB]
    rw [hr]
    simp [h0, hp15_1, hp15_8, hp15_16]
  rw [ef]
  clear ef
  go_enter Try.func19, Try.ntmps19
  go_upto_region 1 with fail
  generalize w.alloc (.cells (opA ⟨15, r, a, b, order, imm⟩) 45) = w1 at *
  have z0 := L.c0
  have z1 := L.c1
  have z4 := L.c4
  have z5 := L.c5
  generalize hr : (r == 0) = br
  generalize horder : (order == 0) = border
  go_wp2_with fail
  all_goals (go_ret; refine ⟨ret_bool ?_, hb⟩; simp_all)
set_option maxHeartbeats 2000000 in
theorem field_16 (hi : 0 ≤ imm) (w : World) : Calls Try.prog 19 #[opV ⟨16, r, a, b, order, imm⟩] w fun e w' => e = .returned (.bool (fieldB ⟨16, r, a, b, order, imm⟩)) ∧ Below w.heap.size w w' := by
  have hb := below_alloc w (.cells (opA ⟨16, r, a, b, order, imm⟩) 45)
  have L : LocO w.heap.size ⟨16, r, a, b, order, imm⟩ (w.alloc (.cells (opA ⟨16, r, a, b, order, imm⟩) 45)) := LocO.new w _
  have ef : fieldB ⟨16, r, a, b, order, imm⟩ = ((r == 0) && (order == 0) && (true)) := by
    unfold fieldB
    have h0 : isK 16 = true := by decide
    have hr : rangeB ⟨16, r, a, b, order, imm⟩ = (true) := by
      simp [rangeB]
    rw [hr]
    simp [h0, hp16_1, hp16_8, hp16_16]
  rw [ef]
  clear ef
  go_enter Try.func19, Try.ntmps19
  go_upto_region 1 with fail
  generalize w.alloc (.cells (opA ⟨16, r, a, b, order, imm⟩) 45) = w1 at *
  have z0 := L.c0
  have z1 := L.c1
  have z4 := L.c4
  have z5 := L.c5
  generalize hr : (r == 0) = br
  generalize horder : (order == 0) = border
  go_wp2_with fail
  all_goals (go_ret; refine ⟨ret_bool ?_, hb⟩; simp_all)
set_option maxHeartbeats 2000000 in
theorem field_17 (hi : 0 ≤ imm) (w : World) : Calls Try.prog 19 #[opV ⟨17, r, a, b, order, imm⟩] w fun e w' => e = .returned (.bool (fieldB ⟨17, r, a, b, order, imm⟩)) ∧ Below w.heap.size w w' := by
  have hb := below_alloc w (.cells (opA ⟨17, r, a, b, order, imm⟩) 45)
  have L : LocO w.heap.size ⟨17, r, a, b, order, imm⟩ (w.alloc (.cells (opA ⟨17, r, a, b, order, imm⟩) 45)) := LocO.new w _
  have ef : fieldB ⟨17, r, a, b, order, imm⟩ = ((r == 0) && (order == 0) && (imm == 0) && (true)) := by
    unfold fieldB
    have h0 : isK 17 = true := by decide
    have hr : rangeB ⟨17, r, a, b, order, imm⟩ = (true) := by
      simp [rangeB]
    rw [hr]
    simp [h0, hp17_1, hp17_8, hp17_16]
  rw [ef]
  clear ef
  go_enter Try.func19, Try.ntmps19
  go_upto_region 1 with fail
  generalize w.alloc (.cells (opA ⟨17, r, a, b, order, imm⟩) 45) = w1 at *
  have z0 := L.c0
  have z1 := L.c1
  have z4 := L.c4
  have z5 := L.c5
  generalize hr : (r == 0) = br
  generalize horder : (order == 0) = border
  generalize himm : (imm == 0) = bimm
  go_wp2_with fail
  all_goals (go_ret; refine ⟨ret_bool ?_, hb⟩; simp_all)
set_option maxHeartbeats 2000000 in
theorem field_18 (hi : 0 ≤ imm) (w : World) : Calls Try.prog 19 #[opV ⟨18, r, a, b, order, imm⟩] w fun e w' => e = .returned (.bool (fieldB ⟨18, r, a, b, order, imm⟩)) ∧ Below w.heap.size w w' := by
  have hb := below_alloc w (.cells (opA ⟨18, r, a, b, order, imm⟩) 45)
  have L : LocO w.heap.size ⟨18, r, a, b, order, imm⟩ (w.alloc (.cells (opA ⟨18, r, a, b, order, imm⟩) 45)) := LocO.new w _
  have ef : fieldB ⟨18, r, a, b, order, imm⟩ = ((r == 0) && (order == 0) && (decide (imm < 4294967296))) := by
    unfold fieldB
    have h0 : isK 18 = true := by decide
    have hr : rangeB ⟨18, r, a, b, order, imm⟩ = (decide (imm < 4294967296)) := by
      simp [rangeB]
    rw [hr]
    simp [h0, hp18_1, hp18_8, hp18_16]
  rw [ef]
  clear ef
  go_enter Try.func19, Try.ntmps19
  go_upto_region 1 with fail
  generalize w.alloc (.cells (opA ⟨18, r, a, b, order, imm⟩) 45) = w1 at *
  have z0 := L.c0
  have z1 := L.c1
  have z4 := L.c4
  have z5 := L.c5
  generalize hr : (r == 0) = br
  generalize horder : (order == 0) = border
  go_wp2_with fail
  all_goals (go_ret; refine ⟨ret_bool ?_, hb⟩; simp_all)
theorem field_no (o : Opr) (hk : isK o.kind = false) (w : World) : Calls Try.prog 19 #[opV o] w fun e w' => e = .returned (.bool false) ∧ Below w.heap.size w w' := by
  have hn : ∀ k : Int, isK k = true → (o.kind == k) = false := fun k h => by
    cases hh : o.kind == k with
    | false => rfl
    | true => rw [beq_iff_eq] at hh; rw [hh, h] at hk; cases hk
  have e1 := hn 1 (by decide)
  have e2 := hn 2 (by decide)
  have e3 := hn 3 (by decide)
  have e4 := hn 4 (by decide)
  have e5 := hn 5 (by decide)
  have e6 := hn 6 (by decide)
  have e7 := hn 7 (by decide)
  have e8 := hn 8 (by decide)
  have e9 := hn 9 (by decide)
  have e10 := hn 10 (by decide)
  have e11 := hn 11 (by decide)
  have e12 := hn 12 (by decide)
  have e13 := hn 13 (by decide)
  have e14 := hn 14 (by decide)
  have e15 := hn 15 (by decide)
  have e16 := hn 16 (by decide)
  have e17 := hn 17 (by decide)
  have e18 := hn 18 (by decide)
  clear hn hk
  go_enter Try.func19, Try.ntmps19
  go_wp2
  all_goals (go_ret; refine ⟨rfl, by repeat (first | exact Below.refl _ _ | apply below_more | apply below_drew | apply below_drewN)⟩)
end
end Go.Proofs.Ytilhjbhhgpoajaa
/- The document's own Right: what an operation uses; what is right, plainly. -/
namespace Go.Proofs.Ytilhjbhhgpoajaa
open Go.RowKit
set_option linter.unusedVariables false
set_option linter.unusedSimpArgs false
set_option maxRecDepth 8000

def usesD (o : Opr) : List Int := if shpV o.kind = 1 then [o.a] else if shpV o.kind = 2 then [o.a, o.b] else []
theorem run_two52 (p q : Int) (w : World) : (Instr.buildSlice 52 2 #[(0, vI p), (1, vI q)]).run Try.prog w = .ok (.slice (some ⟨w.heap.size, 0, none⟩) 2 2) (w.alloc (.cells #[vI p, vI q] 3)) := by
  obtain ⟨i, hi, hz, hs, hby⟩ := info_parts info3
  exact run_buildSlice (P := Try.prog) w 52 3 2 _ _ i (vI 0) Try.underlying52 hi hz (by rw [hs]; decide) (by rw [hs]; decide) (by rw [hs]; kernel_rfl)
theorem wpList_two52 {ops : Array Oper} {rest : List Oper} {o : Oper} {a : Act} {w : World} {Q : Exit → Act → World → Prop} (hg : o.guard = none) (x y : Operand) (ho : o.op = .buildSlice 52 2 #[(0, x), (1, y)]) (p q : Int) (hx : a.eval x = vI p) (hy : a.eval y = vI q)
    (h : wpList Try.prog ops Q rest (a.put o.dst (.slice (some ⟨w.heap.size, 0, none⟩) 2 2)) (w.alloc (.cells #[vI p, vI q] 3))) : wpList Try.prog ops Q (o :: rest) a w :=
  wpList_plain hg fun _ hK => by
    unfold Oper.wp execOp
    simp only [ho, Sem.run_bind, List.map_toArray, List.map_cons, List.map_nil, hx, hy, run_two52, Result.andThen_ok]
    exact hK _ _ h
theorem rawI_new (w : World) (zs : List Int) (hm : zs.length ≤ maxLen) : RawI (w.alloc (.cells (zs.map vI).toArray 3)) (.slice (some ⟨w.heap.size, 0, none⟩) zs.length zs.length) zs :=
  ⟨⟨_, _, rfl⟩, hm, fun _ => ⟨_, _, rfl, fun i x hx => by
    have e : (⟨w.heap.size, 0, none⟩ : Addr).add i = ⟨w.heap.size, i, none⟩ := by rw [Addr.add_mid, Nat.zero_add]
    rw [e]
    refine ⟨by simp, ?_⟩
    rw [cell_of_row _ _ _ _ _ _ (heap_alloc_new w _)]
    simp [hx]⟩⟩
set_option maxHeartbeats 2000000 in
theorem dUses_c (o : Opr) (w : World) : Calls Try.prog 20 #[opV o] w fun e w' => ∃ v, e = .returned v ∧ RawI w' v (usesD o) ∧ Below w.heap.size w w' := by
  have hb := below_alloc w (.cells (opA o) 45)
  have L : LocO w.heap.size o (w.alloc (.cells (opA o) 45)) := LocO.new w _
  have ks := fun x => dShape_c o.kind x
  by_cases h1 : shpV o.kind = 1
  · have hu : usesD o = [o.a] := by unfold usesD; rw [if_pos h1]
    rw [h1] at ks
    rw [hu]
    clear h1 hu
    go_enter Try.func20, Try.ntmps20
    go_upto_region 1 with fail
    generalize w.alloc (.cells (opA o) 45) = w1 at *
    have z0 := L.c0
    have z2 := L.c2
    go_wp2_with (first | (go_at_call 31; (with_reducible refine (ks _).mono ?_); rintro e w2 ⟨rfl, rfl⟩; dsimp only) | ((with_reducible refine wpList_one36 rfl _ rfl o.a rfl ?_); try simp only [Act.put]))
    go_ret
    exact ⟨_, rfl, rawI_new w2 [o.a] (by show 1 ≤ maxLen; decide), below_then hb (Nat.le_refl _) (below_alloc _ _)⟩
  · by_cases h2 : shpV o.kind = 2
    · have hu : usesD o = [o.a, o.b] := by unfold usesD; rw [if_neg h1, if_pos h2]
      rw [h2] at ks
      rw [hu]
      clear h1 h2 hu
      go_enter Try.func20, Try.ntmps20
      go_upto_region 1 with fail
      generalize w.alloc (.cells (opA o) 45) = w1 at *
      have z0 := L.c0
      have z2 := L.c2
      have z3 := L.c3
      go_wp2_with (first | (go_at_call 31; (with_reducible refine (ks _).mono ?_); rintro e w2 ⟨rfl, rfl⟩; dsimp only) | ((with_reducible refine wpList_two52 rfl _ _ rfl o.a o.b rfl rfl ?_); try simp only [Act.put]))
      go_ret
      exact ⟨_, rfl, rawI_new w2 [o.a, o.b] (by show 2 ≤ maxLen; decide), below_then hb (Nat.le_refl _) (below_alloc _ _)⟩
    · have h0 : shpV o.kind = 0 := by unfold shpV at h1 h2 ⊢; split <;> simp_all
      have hu : usesD o = [] := by unfold usesD; rw [if_neg h1, if_neg h2]
      rw [h0] at ks
      rw [hu]
      clear h0 h1 h2 hu
      go_enter Try.func20, Try.ntmps20
      go_upto_region 1 with fail
      generalize w.alloc (.cells (opA o) 45) = w1 at *
      have z0 := L.c0
      go_wp2_with (go_at_call 31; (with_reducible refine (ks _).mono ?_); rintro e w2 ⟨rfl, rfl⟩; dsimp only)
      go_ret
      exact ⟨_, rfl, RawI.nil _, hb⟩
/-- What is right of a block, in the document's words. -/
def lastD (o : Opr) : Bool := o.kind == 16 || o.kind == 17 || o.kind == 18
def defD (l : List Opr) (k : Nat) (p : Int) : Bool := decide (0 ≤ p) && decide (p < k) && defsB (opAt l p.toNat).kind
def zeroD (o : Opr) : Bool := !(decide ((usesD o).length < 2) && o.b != 0) && !(decide ((usesD o).length < 1) && o.a != 0)
def okD (l : List Opr) (k : Nat) : Bool := fieldB (opAt l k) && (lastD (opAt l k) == decide (k + 1 = l.length)) && (usesD (opAt l k)).all (defD l k) && zeroD (opAt l k)
def headD (pc words el : Int) (l : List Opr) : Bool := pc % 4 == 0 && decide (1 ≤ words) && decide (words ≤ 16) && decide (0 ≤ el) && decide (el ≤ 1) && decide (1 ≤ l.length) && decide (l.length ≤ 512) && (opAt l 0).kind == 14 && (opAt l 0).imm == pc
theorem prt_none {k : Nat} (h : k = 0 ∨ 18 < k) : prt k = 0 := by
  unfold prt
  split <;> first | rfl | omega
theorem has_none_ {k : Int} (h : isK k = false) (m : Int) (hm : m = 32) : hasP k m = false := by
  subst hm
  have : k.toNat = 0 ∨ 18 < k.toNat := by
    unfold isK at h
    simp only [Bool.and_eq_false_iff, decide_eq_false_iff_not] at h
    omega
  unfold hasP partsV
  rw [prt_none this]
  decide +kernel
theorem defs_has (k : Int) : defsB k = hasP k 32 := by
  cases h : isK k with
  | true =>
    rcases isK_cases h with rfl | rfl | rfl | rfl | rfl | rfl | rfl | rfl | rfl | rfl | rfl | rfl | rfl | rfl | rfl | rfl | rfl | rfl <;> decide +kernel
  | false =>
    rw [has_none_ h _ rfl]
    have hn : ∀ j : Int, isK j = true → (k == j) = false := fun j hj => by
      cases hh : k == j with
      | false => rfl
      | true => rw [beq_iff_eq] at hh; rw [hh, hj] at h; cases h
    unfold defsB
    rw [hn 1 (by decide), hn 2 (by decide), hn 4 (by decide), hn 6 (by decide), hn 8 (by decide), hn 9 (by decide), hn 11 (by decide), hn 12 (by decide)]
    rfl
theorem defD_eq (l : List Opr) (k : Nat) : defD l k = defB l k := by
  funext p
  unfold defD defB
  rw [defs_has]
theorem okD_eq (l : List Opr) (k : Nat) : okD l k = okAt l k := by
  unfold okD okAt
  rw [defD_eq]
  generalize defB l k = P
  generalize opAt l k = o
  obtain ⟨kind, r, a, b, order, imm⟩ := o
  cases h : isK kind with
  | false =>
    have : fieldB ⟨kind, r, a, b, order, imm⟩ = false := by unfold fieldB; rw [h]; rfl
    rw [this]
    simp [h]
  | true =>
    rcases isK_cases h with rfl | rfl | rfl | rfl | rfl | rfl | rfl | rfl | rfl | rfl | rfl | rfl | rfl | rfl | rfl | rfl | rfl | rfl
    · have hr := rangeB ⟨1, r, a, b, order, imm⟩
      have e1 : usesD ⟨1, r, a, b, order, imm⟩ = usesL ⟨1, r, a, b, order, imm⟩ := by simp [usesD, usesL, shpV, hp1_2, hp1_4]
      have e2 : lastD ⟨1, r, a, b, order, imm⟩ = hasP 1 128 := by rw [hp1_128]; rfl
      have e3 : usesL ⟨1, r, a, b, order, imm⟩ = (if hasP 1 2 = true then [a] else []) ++ (if hasP 1 4 = true then [b] else []) := rfl
      rw [hp1_2, hp1_4] at e3
      unfold zeroD fieldB opB
      rw [e1, e2]
      simp only [hp1_1, hp1_2, hp1_4, hp1_8, hp1_16, hp1_128, e3, h, Bool.true_or, Bool.false_or, Bool.true_and, Bool.and_true, if_true]
      generalize rangeB ⟨1, r, a, b, order, imm⟩ = R
      generalize decide (k + 1 = l.length) = z
      generalize (r == 0) = b1
      generalize (order == 0) = b2
      generalize (imm == 0) = b3
      try generalize P a = p1
      try generalize P b = p2
      cases ha : (a == 0) <;> cases hb : (b == 0) <;> simp [ha, hb, bne] <;> cases R <;> cases z <;> cases b1 <;> cases b2 <;> cases b3 <;> simp_all
    · have hr := rangeB ⟨2, r, a, b, order, imm⟩
      have e1 : usesD ⟨2, r, a, b, order, imm⟩ = usesL ⟨2, r, a, b, order, imm⟩ := by simp [usesD, usesL, shpV, hp2_2, hp2_4]
      have e2 : lastD ⟨2, r, a, b, order, imm⟩ = hasP 2 128 := by rw [hp2_128]; rfl
      have e3 : usesL ⟨2, r, a, b, order, imm⟩ = (if hasP 2 2 = true then [a] else []) ++ (if hasP 2 4 = true then [b] else []) := rfl
      rw [hp2_2, hp2_4] at e3
      unfold zeroD fieldB opB
      rw [e1, e2]
      simp only [hp2_1, hp2_2, hp2_4, hp2_8, hp2_16, hp2_128, e3, h, Bool.true_or, Bool.false_or, Bool.true_and, Bool.and_true, if_true]
      generalize rangeB ⟨2, r, a, b, order, imm⟩ = R
      generalize decide (k + 1 = l.length) = z
      generalize (r == 0) = b1
      generalize (order == 0) = b2
      generalize (imm == 0) = b3
      try generalize P a = p1
      try generalize P b = p2
      cases ha : (a == 0) <;> cases hb : (b == 0) <;> simp [ha, hb, bne] <;> cases R <;> cases z <;> cases b1 <;> cases b2 <;> cases b3 <;> simp_all
    · have hr := rangeB ⟨3, r, a, b, order, imm⟩
      have e1 : usesD ⟨3, r, a, b, order, imm⟩ = usesL ⟨3, r, a, b, order, imm⟩ := by simp [usesD, usesL, shpV, hp3_2, hp3_4]
      have e2 : lastD ⟨3, r, a, b, order, imm⟩ = hasP 3 128 := by rw [hp3_128]; rfl
      have e3 : usesL ⟨3, r, a, b, order, imm⟩ = (if hasP 3 2 = true then [a] else []) ++ (if hasP 3 4 = true then [b] else []) := rfl
      rw [hp3_2, hp3_4] at e3
      unfold zeroD fieldB opB
      rw [e1, e2]
      simp only [hp3_1, hp3_2, hp3_4, hp3_8, hp3_16, hp3_128, e3, h, Bool.true_or, Bool.false_or, Bool.true_and, Bool.and_true, if_true]
      generalize rangeB ⟨3, r, a, b, order, imm⟩ = R
      generalize decide (k + 1 = l.length) = z
      generalize (r == 0) = b1
      generalize (order == 0) = b2
      generalize (imm == 0) = b3
      try generalize P a = p1
      try generalize P b = p2
      cases ha : (a == 0) <;> cases hb : (b == 0) <;> simp [ha, hb, bne] <;> cases R <;> cases z <;> cases b1 <;> cases b2 <;> cases b3 <;> simp_all
    · have hr := rangeB ⟨4, r, a, b, order, imm⟩
      have e1 : usesD ⟨4, r, a, b, order, imm⟩ = usesL ⟨4, r, a, b, order, imm⟩ := by simp [usesD, usesL, shpV, hp4_2, hp4_4]
      have e2 : lastD ⟨4, r, a, b, order, imm⟩ = hasP 4 128 := by rw [hp4_128]; rfl
      have e3 : usesL ⟨4, r, a, b, order, imm⟩ = (if hasP 4 2 = true then [a] else []) ++ (if hasP 4 4 = true then [b] else []) := rfl
      rw [hp4_2, hp4_4] at e3
      unfold zeroD fieldB opB
      rw [e1, e2]
      simp only [hp4_1, hp4_2, hp4_4, hp4_8, hp4_16, hp4_128, e3, h, Bool.true_or, Bool.false_or, Bool.true_and, Bool.and_true, if_true]
      generalize rangeB ⟨4, r, a, b, order, imm⟩ = R
      generalize decide (k + 1 = l.length) = z
      generalize (r == 0) = b1
      generalize (order == 0) = b2
      generalize (imm == 0) = b3
      try generalize P a = p1
      try generalize P b = p2
      cases ha : (a == 0) <;> cases hb : (b == 0) <;> simp [ha, hb, bne] <;> cases R <;> cases z <;> cases b1 <;> cases b2 <;> cases b3 <;> simp_all
    · have hr := rangeB ⟨5, r, a, b, order, imm⟩
      have e1 : usesD ⟨5, r, a, b, order, imm⟩ = usesL ⟨5, r, a, b, order, imm⟩ := by simp [usesD, usesL, shpV, hp5_2, hp5_4]
      have e2 : lastD ⟨5, r, a, b, order, imm⟩ = hasP 5 128 := by rw [hp5_128]; rfl
      have e3 : usesL ⟨5, r, a, b, order, imm⟩ = (if hasP 5 2 = true then [a] else []) ++ (if hasP 5 4 = true then [b] else []) := rfl
      rw [hp5_2, hp5_4] at e3
      unfold zeroD fieldB opB
      rw [e1, e2]
      simp only [hp5_1, hp5_2, hp5_4, hp5_8, hp5_16, hp5_128, e3, h, Bool.true_or, Bool.false_or, Bool.true_and, Bool.and_true, if_true]
      generalize rangeB ⟨5, r, a, b, order, imm⟩ = R
      generalize decide (k + 1 = l.length) = z
      generalize (r == 0) = b1
      generalize (order == 0) = b2
      generalize (imm == 0) = b3
      try generalize P a = p1
      try generalize P b = p2
      cases ha : (a == 0) <;> cases hb : (b == 0) <;> simp [ha, hb, bne] <;> cases R <;> cases z <;> cases b1 <;> cases b2 <;> cases b3 <;> simp_all
    · have hr := rangeB ⟨6, r, a, b, order, imm⟩
      have e1 : usesD ⟨6, r, a, b, order, imm⟩ = usesL ⟨6, r, a, b, order, imm⟩ := by simp [usesD, usesL, shpV, hp6_2, hp6_4]
      have e2 : lastD ⟨6, r, a, b, order, imm⟩ = hasP 6 128 := by rw [hp6_128]; rfl
      have e3 : usesL ⟨6, r, a, b, order, imm⟩ = (if hasP 6 2 = true then [a] else []) ++ (if hasP 6 4 = true then [b] else []) := rfl
      rw [hp6_2, hp6_4] at e3
      unfold zeroD fieldB opB
      rw [e1, e2]
      simp only [hp6_1, hp6_2, hp6_4, hp6_8, hp6_16, hp6_128, e3, h, Bool.true_or, Bool.false_or, Bool.true_and, Bool.and_true, if_true]
      generalize rangeB ⟨6, r, a, b, order, imm⟩ = R
      generalize decide (k + 1 = l.length) = z
      generalize (r == 0) = b1
      generalize (order == 0) = b2
      generalize (imm == 0) = b3
      try generalize P a = p1
      try generalize P b = p2
      cases ha : (a == 0) <;> cases hb : (b == 0) <;> simp [ha, hb, bne] <;> cases R <;> cases z <;> cases b1 <;> cases b2 <;> cases b3 <;> simp_all
    · have hr := rangeB ⟨7, r, a, b, order, imm⟩
      have e1 : usesD ⟨7, r, a, b, order, imm⟩ = usesL ⟨7, r, a, b, order, imm⟩ := by simp [usesD, usesL, shpV, hp7_2, hp7_4]
      have e2 : lastD ⟨7, r, a, b, order, imm⟩ = hasP 7 128 := by rw [hp7_128]; rfl
      have e3 : usesL ⟨7, r, a, b, order, imm⟩ = (if hasP 7 2 = true then [a] else []) ++ (if hasP 7 4 = true then [b] else []) := rfl
      rw [hp7_2, hp7_4] at e3
      unfold zeroD fieldB opB
      rw [e1, e2]
      simp only [hp7_1, hp7_2, hp7_4, hp7_8, hp7_16, hp7_128, e3, h, Bool.true_or, Bool.false_or, Bool.true_and, Bool.and_true, if_true]
      generalize rangeB ⟨7, r, a, b, order, imm⟩ = R
      generalize decide (k + 1 = l.length) = z
      generalize (r == 0) = b1
      generalize (order == 0) = b2
      generalize (imm == 0) = b3
      try generalize P a = p1
      try generalize P b = p2
      cases ha : (a == 0) <;> cases hb : (b == 0) <;> simp [ha, hb, bne] <;> cases R <;> cases z <;> cases b1 <;> cases b2 <;> cases b3 <;> simp_all
    · have hr := rangeB ⟨8, r, a, b, order, imm⟩
      have e1 : usesD ⟨8, r, a, b, order, imm⟩ = usesL ⟨8, r, a, b, order, imm⟩ := by simp [usesD, usesL, shpV, hp8_2, hp8_4]
      have e2 : lastD ⟨8, r, a, b, order, imm⟩ = hasP 8 128 := by rw [hp8_128]; rfl
      have e3 : usesL ⟨8, r, a, b, order, imm⟩ = (if hasP 8 2 = true then [a] else []) ++ (if hasP 8 4 = true then [b] else []) := rfl
      rw [hp8_2, hp8_4] at e3
      unfold zeroD fieldB opB
      rw [e1, e2]
      simp only [hp8_1, hp8_2, hp8_4, hp8_8, hp8_16, hp8_128, e3, h, Bool.true_or, Bool.false_or, Bool.true_and, Bool.and_true, if_true]
      generalize rangeB ⟨8, r, a, b, order, imm⟩ = R
      generalize decide (k + 1 = l.length) = z
      generalize (r == 0) = b1
      generalize (order == 0) = b2
      generalize (imm == 0) = b3
      try generalize P a = p1
      try generalize P b = p2
      cases ha : (a == 0) <;> cases hb : (b == 0) <;> simp [ha, hb, bne] <;> cases R <;> cases z <;> cases b1 <;> cases b2 <;> cases b3 <;> simp_all
    · have hr := rangeB ⟨9, r, a, b, order, imm⟩
      have e1 : usesD ⟨9, r, a, b, order, imm⟩ = usesL ⟨9, r, a, b, order, imm⟩ := by simp [usesD, usesL, shpV, hp9_2, hp9_4]
      have e2 : lastD ⟨9, r, a, b, order, imm⟩ = hasP 9 128 := by rw [hp9_128]; rfl
      have e3 : usesL ⟨9, r, a, b, order, imm⟩ = (if hasP 9 2 = true then [a] else []) ++ (if hasP 9 4 = true then [b] else []) := rfl
      rw [hp9_2, hp9_4] at e3
      unfold zeroD fieldB opB
      rw [e1, e2]
      simp only [hp9_1, hp9_2, hp9_4, hp9_8, hp9_16, hp9_128, e3, h, Bool.true_or, Bool.false_or, Bool.true_and, Bool.and_true, if_true]
      generalize rangeB ⟨9, r, a, b, order, imm⟩ = R
      generalize decide (k + 1 = l.length) = z
      generalize (r == 0) = b1
      generalize (order == 0) = b2
      generalize (imm == 0) = b3
      try generalize P a = p1
      try generalize P b = p2
      cases ha : (a == 0) <;> cases hb : (b == 0) <;> simp [ha, hb, bne] <;> cases R <;> cases z <;> cases b1 <;> cases b2 <;> cases b3 <;> simp_all
    · have hr := rangeB ⟨10, r, a, b, order, imm⟩
      have e1 : usesD ⟨10, r, a, b, order, imm⟩ = usesL ⟨10, r, a, b, order, imm⟩ := by simp [usesD, usesL, shpV, hp10_2, hp10_4]
      have e2 : lastD ⟨10, r, a, b, order, imm⟩ = hasP 10 128 := by rw [hp10_128]; rfl
      have e3 : usesL ⟨10, r, a, b, order, imm⟩ = (if hasP 10 2 = true then [a] else []) ++ (if hasP 10 4 = true then [b] else []) := rfl
      rw [hp10_2, hp10_4] at e3
      unfold zeroD fieldB opB
      rw [e1, e2]
      simp only [hp10_1, hp10_2, hp10_4, hp10_8, hp10_16, hp10_128, e3, h, Bool.true_or, Bool.false_or, Bool.true_and, Bool.and_true, if_true]
      generalize rangeB ⟨10, r, a, b, order, imm⟩ = R
      generalize decide (k + 1 = l.length) = z
      generalize (r == 0) = b1
      generalize (order == 0) = b2
      generalize (imm == 0) = b3
      try generalize P a = p1
      try generalize P b = p2
      cases ha : (a == 0) <;> cases hb : (b == 0) <;> simp [ha, hb, bne] <;> cases R <;> cases z <;> cases b1 <;> cases b2 <;> cases b3 <;> simp_all
    · have hr := rangeB ⟨11, r, a, b, order, imm⟩
      have e1 : usesD ⟨11, r, a, b, order, imm⟩ = usesL ⟨11, r, a, b, order, imm⟩ := by simp [usesD, usesL, shpV, hp11_2, hp11_4]
      have e2 : lastD ⟨11, r, a, b, order, imm⟩ = hasP 11 128 := by rw [hp11_128]; rfl
      have e3 : usesL ⟨11, r, a, b, order, imm⟩ = (if hasP 11 2 = true then [a] else []) ++ (if hasP 11 4 = true then [b] else []) := rfl
      rw [hp11_2, hp11_4] at e3
      unfold zeroD fieldB opB
      rw [e1, e2]
      simp only [hp11_1, hp11_2, hp11_4, hp11_8, hp11_16, hp11_128, e3, h, Bool.true_or, Bool.false_or, Bool.true_and, Bool.and_true, if_true]
      generalize rangeB ⟨11, r, a, b, order, imm⟩ = R
      generalize decide (k + 1 = l.length) = z
      generalize (r == 0) = b1
      generalize (order == 0) = b2
      generalize (imm == 0) = b3
      try generalize P a = p1
      try generalize P b = p2
      cases ha : (a == 0) <;> cases hb : (b == 0) <;> simp [ha, hb, bne] <;> cases R <;> cases z <;> cases b1 <;> cases b2 <;> cases b3 <;> simp_all
    · have hr := rangeB ⟨12, r, a, b, order, imm⟩
      have e1 : usesD ⟨12, r, a, b, order, imm⟩ = usesL ⟨12, r, a, b, order, imm⟩ := by simp [usesD, usesL, shpV, hp12_2, hp12_4]
      have e2 : lastD ⟨12, r, a, b, order, imm⟩ = hasP 12 128 := by rw [hp12_128]; rfl
      have e3 : usesL ⟨12, r, a, b, order, imm⟩ = (if hasP 12 2 = true then [a] else []) ++ (if hasP 12 4 = true then [b] else []) := rfl
      rw [hp12_2, hp12_4] at e3
      unfold zeroD fieldB opB
      rw [e1, e2]
      simp only [hp12_1, hp12_2, hp12_4, hp12_8, hp12_16, hp12_128, e3, h, Bool.true_or, Bool.false_or, Bool.true_and, Bool.and_true, if_true]
      generalize rangeB ⟨12, r, a, b, order, imm⟩ = R
      generalize decide (k + 1 = l.length) = z
      generalize (r == 0) = b1
      generalize (order == 0) = b2
      generalize (imm == 0) = b3
      try generalize P a = p1
      try generalize P b = p2
      cases ha : (a == 0) <;> cases hb : (b == 0) <;> simp [ha, hb, bne] <;> cases R <;> cases z <;> cases b1 <;> cases b2 <;> cases b3 <;> simp_all
    · have hr := rangeB ⟨13, r, a, b, order, imm⟩
      have e1 : usesD ⟨13, r, a, b, order, imm⟩ = usesL ⟨13, r, a, b, order, imm⟩ := by simp [usesD, usesL, shpV, hp13_2, hp13_4]
      have e2 : lastD ⟨13, r, a, b, order, imm⟩ = hasP 13 128 := by rw [hp13_128]; rfl
      have e3 : usesL ⟨13, r, a, b, order, imm⟩ = (if hasP 13 2 = true then [a] else []) ++ (if hasP 13 4 = true then [b] else []) := rfl
      rw [hp13_2, hp13_4] at e3
      unfold zeroD fieldB opB
      rw [e1, e2]
      simp only [hp13_1, hp13_2, hp13_4, hp13_8, hp13_16, hp13_128, e3, h, Bool.true_or, Bool.false_or, Bool.true_and, Bool.and_true, if_true]
      generalize rangeB ⟨13, r, a, b, order, imm⟩ = R
      generalize decide (k + 1 = l.length) = z
      generalize (r == 0) = b1
      generalize (order == 0) = b2
      generalize (imm == 0) = b3
      try generalize P a = p1
      try generalize P b = p2
      cases ha : (a == 0) <;> cases hb : (b == 0) <;> simp [ha, hb, bne] <;> cases R <;> cases z <;> cases b1 <;> cases b2 <;> cases b3 <;> simp_all
    · have hr := rangeB ⟨14, r, a, b, order, imm⟩
      have e1 : usesD ⟨14, r, a, b, order, imm⟩ = usesL ⟨14, r, a, b, order, imm⟩ := by simp [usesD, usesL, shpV, hp14_2, hp14_4]
      have e2 : lastD ⟨14, r, a, b, order, imm⟩ = hasP 14 128 := by rw [hp14_128]; rfl
      have e3 : usesL ⟨14, r, a, b, order, imm⟩ = (if hasP 14 2 = true then [a] else []) ++ (if hasP 14 4 = true then [b] else []) := rfl
      rw [hp14_2, hp14_4] at e3
      unfold zeroD fieldB opB
      rw [e1, e2]
      simp only [hp14_1, hp14_2, hp14_4, hp14_8, hp14_16, hp14_128, e3, h, Bool.true_or, Bool.false_or, Bool.true_and, Bool.and_true, if_true]
      generalize rangeB ⟨14, r, a, b, order, imm⟩ = R
      generalize decide (k + 1 = l.length) = z
      generalize (r == 0) = b1
      generalize (order == 0) = b2
      generalize (imm == 0) = b3
      try generalize P a = p1
      try generalize P b = p2
      cases ha : (a == 0) <;> cases hb : (b == 0) <;> simp [ha, hb, bne] <;> cases R <;> cases z <;> cases b1 <;> cases b2 <;> cases b3 <;> simp_all
    · have hr := rangeB ⟨15, r, a, b, order, imm⟩
      have e1 : usesD ⟨15, r, a, b, order, imm⟩ = usesL ⟨15, r, a, b, order, imm⟩ := by simp [usesD, usesL, shpV, hp15_2, hp15_4]
      have e2 : lastD ⟨15, r, a, b, order, imm⟩ = hasP 15 128 := by rw [hp15_128]; rfl
      have e3 : usesL ⟨15, r, a, b, order, imm⟩ = (if hasP 15 2 = true then [a] else []) ++ (if hasP 15 4 = true then [b] else []) := rfl
      rw [hp15_2, hp15_4] at e3
      unfold zeroD fieldB opB
      rw [e1, e2]
      simp only [hp15_1, hp15_2, hp15_4, hp15_8, hp15_16, hp15_128, e3, h, Bool.true_or, Bool.false_or, Bool.true_and, Bool.and_true, if_true]
      generalize rangeB ⟨15, r, a, b, order, imm⟩ = R
      generalize decide (k + 1 = l.length) = z
      generalize (r == 0) = b1
      generalize (order == 0) = b2
      generalize (imm == 0) = b3
      try generalize P a = p1
      try generalize P b = p2
      cases ha : (a == 0) <;> cases hb : (b == 0) <;> simp [ha, hb, bne] <;> cases R <;> cases z <;> cases b1 <;> cases b2 <;> cases b3 <;> simp_all
    · have hr := rangeB ⟨16, r, a, b, order, imm⟩
      have e1 : usesD ⟨16, r, a, b, order, imm⟩ = usesL ⟨16, r, a, b, order, imm⟩ := by simp [usesD, usesL, shpV, hp16_2, hp16_4]
      have e2 : lastD ⟨16, r, a, b, order, imm⟩ = hasP 16 128 := by rw [hp16_128]; rfl
      have e3 : usesL ⟨16, r, a, b, order, imm⟩ = (if hasP 16 2 = true then [a] else []) ++ (if hasP 16 4 = true then [b] else []) := rfl
      rw [hp16_2, hp16_4] at e3
      unfold zeroD fieldB opB
      rw [e1, e2]
      simp only [hp16_1, hp16_2, hp16_4, hp16_8, hp16_16, hp16_128, e3, h, Bool.true_or, Bool.false_or, Bool.true_and, Bool.and_true, if_true]
      generalize rangeB ⟨16, r, a, b, order, imm⟩ = R
      generalize decide (k + 1 = l.length) = z
      generalize (r == 0) = b1
      generalize (order == 0) = b2
      generalize (imm == 0) = b3
      try generalize P a = p1
      try generalize P b = p2
      cases ha : (a == 0) <;> cases hb : (b == 0) <;> simp [ha, hb, bne] <;> cases R <;> cases z <;> cases b1 <;> cases b2 <;> cases b3 <;> simp_all
    · have hr := rangeB ⟨17, r, a, b, order, imm⟩
      have e1 : usesD ⟨17, r, a, b, order, imm⟩ = usesL ⟨17, r, a, b, order, imm⟩ := by simp [usesD, usesL, shpV, hp17_2, hp17_4]
      have e2 : lastD ⟨17, r, a, b, order, imm⟩ = hasP 17 128 := by rw [hp17_128]; rfl
      have e3 : usesL ⟨17, r, a, b, order, imm⟩ = (if hasP 17 2 = true then [a] else []) ++ (if hasP 17 4 = true then [b] else []) := rfl
      rw [hp17_2, hp17_4] at e3
      unfold zeroD fieldB opB
      rw [e1, e2]
      simp only [hp17_1, hp17_2, hp17_4, hp17_8, hp17_16, hp17_128, e3, h, Bool.true_or, Bool.false_or, Bool.true_and, Bool.and_true, if_true]
      generalize rangeB ⟨17, r, a, b, order, imm⟩ = R
      generalize decide (k + 1 = l.length) = z
      generalize (r == 0) = b1
      generalize (order == 0) = b2
      generalize (imm == 0) = b3
      try generalize P a = p1
      try generalize P b = p2
      cases ha : (a == 0) <;> cases hb : (b == 0) <;> simp [ha, hb, bne] <;> cases R <;> cases z <;> cases b1 <;> cases b2 <;> cases b3 <;> simp_all
    · have hr := rangeB ⟨18, r, a, b, order, imm⟩
      have e1 : usesD ⟨18, r, a, b, order, imm⟩ = usesL ⟨18, r, a, b, order, imm⟩ := by simp [usesD, usesL, shpV, hp18_2, hp18_4]
      have e2 : lastD ⟨18, r, a, b, order, imm⟩ = hasP 18 128 := by rw [hp18_128]; rfl
      have e3 : usesL ⟨18, r, a, b, order, imm⟩ = (if hasP 18 2 = true then [a] else []) ++ (if hasP 18 4 = true then [b] else []) := rfl
      rw [hp18_2, hp18_4] at e3
      unfold zeroD fieldB opB
      rw [e1, e2]
      simp only [hp18_1, hp18_2, hp18_4, hp18_8, hp18_16, hp18_128, e3, h, Bool.true_or, Bool.false_or, Bool.true_and, Bool.and_true, if_true]
      generalize rangeB ⟨18, r, a, b, order, imm⟩ = R
      generalize decide (k + 1 = l.length) = z
      generalize (r == 0) = b1
      generalize (order == 0) = b2
      generalize (imm == 0) = b3
      try generalize P a = p1
      try generalize P b = p2
      cases ha : (a == 0) <;> cases hb : (b == 0) <;> simp [ha, hb, bne] <;> cases R <;> cases z <;> cases b1 <;> cases b2 <;> cases b3 <;> simp_all
end Go.Proofs.Ytilhjbhhgpoajaa
/- The document's own Right: its head. -/
namespace Go.Proofs.Ytilhjbhhgpoajaa
open Go.RowKit
set_option linter.unusedVariables false
set_option linter.unusedSimpArgs false
set_option maxRecDepth 8000

/-- What is held of the world while a block is looked at. -/
structure RgW (w : World) (pc words el : Int) (v : Value) (l : List Opr) (b : Nat) (x : World) : Prop where
  r1 : x.heap[b]? = some (.cells (blA pc words el v) 25)
  ops : Ops x v l
  below : Below w.heap.size w x
theorem RgW.grow {w x y : World} {pc words el : Int} {v : Value} {l : List Opr} {b : Nat} (h : RgW w pc words el v l b x) (hb : Below x.heap.size x y) : RgW w pc words el v l b y :=
  ⟨by rw [hb.block _ (lt_of_some h.r1)]; exact h.r1, h.ops.grow hb, below_then h.below (Nat.le_refl _) hb⟩
theorem RgW.c0 {w x : World} {pc words el : Int} {v : Value} {l : List Opr} {b : Nat} (h : RgW w pc words el v l b x) : x.cell? ⟨b, 0, none⟩ = some (vU pc) := by rw [cell_of_row _ _ _ _ _ _ h.r1]; rfl
theorem RgW.c1 {w x : World} {pc words el : Int} {v : Value} {l : List Opr} {b : Nat} (h : RgW w pc words el v l b x) : x.cell? ⟨b, 1, none⟩ = some (vI words) := by rw [cell_of_row _ _ _ _ _ _ h.r1]; rfl
theorem RgW.c2 {w x : World} {pc words el : Int} {v : Value} {l : List Opr} {b : Nat} (h : RgW w pc words el v l b x) : x.cell? ⟨b, 2, none⟩ = some (vI el) := by rw [cell_of_row _ _ _ _ _ _ h.r1]; rfl
theorem RgW.c3 {w x : World} {pc words el : Int} {v : Value} {l : List Opr} {b : Nat} (h : RgW w pc words el v l b x) : x.cell? ⟨b, 3, none⟩ = some v := by rw [cell_of_row _ _ _ _ _ _ h.r1]; rfl
theorem okD_no {l : List Opr} {k : Nat} (hk : k < l.length) (h : okD l k = false) : (List.range l.length).all (okD l) = false := by
  rw [List.all_eq_false]; exact ⟨k, List.mem_range.2 hk, by rw [h]; decide⟩
theorem okD_yes {l : List Opr} (h : ∀ k, k < l.length → okD l k = true) : (List.range l.length).all (okD l) = true := List.all_eq_true.2 fun k hk => h k (List.mem_range.1 hk)
theorem add_zero6 (ra : Addr) : ra.add (0 * 6) = ra := by
  obtain ⟨bl, off, e⟩ := ra
  unfold Addr.add
  split <;> simp_all
def rightD (pc words el : Int) (l : List Opr) : Bool := headD pc words el l && (List.range l.length).all (okD l)
theorem in_yes {n a b : Int} (h1 : a ≤ n) (h2 : n ≤ b) : (decide (a ≤ n) && decide (n ≤ b)) = true := by simp [h1, h2]
theorem in_no {n a b : Int} (h : n < a ∨ b < n) : (decide (a ≤ n) && decide (n ≤ b)) = false := by
  rw [Bool.and_eq_false_iff, decide_eq_false_iff_not, decide_eq_false_iff_not]; omega
set_option maxHeartbeats 8000000 in
theorem dRight_head {w : World} {v : Value} {l : List Opr} {pc words el : Int} (hpc : 0 ≤ pc) (O : Ops w v l) (hH : headD pc words el l = false) : Calls Try.prog 7 #[blV pc words el v] w fun e w' => e = .returned (.bool false) ∧ Below w.heap.size w w' := by
  have N0 : RgW w pc words el v l w.heap.size (w.alloc (.cells (blA pc words el v) 25)) := ⟨heap_alloc_new _ _, O.grow (below_alloc _ _), below_alloc _ _⟩
  obtain ⟨ao, cap, ev⟩ := O.len
  have hlen : (l.length : Int) ≤ 9223372036854775807 := by have := O.max; simp only [maxLen] at this; omega
  subst ev
  go_enter Try.func7, Try.ntmps7
  go_upto_region 1 with fail
  generalize w.alloc (.cells (blA pc words el (.slice ao l.length cap)) 25) = w1 at *
  have z3 := N0.c3
  have z0 := N0.c0
  have z1 := N0.c1
  have z2 := N0.c2
  go_upto_region 2 with fail
  have hpt : pc % 4 = pc.tmod 4 := (Int.tmod_eq_emod_of_nonneg hpc).symm
  have k1 := fun x => dIn_c words 1 16 x
  have k2 := fun x => dIn_c el 0 1 x
  have k3 := fun x => dIn_c (l.length : Int) 1 512 x
  have fin : ∀ {e : Ending} {x : World} (n : Nat), x = w1.drewN n → e = .returned (.bool false) → e = .returned (.bool false) ∧ Below w.heap.size w x := fun n hx he => ⟨he, by rw [hx]; exact (N0.grow (below_drewN (Below.refl _ w1) (n := n))).below⟩
  by_cases h1 : pc.tmod 4 = 0
  · have e1 : (pc.tmod 4 != 0) = false := by simp [h1]
    by_cases h2 : 1 ≤ words ∧ words ≤ 16
    · rw [in_yes h2.1 h2.2] at k1
      by_cases h3 : 0 ≤ el ∧ el ≤ 1
      · rw [in_yes h3.1 h3.2] at k2
        by_cases h4 : (1 : Int) ≤ l.length ∧ (l.length : Int) ≤ 512
        · rw [in_yes h4.1 h4.2] at k3
          obtain ⟨ra, cap', ev', hops⟩ := N0.ops.cell (by omega)
          cases ev'
          have A := hops 0 _ (opAt_some (by omega))
          have e00 : ra.add (0 * 6) = ra := add_zero6 ra
          rw [e00] at A
          have y0 := A.c0
          have y5 := A.c5
          clear hops
          have hl1 : (0 : Int) < l.length := by omega
          by_cases h5 : (opAt l 0).kind = 14
          · rw [h5] at y0
            have h6 : ¬ (opAt l 0).imm = pc := fun h6 => by
              unfold headD at hH
              rw [hpt, h1, h5, h6] at hH
              simp [h2, h3] at hH
              omega
            have e6 : ((opAt l 0).imm != pc) = true := by simp [h6]
            clear hH hpt h2 h3 h4 h5 h6
            go_quiet (first | (go_at_call 18; with_reducible exact Calls.quiet_of_same (k1 _)) | (go_at_call 18; with_reducible exact Calls.quiet_of_same (k2 _)) | (go_at_call 18; with_reducible exact Calls.quiet_of_same (k3 _)))
            go_wp2
            go_ret
            exact fin _ rfl rfl
          · have e5 : ((opAt l 0).kind != 14) = true := by simp [h5]
            clear hH hpt h2 h3 h4 h5
            go_quiet (first | (go_at_call 18; with_reducible exact Calls.quiet_of_same (k1 _)) | (go_at_call 18; with_reducible exact Calls.quiet_of_same (k2 _)) | (go_at_call 18; with_reducible exact Calls.quiet_of_same (k3 _)))
            go_wp2
            go_ret
            exact fin _ rfl rfl
        · rw [in_no (by omega)] at k3
          clear hH hpt h2 h3 h4
          go_quiet (first | (go_at_call 18; with_reducible exact Calls.quiet_of_same (k1 _)) | (go_at_call 18; with_reducible exact Calls.quiet_of_same (k2 _)) | (go_at_call 18; with_reducible exact Calls.quiet_of_same (k3 _)))
          go_wp2
          go_ret
          exact fin _ rfl rfl
      · rw [in_no (by omega)] at k2
        clear hH hpt h2 h3
        go_quiet (first | (go_at_call 18; with_reducible exact Calls.quiet_of_same (k1 _)) | (go_at_call 18; with_reducible exact Calls.quiet_of_same (k2 _)) | (go_at_call 18; with_reducible exact Calls.quiet_of_same (k3 _)))
        go_wp2
        go_ret
        exact fin _ rfl rfl
    · rw [in_no (by omega)] at k1
      clear hH hpt h2
      go_quiet (first | (go_at_call 18; with_reducible exact Calls.quiet_of_same (k1 _)) | (go_at_call 18; with_reducible exact Calls.quiet_of_same (k2 _)) | (go_at_call 18; with_reducible exact Calls.quiet_of_same (k3 _)))
      go_wp2
      go_ret
      exact fin _ rfl rfl
  · have e1 : (pc.tmod 4 != 0) = true := by simp [h1]
    clear hH hpt h1
    go_quiet (first | (go_at_call 18; with_reducible exact Calls.quiet_of_same (k1 _)) | (go_at_call 18; with_reducible exact Calls.quiet_of_same (k2 _)) | (go_at_call 18; with_reducible exact Calls.quiet_of_same (k3 _)))
    go_wp2
    go_ret
    exact fin _ rfl rfl
end Go.Proofs.Ytilhjbhhgpoajaa
/- The document's own Right: the operations. -/
namespace Go.Proofs.Ytilhjbhhgpoajaa
open Go.RowKit
set_option linter.unusedVariables false
set_option linter.unusedSimpArgs false
set_option maxRecDepth 8000

theorem dField_c (o : Opr) (hi : 0 ≤ o.imm) (w : World) : Calls Try.prog 19 #[opV o] w fun e w' => e = .returned (.bool (fieldB o)) ∧ Below w.heap.size w w' := by
  cases h : isK o.kind with
  | false =>
    have : fieldB o = false := by unfold fieldB; rw [h]; rfl
    rw [this]
    exact field_no o h w
  | true =>
    obtain ⟨kind, r, a, b, order, imm⟩ := o
    rcases isK_cases h with rfl | rfl | rfl | rfl | rfl | rfl | rfl | rfl | rfl | rfl | rfl | rfl | rfl | rfl | rfl | rfl | rfl | rfl
    · exact field_1 hi w
    · exact field_2 hi w
    · exact field_3 hi w
    · exact field_4 hi w
    · exact field_5 hi w
    · exact field_6 hi w
    · exact field_7 hi w
    · exact field_8 hi w
    · exact field_9 hi w
    · exact field_10 hi w
    · exact field_11 hi w
    · exact field_12 hi w
    · exact field_13 hi w
    · exact field_14 hi w
    · exact field_15 hi w
    · exact field_16 hi w
    · exact field_17 hi w
    · exact field_18 hi w
set_option maxHeartbeats 16000000 in
theorem dRight_loop {w : World} {l : List Opr} {pc words el : Int} {ra : Addr} {cap : Nat} (hpc : 0 ≤ pc) (O : Ops w (.slice (some ra) l.length cap) l) (hcap : l.length ≤ cap) (himm : ∀ k, 0 ≤ (opAt l k).imm) (hops0 : ∀ i o, l[i]? = some o → OpAt w (ra.add (i * 6)) o) (hH : headD pc words el l = true) : Calls Try.prog 7 #[blV pc words el (.slice (some ra) l.length cap)] w fun e w' => e = .returned (.bool ((List.range l.length).all (okD l))) ∧ Below w.heap.size w w' := by
  have N0 : RgW w pc words el (.slice (some ra) l.length cap) l w.heap.size (w.alloc (.cells (blA pc words el (.slice (some ra) l.length cap)) 25)) := ⟨heap_alloc_new _ _, O.grow (below_alloc _ _), below_alloc _ _⟩
  have hpt : pc % 4 = pc.tmod 4 := (Int.tmod_eq_emod_of_nonneg hpc).symm
  unfold headD at hH
  simp only [Bool.and_eq_true, decide_eq_true_eq, beq_iff_eq] at hH
  obtain ⟨⟨⟨⟨⟨⟨⟨⟨h1, h2⟩, h2'⟩, h3⟩, h3'⟩, h4⟩, h4'⟩, h5⟩, h6⟩ := hH
  rw [hpt] at h1
  have hl512 : (l.length : Int) ≤ 512 := by omega
  have hl1 : (1 : Int) ≤ l.length := by omega
  have hl0 : (0 : Int) < l.length := by omega
  go_enter Try.func7, Try.ntmps7
  go_upto_region 1 with fail
  generalize w.alloc (.cells (blA pc words el (.slice (some ra) l.length cap)) 25) = w1 at *
  generalize hb1 : w.heap.size = b1 at N0 ⊢
  have z3 := N0.c3
  have z0 := N0.c0
  have z1 := N0.c1
  have z2 := N0.c2
  go_upto_region 2 with fail
  have k1 := fun x => dIn_c words 1 16 x
  have k2 := fun x => dIn_c el 0 1 x
  have k3 := fun x => dIn_c (l.length : Int) 1 512 x
  rw [in_yes h2 h2'] at k1
  rw [in_yes h3 h3'] at k2
  rw [in_yes hl1 hl512] at k3
  obtain ⟨ra', cap', ev', hops⟩ := N0.ops.cell (by omega)
  cases ev'
  have A := hops 0 _ (opAt_some (by omega))
  rw [add_zero6] at A
  have y0 := A.c0
  have y5 := A.c5
  rw [h5] at y0
  rw [h6] at y5
  clear A hops h2 h2' h3 h3' h4 h4' h5 h6 hpt
  go_quiet (first | (go_at_call 18; with_reducible exact Calls.quiet_of_same (k1 _)) | (go_at_call 18; with_reducible exact Calls.quiet_of_same (k2 _)) | (go_at_call 18; with_reducible exact Calls.quiet_of_same (k3 _)))
  have N1 := N0.grow (below_drewN (Below.refl _ w1) (n := nq))
  generalize w1.drewN nq = w2 at N1 ⊢
  clear N0 z0 z1 z2 z3 y0 y5 k1 k2 k3
  go_upto_region 5 with fail
  go_loopw [4] (fun s4 wr => ∃ k : Nat, k ≤ l.length ∧ s4 = vI k ∧ (∀ j, j < k → okD l j = true) ∧ RgW w pc words el (.slice (some ra) l.length cap) l b1 wr) (fun s4 _ => ((l.length : Int) - intOf s4).toNat)
  case atStart => exact ⟨0, Nat.zero_le _, rfl, fun _ h => absurd h (by omega), N1⟩
  case round =>
    clear N1
    obtain ⟨k, hk, rfl, hall, N⟩ := hrel
    by_cases hlt : (k : Int) < l.length
    · have hkl : k < l.length := by omega
      obtain ⟨ra', cap', ev', hops⟩ := N.ops.cell (by omega)
      cases ev'
      have A := hops k _ (opAt_some hkl)
      have z3 := N.c3
      have hi := himm k
      have hokk : okD l k = (fieldB (opAt l k) && (lastD (opAt l k) == decide (k + 1 = l.length)) && (usesD (opAt l k)).all (defD l k) && zeroD (opAt l k)) := rfl
      have hno := fun h => okD_no (l := l) hkl h
      generalize opAt l k = o at *
      have Hn := has_none wr
      go_upto_region 8 with (first | ((with_reducible refine wpList_load42 rfl _ rfl _ rfl _ A ?_); try simp only [Act.put]) | ((with_reducible refine wpList_store_new Hn rfl 45 _ _ rfl (opA o) rfl rfl (op_inf _) (by kernel_rfl) (op_one _) ?_); clear Hn; intro w3 Hn; try simp only [Act.put]))
      have N3 := N.grow Hn.below
      have L : LocO wr.heap.size o w3 := Hn.get List.mem_cons_self
      clear Hn hops A z3
      generalize wr.heap.size = t at L ⊢
      have zl := L.at_
      have kf := fun x => dField_c o hi x
      have N9 := N3
      go_upto_region 9 with (first | ((with_reducible refine wpList_load42 rfl _ rfl _ rfl _ zl ?_); try simp only [Act.put]) | (go_at_call 19; (with_reducible refine (kf _).mono ?_); rintro e w4 ⟨rfl, B⟩; dsimp only; have N4 := N9.grow B; have L4 := L.grow B; clear B))
      clear N3 N9 L zl kf N
      have y0 := L4.c0
      have y2 := L4.c2
      have y3 := L4.c3
      go_cut [7] from 53 to 137 (fun s7 wc => s7 = .bool (lastD o) ∧ Hid (wc = w4))
      case first =>
        by_cases c16 : o.kind = 16
        · have hv : lastD o = true := by unfold lastD; rw [c16]; rfl
          go_wp2
          go_meet
          case rel => exact ⟨by rw [hv], rfl⟩
        · by_cases c17 : o.kind = 17
          · have hv : lastD o = true := by unfold lastD; rw [c17]; rfl
            go_wp2
            go_meet
            case rel => exact ⟨by rw [hv], rfl⟩
          · by_cases c18 : o.kind = 18
            · have hv : lastD o = true := by unfold lastD; rw [c18]; rfl
              go_wp2
              go_meet
              case rel => exact ⟨by rw [hv], rfl⟩
            · have hv : lastD o = false := by unfold lastD; simp [c16, c17, c18]
              go_wp2
              go_meet
              case rel => exact ⟨by rw [hv]; simp [c16, c17, c18], rfl⟩
      case rest =>
        obtain ⟨rfl, hq⟩ := hcut
        obtain rfl := hq.out
        clear hq
        generalize lastD o = la at *
        generalize fieldB o = fo at *
        go_upto_region 10 with fail
        go_cut [87] from 53 to 137 (fun s87 wd => s87 = .bool (!fo || (la != decide (k + 1 = l.length))) ∧ Hid (wd = wc))
        case first =>
          by_cases hz : (k : Int) = (l.length : Int) - 1
          · have hd : decide (k + 1 = l.length) = true := decide_eq_true (by omega)
            cases fo <;> cases la <;> (go_wp2; go_meet; case rel => first | exact ⟨by rw [hd]; rfl, rfl⟩ | exact ⟨by rw [hd]; simp [hz], rfl⟩)
          · have hd : decide (k + 1 = l.length) = false := decide_eq_false (by omega)
            cases fo <;> cases la <;> (go_wp2; go_meet; case rel => first | exact ⟨by rw [hd]; rfl, rfl⟩ | exact ⟨by rw [hd]; simp [hz], rfl⟩)
        case rest =>
          obtain ⟨rfl, hq⟩ := hcut
          obtain rfl := hq.out
          clear hq
          have hB := N4.below
          cases hE : (!fo || (la != decide (k + 1 = l.length))) with
          | true =>
            have hf : okD l k = false := by
              rw [hokk]
              cases fo <;> cases la <;> cases hd : decide (k + 1 = l.length) <;> simp_all
            have hf2 := hno hf
            go_wp2
            go_ret
            first | exact ⟨rfl, hB⟩ | exact ⟨r_bool hf2.symm, hB⟩ | (rw [hb1] at hB; first | exact ⟨rfl, hB⟩ | exact ⟨r_bool hf2.symm, hB⟩) | (rw [← hb1] at hB; first | exact ⟨rfl, hB⟩ | exact ⟨r_bool hf2.symm, hB⟩)
          | false =>
            have hok2 : okD l k = ((usesD o).all (defD l k) && zeroD o) := by
              rw [hokk]
              cases fo <;> cases la <;> cases hd : decide (k + 1 = l.length) <;> simp_all
            clear hokk hE
            have ku := fun x => dUses_c o x
            have zl := L4.at_
            generalize hzs : usesD o = zs at *
            go_upto_region 13 with (first | ((with_reducible refine wpList_load42 rfl _ rfl _ rfl _ zl ?_); try simp only [Act.put]) | (go_at_call 20; (with_reducible refine (ku _).mono ?_); rintro e w5 ⟨u, rfl, Z, B⟩; dsimp only))
            have N5 := N4.grow B
            have L5 := L4.grow B
            clear zl ku B L4 N4 y0 y2 y3
            obtain ⟨uo, uc, eu⟩ := Z.len
            have hum := Z.max
            have humm : (zs.length : Int) ≤ 9223372036854775807 := by simp only [maxLen] at hum; omega
            subst eu
            go_upto_region 14 with fail
            go_loopw [9] (fun s9 wq => ∃ i : Nat, i ≤ zs.length ∧ s9 = vI i ∧ (zs.take i).all (defD l k) = true ∧ RgW w pc words el (.slice (some ra) l.length cap) l b1 wq ∧ LocO t o wq ∧ RawI wq (.slice uo zs.length uc) zs) (fun s9 _ => ((zs.length : Int) - intOf s9).toNat)
            case atStart => exact ⟨0, Nat.zero_le _, rfl, rfl, N5, L5, Z⟩
            case round =>
              clear N5 L5 Z
              obtain ⟨i, hi9, rfl, hai, N5, L5, Z⟩ := hrel
              have hB := N5.below
              by_cases hil : (i : Int) < zs.length
              · have hil2 : i < zs.length := by omega
                obtain ⟨p, hp⟩ : ∃ p, zs[i]? = some p := ⟨zs[i], List.getElem?_eq_getElem hil2⟩
                obtain ⟨ua, uc', eu', hcu⟩ := Z.cell (by omega)
                cases eu'
                have c0 := (hcu i p hp).2
                clear hcu
                have hnd : defD l k p = false → okD l k = false := fun h => by
                  rw [hok2, List.all_eq_false.2 ⟨p, List.mem_of_getElem? hp, by rw [h]; decide⟩]; rfl
                by_cases h0 : p < 0
                · have hf2 := hno (hnd (by unfold defD; rw [decide_eq_false (by omega)]; rfl))
                  go_wp2
                  go_ret
                  first | exact ⟨rfl, hB⟩ | exact ⟨r_bool hf2.symm, hB⟩ | (rw [hb1] at hB; first | exact ⟨rfl, hB⟩ | exact ⟨r_bool hf2.symm, hB⟩) | (rw [← hb1] at hB; first | exact ⟨rfl, hB⟩ | exact ⟨r_bool hf2.symm, hB⟩)
                · by_cases h1 : (k : Int) ≤ p
                  · have hf2 := hno (hnd (by unfold defD; rw [decide_eq_false (p := p < (k : Int)) (by omega)]; simp))
                    go_wp2
                    go_ret
                    first | exact ⟨rfl, hB⟩ | exact ⟨r_bool hf2.symm, hB⟩ | (rw [hb1] at hB; first | exact ⟨rfl, hB⟩ | exact ⟨r_bool hf2.symm, hB⟩) | (rw [← hb1] at hB; first | exact ⟨rfl, hB⟩ | exact ⟨r_bool hf2.symm, hB⟩)
                  · obtain ⟨q, rfl⟩ : ∃ q : Nat, p = q := ⟨p.toNat, by omega⟩
                    have hqk : q < k := by omega
                    have hql : (q : Int) < l.length := by omega
                    obtain ⟨ra', cap', ev', hops⟩ := N5.ops.cell (by omega)
                    cases ev'
                    have A := hops q _ (opAt_some (by omega))
                    clear hops
                    have z3 := N5.c3
                    have hdq : defD l k (q : Int) = defsB (opAt l q).kind := by
                      unfold defD
                      rw [decide_eq_true (by omega), decide_eq_true (by omega), Int.toNat_natCast]; rfl
                    have kd := fun x => dDefs_c (opAt l q) x
                    have c00 : ¬ (q : Int) < 0 := by omega
                    have c01 : ¬ (k : Int) ≤ (q : Int) := by omega
                    go_upto_region 18 with fail
                    refine wp_region_still_tail 8 (by kernel_rfl) (by kernel_rfl) ?_
                    replace N5 := N5.grow (below_dr wr)
                    replace L5 := L5.grow (below_dr wr)
                    replace A := A.grow (below_dr wr)
                    replace Z := Z.grow (below_dr wr)
                    have c0' := c0
                    have z3' := z3
                    clear hB
                    generalize hw6 : ({ wr with drawn := wr.drawn + 1 } : World) = w6 at *
                    have c0 : w6.cell? (ua.add i) = some (vI (q : Int)) := by rw [← hw6]; exact c0'
                    have z3 := N5.c3
                    clear hw6 c0' z3'
                    have y0 := A.c0
                    have y1 := A.c1
                    have y2 := A.c2
                    have y3 := A.c3
                    have y4 := A.c4
                    have y5 := A.c5
                    simp only [List.take_succ_cons, List.take_zero, List.drop_succ_cons, List.drop_zero]
                    iterate 8 still_step
                    refine wpStill_nil ?_
                    cases hdv : defsB (opAt l q).kind with
                    | false =>
                      have hf2 := hno (hnd (by rw [hdq, hdv]))
                      rw [hdv] at kd
                      go_wp2_with (go_at_call 21; (with_reducible refine (kd _).mono ?_); rintro e w7 ⟨rfl, B⟩; dsimp only)
                      have hB := (N5.grow B).below
                      go_ret
                      first | exact ⟨rfl, hB⟩ | exact ⟨r_bool hf2.symm, hB⟩ | (rw [hb1] at hB; first | exact ⟨rfl, hB⟩ | exact ⟨r_bool hf2.symm, hB⟩) | (rw [← hb1] at hB; first | exact ⟨rfl, hB⟩ | exact ⟨r_bool hf2.symm, hB⟩)
                    | true =>
                      rw [hdv] at kd
                      have hst : (zs.take (i + 1)).all (defD l k) = true := by
                        rw [List.take_add_one, hp, List.all_append, hai]; simp [hdq, hdv]
                      go_wp2_with (go_at_call 21; (with_reducible refine (kd _).mono ?_); rintro e w7 ⟨rfl, B⟩; dsimp only)
                      go_roundw
                      case rel => exact ⟨i + 1, by omega, by simp, hst, N5.grow B, L5.grow B, Z.grow B⟩
                      case measure => simp [intOf]; omega
              · have hie : i = zs.length := by omega
                rw [hie, List.take_length] at hai
                rw [hai, Bool.true_and] at hok2
                have y2 := L5.c2
                have y3 := L5.c3
                have hz3 : zs = [] ∨ (∃ p, zs = [p]) ∨ ∃ p q, zs = [p, q] := by
                  rw [← hzs]; unfold usesD
                  split
                  · exact .inr (.inl ⟨_, rfl⟩)
                  · split
                    · exact .inr (.inr ⟨_, _, rfl⟩)
                    · exact .inl rfl
                have hzd : zeroD o = (!(decide ((zs.length : Int) < 2) && o.b != 0) && !(decide ((zs.length : Int) < 1) && o.a != 0)) := by
                  have e2 : decide (zs.length < 2) = decide ((zs.length : Int) < 2) := by rw [decide_eq_decide]; omega
                  have e1 : decide (zs.length < 1) = decide ((zs.length : Int) < 1) := by rw [decide_eq_decide]; omega
                  unfold zeroD; rw [hzs, e2, e1]
                have hlc : (zs.length : Int) = 0 ∨ (zs.length : Int) = 1 ∨ (zs.length : Int) = 2 := by
                  rcases hz3 with h | ⟨p, h⟩ | ⟨p, q, h⟩ <;> rw [h] <;> simp
                clear hz3 hzs hai Z
                go_upto_region 21 with fail
                clear hil hie hi9
                go_cut [137] from 53 to 137 (fun s137 wd => s137 = .bool (!zeroD o) ∧ Hid (wd = wr))
                case first =>
                  by_cases ha : o.a = 0 <;> by_cases hbb : o.b = 0
                  all_goals
                    rcases hlc with hlc | hlc | hlc
                    all_goals
                      (go_wp2; go_meet; case rel => exact ⟨by rw [hzd, hlc]; simp [ha, hbb], rfl⟩)
                case rest =>
                  obtain ⟨rfl, hq⟩ := hcut
                  obtain rfl := hq.out
                  clear hq
                  cases hzz : zeroD o with
                  | false =>
                    have hf2 := hno (by rw [hok2, hzz])
                    go_wp2
                    go_ret
                    first | exact ⟨rfl, hB⟩ | exact ⟨r_bool hf2.symm, hB⟩ | (rw [hb1] at hB; first | exact ⟨rfl, hB⟩ | exact ⟨r_bool hf2.symm, hB⟩) | (rw [← hb1] at hB; first | exact ⟨rfl, hB⟩ | exact ⟨r_bool hf2.symm, hB⟩)
                  | true =>
                    go_wp2
                    go_roundw
                    case rel => exact ⟨k + 1, by omega, by simp, fun j hj => by
                      rcases Nat.lt_or_ge j k with h | h
                      · exact hall j h
                      · obtain rfl : j = k := by omega
                        rw [hok2, hzz], N5⟩
                    case measure => simp [intOf]; omega
    · have hke : k = l.length := by omega
      subst hke
      have hf := okD_yes hall
      have hB := N.below
      go_wp2
      go_ret
      have hB2 : Below b1 w wr := by rw [← hb1]; exact hB
      first | exact ⟨rfl, hB⟩ | exact ⟨r_bool hf.symm, hB⟩ | exact ⟨rfl, hB2⟩ | exact ⟨r_bool hf.symm, hB2⟩
end Go.Proofs.Ytilhjbhhgpoajaa
