/- Operations that are right by themselves. -/
import Derived.Test.YtilhjbhhgpoajaaDoorIa
namespace Go.Proofs.YtilhjbhhgpoajaaDoor
open Go.RowKit
set_option linter.unusedVariables false
set_option linter.unusedSimpArgs false
set_option maxRecDepth 8000

@[go_sem] theorem hp1_1 : hasP 1 1 = false := by kernel_rfl
@[go_sem] theorem hp1_2 : hasP 1 2 = false := by kernel_rfl
@[go_sem] theorem hp1_4 : hasP 1 4 = false := by kernel_rfl
@[go_sem] theorem hp1_8 : hasP 1 8 = false := by kernel_rfl
@[go_sem] theorem hp1_16 : hasP 1 16 = true := by kernel_rfl
@[go_sem] theorem hp1_32 : hasP 1 32 = true := by kernel_rfl
@[go_sem] theorem hp1_64 : hasP 1 64 = false := by kernel_rfl
@[go_sem] theorem hp1_128 : hasP 1 128 = false := by kernel_rfl
@[go_sem] theorem hp2_1 : hasP 2 1 = true := by kernel_rfl
@[go_sem] theorem hp2_2 : hasP 2 2 = false := by kernel_rfl
@[go_sem] theorem hp2_4 : hasP 2 4 = false := by kernel_rfl
@[go_sem] theorem hp2_8 : hasP 2 8 = false := by kernel_rfl
@[go_sem] theorem hp2_16 : hasP 2 16 = false := by kernel_rfl
@[go_sem] theorem hp2_32 : hasP 2 32 = true := by kernel_rfl
@[go_sem] theorem hp2_64 : hasP 2 64 = false := by kernel_rfl
@[go_sem] theorem hp2_128 : hasP 2 128 = false := by kernel_rfl
@[go_sem] theorem hp3_1 : hasP 3 1 = true := by kernel_rfl
@[go_sem] theorem hp3_2 : hasP 3 2 = true := by kernel_rfl
@[go_sem] theorem hp3_4 : hasP 3 4 = false := by kernel_rfl
@[go_sem] theorem hp3_8 : hasP 3 8 = false := by kernel_rfl
@[go_sem] theorem hp3_16 : hasP 3 16 = false := by kernel_rfl
@[go_sem] theorem hp3_32 : hasP 3 32 = false := by kernel_rfl
@[go_sem] theorem hp3_64 : hasP 3 64 = false := by kernel_rfl
@[go_sem] theorem hp3_128 : hasP 3 128 = false := by kernel_rfl
@[go_sem] theorem hp4_1 : hasP 4 1 = false := by kernel_rfl
@[go_sem] theorem hp4_2 : hasP 4 2 = false := by kernel_rfl
@[go_sem] theorem hp4_4 : hasP 4 4 = false := by kernel_rfl
@[go_sem] theorem hp4_8 : hasP 4 8 = false := by kernel_rfl
@[go_sem] theorem hp4_16 : hasP 4 16 = false := by kernel_rfl
@[go_sem] theorem hp4_32 : hasP 4 32 = true := by kernel_rfl
@[go_sem] theorem hp4_64 : hasP 4 64 = false := by kernel_rfl
@[go_sem] theorem hp4_128 : hasP 4 128 = false := by kernel_rfl
@[go_sem] theorem hp5_1 : hasP 5 1 = false := by kernel_rfl
@[go_sem] theorem hp5_2 : hasP 5 2 = true := by kernel_rfl
@[go_sem] theorem hp5_4 : hasP 5 4 = false := by kernel_rfl
@[go_sem] theorem hp5_8 : hasP 5 8 = false := by kernel_rfl
@[go_sem] theorem hp5_16 : hasP 5 16 = false := by kernel_rfl
@[go_sem] theorem hp5_32 : hasP 5 32 = false := by kernel_rfl
@[go_sem] theorem hp5_64 : hasP 5 64 = false := by kernel_rfl
@[go_sem] theorem hp5_128 : hasP 5 128 = false := by kernel_rfl
@[go_sem] theorem hp6_1 : hasP 6 1 = true := by kernel_rfl
@[go_sem] theorem hp6_2 : hasP 6 2 = false := by kernel_rfl
@[go_sem] theorem hp6_4 : hasP 6 4 = false := by kernel_rfl
@[go_sem] theorem hp6_8 : hasP 6 8 = false := by kernel_rfl
@[go_sem] theorem hp6_16 : hasP 6 16 = false := by kernel_rfl
@[go_sem] theorem hp6_32 : hasP 6 32 = true := by kernel_rfl
@[go_sem] theorem hp6_64 : hasP 6 64 = false := by kernel_rfl
@[go_sem] theorem hp6_128 : hasP 6 128 = false := by kernel_rfl
@[go_sem] theorem hp7_1 : hasP 7 1 = true := by kernel_rfl
@[go_sem] theorem hp7_2 : hasP 7 2 = true := by kernel_rfl
@[go_sem] theorem hp7_4 : hasP 7 4 = false := by kernel_rfl
@[go_sem] theorem hp7_8 : hasP 7 8 = false := by kernel_rfl
@[go_sem] theorem hp7_16 : hasP 7 16 = false := by kernel_rfl
@[go_sem] theorem hp7_32 : hasP 7 32 = false := by kernel_rfl
@[go_sem] theorem hp7_64 : hasP 7 64 = false := by kernel_rfl
@[go_sem] theorem hp7_128 : hasP 7 128 = false := by kernel_rfl
@[go_sem] theorem hp8_1 : hasP 8 1 = true := by kernel_rfl
@[go_sem] theorem hp8_2 : hasP 8 2 = true := by kernel_rfl
@[go_sem] theorem hp8_4 : hasP 8 4 = true := by kernel_rfl
@[go_sem] theorem hp8_8 : hasP 8 8 = false := by kernel_rfl
@[go_sem] theorem hp8_16 : hasP 8 16 = false := by kernel_rfl
@[go_sem] theorem hp8_32 : hasP 8 32 = true := by kernel_rfl
@[go_sem] theorem hp8_64 : hasP 8 64 = false := by kernel_rfl
@[go_sem] theorem hp8_128 : hasP 8 128 = false := by kernel_rfl
@[go_sem] theorem hp9_1 : hasP 9 1 = false := by kernel_rfl
@[go_sem] theorem hp9_2 : hasP 9 2 = true := by kernel_rfl
@[go_sem] theorem hp9_4 : hasP 9 4 = false := by kernel_rfl
@[go_sem] theorem hp9_8 : hasP 9 8 = true := by kernel_rfl
@[go_sem] theorem hp9_16 : hasP 9 16 = false := by kernel_rfl
@[go_sem] theorem hp9_32 : hasP 9 32 = true := by kernel_rfl
@[go_sem] theorem hp9_64 : hasP 9 64 = true := by kernel_rfl
@[go_sem] theorem hp9_128 : hasP 9 128 = false := by kernel_rfl
@[go_sem] theorem hp10_1 : hasP 10 1 = false := by kernel_rfl
@[go_sem] theorem hp10_2 : hasP 10 2 = true := by kernel_rfl
@[go_sem] theorem hp10_4 : hasP 10 4 = true := by kernel_rfl
@[go_sem] theorem hp10_8 : hasP 10 8 = true := by kernel_rfl
@[go_sem] theorem hp10_16 : hasP 10 16 = false := by kernel_rfl
@[go_sem] theorem hp10_32 : hasP 10 32 = false := by kernel_rfl
@[go_sem] theorem hp10_64 : hasP 10 64 = true := by kernel_rfl
@[go_sem] theorem hp10_128 : hasP 10 128 = false := by kernel_rfl
@[go_sem] theorem hp11_1 : hasP 11 1 = false := by kernel_rfl
@[go_sem] theorem hp11_2 : hasP 11 2 = true := by kernel_rfl
@[go_sem] theorem hp11_4 : hasP 11 4 = false := by kernel_rfl
@[go_sem] theorem hp11_8 : hasP 11 8 = true := by kernel_rfl
@[go_sem] theorem hp11_16 : hasP 11 16 = false := by kernel_rfl
@[go_sem] theorem hp11_32 : hasP 11 32 = true := by kernel_rfl
@[go_sem] theorem hp11_64 : hasP 11 64 = true := by kernel_rfl
@[go_sem] theorem hp11_128 : hasP 11 128 = false := by kernel_rfl
@[go_sem] theorem hp12_1 : hasP 12 1 = false := by kernel_rfl
@[go_sem] theorem hp12_2 : hasP 12 2 = true := by kernel_rfl
@[go_sem] theorem hp12_4 : hasP 12 4 = true := by kernel_rfl
@[go_sem] theorem hp12_8 : hasP 12 8 = true := by kernel_rfl
@[go_sem] theorem hp12_16 : hasP 12 16 = false := by kernel_rfl
@[go_sem] theorem hp12_32 : hasP 12 32 = true := by kernel_rfl
@[go_sem] theorem hp12_64 : hasP 12 64 = true := by kernel_rfl
@[go_sem] theorem hp12_128 : hasP 12 128 = false := by kernel_rfl
@[go_sem] theorem hp13_1 : hasP 13 1 = true := by kernel_rfl
@[go_sem] theorem hp13_2 : hasP 13 2 = false := by kernel_rfl
@[go_sem] theorem hp13_4 : hasP 13 4 = false := by kernel_rfl
@[go_sem] theorem hp13_8 : hasP 13 8 = false := by kernel_rfl
@[go_sem] theorem hp13_16 : hasP 13 16 = false := by kernel_rfl
@[go_sem] theorem hp13_32 : hasP 13 32 = false := by kernel_rfl
@[go_sem] theorem hp13_64 : hasP 13 64 = false := by kernel_rfl
@[go_sem] theorem hp13_128 : hasP 13 128 = false := by kernel_rfl
@[go_sem] theorem hp14_1 : hasP 14 1 = false := by kernel_rfl
@[go_sem] theorem hp14_2 : hasP 14 2 = false := by kernel_rfl
@[go_sem] theorem hp14_4 : hasP 14 4 = false := by kernel_rfl
@[go_sem] theorem hp14_8 : hasP 14 8 = false := by kernel_rfl
@[go_sem] theorem hp14_16 : hasP 14 16 = true := by kernel_rfl
@[go_sem] theorem hp14_32 : hasP 14 32 = false := by kernel_rfl
@[go_sem] theorem hp14_64 : hasP 14 64 = false := by kernel_rfl
@[go_sem] theorem hp14_128 : hasP 14 128 = false := by kernel_rfl
@[go_sem] theorem hp15_1 : hasP 15 1 = false := by kernel_rfl
@[go_sem] theorem hp15_2 : hasP 15 2 = true := by kernel_rfl
@[go_sem] theorem hp15_4 : hasP 15 4 = false := by kernel_rfl
@[go_sem] theorem hp15_8 : hasP 15 8 = false := by kernel_rfl
@[go_sem] theorem hp15_16 : hasP 15 16 = true := by kernel_rfl
@[go_sem] theorem hp15_32 : hasP 15 32 = false := by kernel_rfl
@[go_sem] theorem hp15_64 : hasP 15 64 = true := by kernel_rfl
@[go_sem] theorem hp15_128 : hasP 15 128 = false := by kernel_rfl
@[go_sem] theorem hp16_1 : hasP 16 1 = false := by kernel_rfl
@[go_sem] theorem hp16_2 : hasP 16 2 = false := by kernel_rfl
@[go_sem] theorem hp16_4 : hasP 16 4 = false := by kernel_rfl
@[go_sem] theorem hp16_8 : hasP 16 8 = false := by kernel_rfl
@[go_sem] theorem hp16_16 : hasP 16 16 = true := by kernel_rfl
@[go_sem] theorem hp16_32 : hasP 16 32 = false := by kernel_rfl
@[go_sem] theorem hp16_64 : hasP 16 64 = true := by kernel_rfl
@[go_sem] theorem hp16_128 : hasP 16 128 = true := by kernel_rfl
@[go_sem] theorem hp17_1 : hasP 17 1 = false := by kernel_rfl
@[go_sem] theorem hp17_2 : hasP 17 2 = true := by kernel_rfl
@[go_sem] theorem hp17_4 : hasP 17 4 = false := by kernel_rfl
@[go_sem] theorem hp17_8 : hasP 17 8 = false := by kernel_rfl
@[go_sem] theorem hp17_16 : hasP 17 16 = false := by kernel_rfl
@[go_sem] theorem hp17_32 : hasP 17 32 = false := by kernel_rfl
@[go_sem] theorem hp17_64 : hasP 17 64 = true := by kernel_rfl
@[go_sem] theorem hp17_128 : hasP 17 128 = true := by kernel_rfl
@[go_sem] theorem hp18_1 : hasP 18 1 = false := by kernel_rfl
@[go_sem] theorem hp18_2 : hasP 18 2 = false := by kernel_rfl
@[go_sem] theorem hp18_4 : hasP 18 4 = false := by kernel_rfl
@[go_sem] theorem hp18_8 : hasP 18 8 = false := by kernel_rfl
@[go_sem] theorem hp18_16 : hasP 18 16 = true := by kernel_rfl
@[go_sem] theorem hp18_32 : hasP 18 32 = false := by kernel_rfl
@[go_sem] theorem hp18_64 : hasP 18 64 = true := by kernel_rfl
@[go_sem] theorem hp18_128 : hasP 18 128 = true := by kernel_rfl

theorem r_bool {a b : Bool} (h : a = b) : Ending.returned (.bool a) = .returned (.bool b) := by rw [h]
theorem op_inf (o : Opr) : (Tryd.prog.info? 37).map (·.size) = some (opA o).size := by
  show (Tryd.prog.info? 37).map (·.size) = some 6
  kernel_rfl
theorem op_one (o : Opr) : (opA o).all (·.oneCell') = true := by simp [Value.oneCell']
set_option maxHeartbeats 4000000 in
theorem isInRange_c (o : Opr) (hi : 0 ≤ o.imm) (w : World) : Calls Tryd.prog 33 #[opV o] w fun e w' => e = .returned (.bool (rangeB o)) ∧ Below w.heap.size w w' := by
  have hb := below_alloc w (.cells (opA o) 37)
  go_enter Tryd.func33, Tryd.ntmps33
  go_wp2
  all_goals (go_ret; refine ⟨r_bool ?_, hb⟩; unfold rangeB; first | (simp_all; done) | (simp_all; omega) | (simp_all; rw [Int.tmod_eq_emod_of_nonneg hi]))
set_option maxHeartbeats 4000000 in
theorem isOpRight_c (o : Opr) (hk : isK o.kind = true) (hi : 0 ≤ o.imm) (w : World) : Calls Tryd.prog 23 #[opV o] w fun e w' => e = .returned (.bool (opB o)) ∧ Below w.heap.size w w' := by
  obtain ⟨kind, r, a, b, order, imm⟩ := o
  dsimp only at hk hi
  have H := (has_none w).new 37 (opA ⟨kind, r, a, b, order, imm⟩)
  have hr := fun w => isInRange_c ⟨kind, r, a, b, order, imm⟩ hi w
  rcases isK_cases hk with rfl | rfl | rfl | rfl | rfl | rfl | rfl | rfl | rfl | rfl | rfl | rfl | rfl | rfl | rfl | rfl | rfl | rfl
  all_goals
    go_enter Tryd.func23, Tryd.ntmps23
    go_wp2_with (first | (go_at_call 21; refine (shapeOf_c _ hk _).mono ?_; rintro e w1 ⟨rfl, B⟩; dsimp only; replace H := H.grow B; clear B) | ((with_reducible refine wpList_store_new H rfl 54 _ _ rfl _ rfl rfl (sh_inf2 _ _) (two_size _ _ _ _) (sh_one2 _ _) ?_); clear H; intro w1 H; try simp only [Act.put]) | ((with_reducible refine wpList_load_if rfl 54 _ rfl _ rfl 54 _ (0, 0) _ (H.get List.mem_cons_self) Tryd.underlying54 rfl (sh_inf2 _ _) ?_); simp only [Act.put, List.setIfInBounds_toArray, List.set_cons_succ, List.set_cons_zero]) | (go_at_call 22; refine (hasK_c _ _ _).mono ?_; rintro e w1 ⟨rfl, B⟩; dsimp only; replace H := H.grow B; clear B; have c1 : w1.cell? ⟨w.heap.size, 1, none⟩ = some (vI r) := H.at (by first | exact List.mem_cons_self | exact List.mem_cons_of_mem _ List.mem_cons_self | exact List.mem_cons_of_mem _ (List.mem_cons_of_mem _ List.mem_cons_self)) 1 _ rfl; have c2 : w1.cell? ⟨w.heap.size, 2, none⟩ = some (vI a) := H.at (by first | exact List.mem_cons_self | exact List.mem_cons_of_mem _ List.mem_cons_self | exact List.mem_cons_of_mem _ (List.mem_cons_of_mem _ List.mem_cons_self)) 2 _ rfl; have c3 : w1.cell? ⟨w.heap.size, 3, none⟩ = some (vI b) := H.at (by first | exact List.mem_cons_self | exact List.mem_cons_of_mem _ List.mem_cons_self | exact List.mem_cons_of_mem _ (List.mem_cons_of_mem _ List.mem_cons_self)) 3 _ rfl; have c4 : w1.cell? ⟨w.heap.size, 4, none⟩ = some (vI order) := H.at (by first | exact List.mem_cons_self | exact List.mem_cons_of_mem _ List.mem_cons_self | exact List.mem_cons_of_mem _ (List.mem_cons_of_mem _ List.mem_cons_self)) 4 _ rfl; have c5 : w1.cell? ⟨w.heap.size, 5, none⟩ = some (vU imm) := H.at (by first | exact List.mem_cons_self | exact List.mem_cons_of_mem _ List.mem_cons_self | exact List.mem_cons_of_mem _ (List.mem_cons_of_mem _ List.mem_cons_self)) 5 _ rfl; ) | ((with_reducible refine wpList_load_if rfl 37 _ rfl _ rfl 37 _ (0, 0) _ (H.get (List.mem_cons_of_mem _ List.mem_cons_self)) Tryd.underlying37 rfl (op_inf _) ?_); simp only [Act.put, List.setIfInBounds_toArray, List.set_cons_succ, List.set_cons_zero]) | (go_at_call 33; refine (hr _).mono ?_; rintro e w1 ⟨rfl, B⟩; dsimp only; replace H := H.grow B; clear B))
  all_goals (go_ret; refine ⟨r_bool ?_, H.below⟩; unfold opB; simp only [go_sem]; first | (simp_all; done))
end Go.Proofs.YtilhjbhhgpoajaaDoor
