/- For every state, class, ISS and address: Enter, Irq and Pstate of package trap answer as the document's own answer does: TrapEnters returns true, whatever its arguments. -/
import Derived.Test.YtdlnmjlgfjlmkaaOpen
import Derived.Test.YtdlnmjlgfjlmkaaTD
import Derived.Test.YtdlnmjlgfjlmkaaRelG
namespace Go.Proofs.Ytdlnmjlgfjlmkaa.trapEnters
open Go.ChangeShapes Go.WideShapes Go.ChangeAt Go.RowKit
set_option linter.unusedVariables false

set_option maxRecDepth 4000 in
set_option maxHeartbeats 8000000 in
theorem walk_ff (c : Cor) (k iss far : Int) (hE : entB c k iss = false) (hr : rightC c = false) (w : World) :
    Calls Try.prog 3 #[c.val, vI k, vI iss, vU far] w fun e w' => e = .returned (.bool true) ∧ Below w.heap.size w w' := by
  go_enter Try.func3, Try.ntmps3
  go_upto_region 1 with fail
  have H := own_one c w
  generalize w.alloc (.cells c.cells 26) = w1 at H ⊢
  go_upto_region 3 with (first | ((with_reducible refine wpList_all H rfl _ rfl rfl (by first | exact List.mem_cons_self | exact List.mem_cons_of_mem _ (List.mem_cons_self) | exact List.mem_cons_of_mem _ (List.mem_cons_of_mem _ (List.mem_cons_self)) | exact List.mem_cons_of_mem _ (List.mem_cons_of_mem _ (List.mem_cons_of_mem _ (List.mem_cons_self))) | exact List.mem_cons_of_mem _ (List.mem_cons_of_mem _ (List.mem_cons_of_mem _ (List.mem_cons_of_mem _ (List.mem_cons_self)))) | exact List.mem_cons_of_mem _ (List.mem_cons_of_mem _ (List.mem_cons_of_mem _ (List.mem_cons_of_mem _ (List.mem_cons_of_mem _ (List.mem_cons_self))))) | exact List.mem_cons_of_mem _ (List.mem_cons_of_mem _ (List.mem_cons_of_mem _ (List.mem_cons_of_mem _ (List.mem_cons_of_mem _ (List.mem_cons_of_mem _ (List.mem_cons_self))))))) ?_); simp only [Act.put, List.setIfInBounds_toArray, List.set_cons_succ, List.set_cons_zero]) | ((with_reducible refine wpList_new H rfl _ _ rfl _ rfl rfl ?_ ?_); (focus rfl); intro w2 H; simp only [Act.put]) | (go_at_call 7; refine (examples_c _).mono ?_; rintro e w1 ⟨rfl, hb⟩; replace H := H.grow hb; clear hb; dsimp only) | (go_at_call 8; refine (Enter_c _ _ _ _ _).mono ?_; rw [hE]; rintro e w1 ⟨rfl, hb⟩; replace H := H.grow hb; clear hb; dsimp only))
  generalize w1.heap.size = t1 at H ⊢
  go_upto_region 4 with (first | ((with_reducible refine wpList_all H rfl _ rfl rfl (by first | exact List.mem_cons_self | exact List.mem_cons_of_mem _ (List.mem_cons_self) | exact List.mem_cons_of_mem _ (List.mem_cons_of_mem _ (List.mem_cons_self)) | exact List.mem_cons_of_mem _ (List.mem_cons_of_mem _ (List.mem_cons_of_mem _ (List.mem_cons_self))) | exact List.mem_cons_of_mem _ (List.mem_cons_of_mem _ (List.mem_cons_of_mem _ (List.mem_cons_of_mem _ (List.mem_cons_self)))) | exact List.mem_cons_of_mem _ (List.mem_cons_of_mem _ (List.mem_cons_of_mem _ (List.mem_cons_of_mem _ (List.mem_cons_of_mem _ (List.mem_cons_self))))) | exact List.mem_cons_of_mem _ (List.mem_cons_of_mem _ (List.mem_cons_of_mem _ (List.mem_cons_of_mem _ (List.mem_cons_of_mem _ (List.mem_cons_of_mem _ (List.mem_cons_self))))))) ?_); simp only [Act.put, List.setIfInBounds_toArray, List.set_cons_succ, List.set_cons_zero]) | ((with_reducible refine wpList_new H rfl _ _ rfl _ rfl rfl ?_ ?_); (focus rfl); intro w2 H; simp only [Act.put]) | (go_at_call 9; refine (refEnter_c _ _ _ _ _).mono ?_; rw [hE]; rintro e w1 ⟨rfl, hb⟩; replace H := H.grow hb; clear hb; dsimp only))
  generalize w1.heap.size = t2 at H ⊢
  go_upto_region 5 with (first | ((with_reducible refine wpList_all H rfl _ rfl rfl (by first | exact List.mem_cons_self | exact List.mem_cons_of_mem _ (List.mem_cons_self) | exact List.mem_cons_of_mem _ (List.mem_cons_of_mem _ (List.mem_cons_self)) | exact List.mem_cons_of_mem _ (List.mem_cons_of_mem _ (List.mem_cons_of_mem _ (List.mem_cons_self))) | exact List.mem_cons_of_mem _ (List.mem_cons_of_mem _ (List.mem_cons_of_mem _ (List.mem_cons_of_mem _ (List.mem_cons_self)))) | exact List.mem_cons_of_mem _ (List.mem_cons_of_mem _ (List.mem_cons_of_mem _ (List.mem_cons_of_mem _ (List.mem_cons_of_mem _ (List.mem_cons_self))))) | exact List.mem_cons_of_mem _ (List.mem_cons_of_mem _ (List.mem_cons_of_mem _ (List.mem_cons_of_mem _ (List.mem_cons_of_mem _ (List.mem_cons_of_mem _ (List.mem_cons_self))))))) ?_); simp only [Act.put, List.setIfInBounds_toArray, List.set_cons_succ, List.set_cons_zero]) | ((with_reducible refine wpList_new H rfl _ _ rfl _ rfl rfl ?_ ?_); (focus rfl); intro w2 H; simp only [Act.put]) | (go_at_call 10; refine (Irq_c _ _).mono ?_; rw [hr]; rintro e w1 ⟨rfl, hb⟩; replace H := H.grow hb; clear hb; dsimp only))
  generalize w1.heap.size = t3 at H ⊢
  go_upto_region 6 with (first | ((with_reducible refine wpList_all H rfl _ rfl rfl (by first | exact List.mem_cons_self | exact List.mem_cons_of_mem _ (List.mem_cons_self) | exact List.mem_cons_of_mem _ (List.mem_cons_of_mem _ (List.mem_cons_self)) | exact List.mem_cons_of_mem _ (List.mem_cons_of_mem _ (List.mem_cons_of_mem _ (List.mem_cons_self))) | exact List.mem_cons_of_mem _ (List.mem_cons_of_mem _ (List.mem_cons_of_mem _ (List.mem_cons_of_mem _ (List.mem_cons_self)))) | exact List.mem_cons_of_mem _ (List.mem_cons_of_mem _ (List.mem_cons_of_mem _ (List.mem_cons_of_mem _ (List.mem_cons_of_mem _ (List.mem_cons_self))))) | exact List.mem_cons_of_mem _ (List.mem_cons_of_mem _ (List.mem_cons_of_mem _ (List.mem_cons_of_mem _ (List.mem_cons_of_mem _ (List.mem_cons_of_mem _ (List.mem_cons_self))))))) ?_); simp only [Act.put, List.setIfInBounds_toArray, List.set_cons_succ, List.set_cons_zero]) | ((with_reducible refine wpList_new H rfl _ _ rfl _ rfl rfl ?_ ?_); (focus rfl); intro w2 H; simp only [Act.put]) | (go_at_call 11; refine (refIrq_c _ _).mono ?_; rw [hr]; rintro e w1 ⟨rfl, hb⟩; replace H := H.grow hb; clear hb; dsimp only))
  generalize w1.heap.size = t4 at H ⊢
  refine RelG.wp_region_rel RelG.Grows (Own w [(t4, irqV c), (t3, irqV c), (t2, enterV c k iss far), (t1, enterV c k iss far), (w.heap.size, c)]) [.inl (.bool true), .inl (.bool true), .inl ((enterV c k iss far).val), .inl ((enterV c k iss far).val), .inl (.bool true), .inl (.bool true), .inl (.bool true), .inl (vI 1), .inl (.bool false), .inl (.bool false), .inl (.bool true), .inl (.bool true), .inl (.bool true), .inl (.bool false), .inl (.bool false), .inl (vI 1), .inl (.bool true), .inl (.bool true), .inl (.bool true), .inl (.bool true), .inl ((irqV c).val), .inl ((irqV c).val), .inl (.bool true), .inl (.bool true), .inl (.bool true), .inl (vI 1), .inl (.bool false), .inl (.bool false), .inl (.bool true), .inl (.bool true), .inl (.bool true), .inl (.bool false), .inl (.bool false), .inl (vI 1), .inl (.bool true), .inl (.bool true), .inl (.bool true), .inl (.bool true), .inl (c.val), .inl (vU (pstV c)), .inl (c.val), .inl (vU (pstV c)), .inl (.bool true), .inl (.bool true), .inl (.bool true)] (by kernel_rfl) (by kernel_rfl) RelG.grows_refl (fun _ _ h hb => h.grow hb) (H.grow ⟨rfl, rfl, rfl, Nat.le_refl _, fun _ _ => rfl⟩) (by simp [RelG.upK]) ?_
  refine ⟨fun w3 hC _ => RelG.uponG_yes rfl ((by go_simp; first | exact RelG.grows_refl _ | exact ⟨RelG.grows_refl _, rfl⟩)), ?_⟩
  simp only [Act.put, List.setIfInBounds_toArray, List.set_cons_succ, List.set_cons_zero]
  refine ⟨fun w3 hC _ => RelG.uponG_yes rfl ((by go_simp; first | exact RelG.grows_refl _ | exact ⟨RelG.grows_refl _, rfl⟩)), ?_⟩
  simp only [Act.put, List.setIfInBounds_toArray, List.set_cons_succ, List.set_cons_zero]
  refine ⟨fun w3 hC _ => RelG.uponG_yes rfl (relg_all hC _ rfl rfl (List.mem_cons_of_mem _ (List.mem_cons_of_mem _ (List.mem_cons_of_mem _ (List.mem_cons_self))))), ?_⟩
  simp only [Act.put, List.setIfInBounds_toArray, List.set_cons_succ, List.set_cons_zero]
  refine ⟨fun w3 hC _ => RelG.uponG_yes rfl (relg_all hC _ rfl rfl (List.mem_cons_of_mem _ (List.mem_cons_of_mem _ (List.mem_cons_self)))), ?_⟩
  simp only [Act.put, List.setIfInBounds_toArray, List.set_cons_succ, List.set_cons_zero]
  refine ⟨fun w3 hC _ => RelG.uponG_yes rfl (relg_eql _ _ rfl rfl rfl), ?_⟩
  simp only [Act.put, List.setIfInBounds_toArray, List.set_cons_succ, List.set_cons_zero]
  refine ⟨fun w3 hC _ => RelG.uponG_yes rfl ((by go_simp; first | exact RelG.grows_refl _ | exact ⟨RelG.grows_refl _, rfl⟩)), ?_⟩
  simp only [Act.put, List.setIfInBounds_toArray, List.set_cons_succ, List.set_cons_zero]
  refine ⟨fun w3 hC _ => RelG.uponG_yes rfl ((by go_simp; first | exact RelG.grows_refl _ | exact ⟨RelG.grows_refl _, rfl⟩)), ?_⟩
  simp only [Act.put, List.setIfInBounds_toArray, List.set_cons_succ, List.set_cons_zero]
  refine ⟨fun w3 hC _ => RelG.uponG_yes rfl ((by go_simp; first | exact RelG.grows_refl _ | exact ⟨RelG.grows_refl _, rfl⟩)), ?_⟩
  simp only [Act.put, List.setIfInBounds_toArray, List.set_cons_succ, List.set_cons_zero]
  refine ⟨fun w3 hC _ => RelG.uponG_yes rfl ((by go_simp; first | exact RelG.grows_refl _ | exact ⟨RelG.grows_refl _, rfl⟩)), ?_⟩
  simp only [Act.put, List.setIfInBounds_toArray, List.set_cons_succ, List.set_cons_zero]
  refine ⟨fun w3 hC _ => RelG.uponG_yes rfl ((by go_simp; first | exact RelG.grows_refl _ | exact ⟨RelG.grows_refl _, rfl⟩)), ?_⟩
  simp only [Act.put, List.setIfInBounds_toArray, List.set_cons_succ, List.set_cons_zero]
  refine ⟨fun w3 hC _ => RelG.uponG_yes rfl ((by go_simp; first | exact RelG.grows_refl _ | exact ⟨RelG.grows_refl _, rfl⟩)), ?_⟩
  simp only [Act.put, List.setIfInBounds_toArray, List.set_cons_succ, List.set_cons_zero]
  refine ⟨fun w3 hC _ => RelG.uponG_yes rfl ((by go_simp; first | exact RelG.grows_refl _ | exact ⟨RelG.grows_refl _, rfl⟩)), ?_⟩
  simp only [Act.put, List.setIfInBounds_toArray, List.set_cons_succ, List.set_cons_zero]
  refine ⟨fun w3 hC _ => RelG.uponG_yes rfl ((by go_simp; first | exact RelG.grows_refl _ | exact ⟨RelG.grows_refl _, rfl⟩)), ?_⟩
  simp only [Act.put, List.setIfInBounds_toArray, List.set_cons_succ, List.set_cons_zero]
  refine ⟨fun w3 hC _ => RelG.uponG_yes rfl ((by go_simp; first | exact RelG.grows_refl _ | exact ⟨RelG.grows_refl _, rfl⟩)), ?_⟩
  simp only [Act.put, List.setIfInBounds_toArray, List.set_cons_succ, List.set_cons_zero]
  refine ⟨fun w3 hC _ => RelG.uponG_yes rfl ((by go_simp; first | exact RelG.grows_refl _ | exact ⟨RelG.grows_refl _, rfl⟩)), ?_⟩
  simp only [Act.put, List.setIfInBounds_toArray, List.set_cons_succ, List.set_cons_zero]
  refine ⟨fun w3 hC _ => RelG.uponG_yes rfl ((by go_simp; first | exact RelG.grows_refl _ | exact ⟨RelG.grows_refl _, rfl⟩)), ?_⟩
  simp only [Act.put, List.setIfInBounds_toArray, List.set_cons_succ, List.set_cons_zero]
  refine ⟨fun w3 hC _ => RelG.uponG_yes rfl ((by go_simp; first | exact RelG.grows_refl _ | exact ⟨RelG.grows_refl _, rfl⟩)), ?_⟩
  simp only [Act.put, List.setIfInBounds_toArray, List.set_cons_succ, List.set_cons_zero]
  refine ⟨fun w3 hC _ => RelG.uponG_yes rfl ((by go_simp; first | exact RelG.grows_refl _ | exact ⟨RelG.grows_refl _, rfl⟩)), ?_⟩
  simp only [Act.put, List.setIfInBounds_toArray, List.set_cons_succ, List.set_cons_zero]
  refine ⟨fun w3 hC _ => RelG.uponG_yes rfl ((by go_simp; first | exact RelG.grows_refl _ | exact ⟨RelG.grows_refl _, rfl⟩)), ?_⟩
  simp only [Act.put, List.setIfInBounds_toArray, List.set_cons_succ, List.set_cons_zero]
  refine ⟨fun w3 hC _ => RelG.uponG_yes rfl ((by go_simp; first | exact RelG.grows_refl _ | exact ⟨RelG.grows_refl _, rfl⟩)), ?_⟩
  simp only [Act.put, List.setIfInBounds_toArray, List.set_cons_succ, List.set_cons_zero]
  refine ⟨fun w3 hC _ => RelG.uponG_yes rfl (relg_all hC _ rfl rfl (List.mem_cons_of_mem _ (List.mem_cons_self))), ?_⟩
  simp only [Act.put, List.setIfInBounds_toArray, List.set_cons_succ, List.set_cons_zero]
  refine ⟨fun w3 hC _ => RelG.uponG_yes rfl (relg_all hC _ rfl rfl (List.mem_cons_self)), ?_⟩
  simp only [Act.put, List.setIfInBounds_toArray, List.set_cons_succ, List.set_cons_zero]
  refine ⟨fun w3 hC _ => RelG.uponG_yes rfl (relg_eql _ _ rfl rfl rfl), ?_⟩
  simp only [Act.put, List.setIfInBounds_toArray, List.set_cons_succ, List.set_cons_zero]
  refine ⟨fun w3 hC _ => RelG.uponG_yes rfl ((by go_simp; first | exact RelG.grows_refl _ | exact ⟨RelG.grows_refl _, rfl⟩)), ?_⟩
  simp only [Act.put, List.setIfInBounds_toArray, List.set_cons_succ, List.set_cons_zero]
  refine ⟨fun w3 hC _ => RelG.uponG_yes rfl ((by go_simp; first | exact RelG.grows_refl _ | exact ⟨RelG.grows_refl _, rfl⟩)), ?_⟩
  simp only [Act.put, List.setIfInBounds_toArray, List.set_cons_succ, List.set_cons_zero]
  refine ⟨fun w3 hC _ => RelG.uponG_yes rfl ((by go_simp; first | exact RelG.grows_refl _ | exact ⟨RelG.grows_refl _, rfl⟩)), ?_⟩
  simp only [Act.put, List.setIfInBounds_toArray, List.set_cons_succ, List.set_cons_zero]
  refine ⟨fun w3 hC _ => RelG.uponG_yes rfl ((by go_simp; first | exact RelG.grows_refl _ | exact ⟨RelG.grows_refl _, rfl⟩)), ?_⟩
  simp only [Act.put, List.setIfInBounds_toArray, List.set_cons_succ, List.set_cons_zero]
  refine ⟨fun w3 hC _ => RelG.uponG_yes rfl ((by go_simp; first | exact RelG.grows_refl _ | exact ⟨RelG.grows_refl _, rfl⟩)), ?_⟩
  simp only [Act.put, List.setIfInBounds_toArray, List.set_cons_succ, List.set_cons_zero]
  refine ⟨fun w3 hC _ => RelG.uponG_yes rfl ((by go_simp; first | exact RelG.grows_refl _ | exact ⟨RelG.grows_refl _, rfl⟩)), ?_⟩
  simp only [Act.put, List.setIfInBounds_toArray, List.set_cons_succ, List.set_cons_zero]
  refine ⟨fun w3 hC _ => RelG.uponG_yes rfl ((by go_simp; first | exact RelG.grows_refl _ | exact ⟨RelG.grows_refl _, rfl⟩)), ?_⟩
  simp only [Act.put, List.setIfInBounds_toArray, List.set_cons_succ, List.set_cons_zero]
  refine ⟨fun w3 hC _ => RelG.uponG_yes rfl ((by go_simp; first | exact RelG.grows_refl _ | exact ⟨RelG.grows_refl _, rfl⟩)), ?_⟩
  simp only [Act.put, List.setIfInBounds_toArray, List.set_cons_succ, List.set_cons_zero]
  refine ⟨fun w3 hC _ => RelG.uponG_yes rfl ((by go_simp; first | exact RelG.grows_refl _ | exact ⟨RelG.grows_refl _, rfl⟩)), ?_⟩
  simp only [Act.put, List.setIfInBounds_toArray, List.set_cons_succ, List.set_cons_zero]
  refine ⟨fun w3 hC _ => RelG.uponG_yes rfl ((by go_simp; first | exact RelG.grows_refl _ | exact ⟨RelG.grows_refl _, rfl⟩)), ?_⟩
  simp only [Act.put, List.setIfInBounds_toArray, List.set_cons_succ, List.set_cons_zero]
  refine ⟨fun w3 hC _ => RelG.uponG_yes rfl ((by go_simp; first | exact RelG.grows_refl _ | exact ⟨RelG.grows_refl _, rfl⟩)), ?_⟩
  simp only [Act.put, List.setIfInBounds_toArray, List.set_cons_succ, List.set_cons_zero]
  refine ⟨fun w3 hC _ => RelG.uponG_yes rfl ((by go_simp; first | exact RelG.grows_refl _ | exact ⟨RelG.grows_refl _, rfl⟩)), ?_⟩
  simp only [Act.put, List.setIfInBounds_toArray, List.set_cons_succ, List.set_cons_zero]
  refine ⟨fun w3 hC _ => RelG.uponG_yes rfl ((by go_simp; first | exact RelG.grows_refl _ | exact ⟨RelG.grows_refl _, rfl⟩)), ?_⟩
  simp only [Act.put, List.setIfInBounds_toArray, List.set_cons_succ, List.set_cons_zero]
  refine ⟨fun w3 hC _ => RelG.uponG_yes rfl ((by go_simp; first | exact RelG.grows_refl _ | exact ⟨RelG.grows_refl _, rfl⟩)), ?_⟩
  simp only [Act.put, List.setIfInBounds_toArray, List.set_cons_succ, List.set_cons_zero]
  refine ⟨fun w3 hC _ => RelG.uponG_yes rfl ((by go_simp; first | exact RelG.grows_refl _ | exact ⟨RelG.grows_refl _, rfl⟩)), ?_⟩
  simp only [Act.put, List.setIfInBounds_toArray, List.set_cons_succ, List.set_cons_zero]
  refine ⟨fun w3 hC _ => RelG.uponG_yes rfl (relg_all hC _ rfl rfl (List.mem_cons_of_mem _ (List.mem_cons_of_mem _ (List.mem_cons_of_mem _ (List.mem_cons_of_mem _ (List.mem_cons_self)))))), ?_⟩
  simp only [Act.put, List.setIfInBounds_toArray, List.set_cons_succ, List.set_cons_zero]
  refine ⟨fun w3 hC _ => RelG.uponG_yes rfl (by go_simp; refine (Pstate_c c _).mono ?_; rintro e w2 ⟨rfl, hb⟩; exact ⟨rfl, hb⟩), ?_⟩
  simp only [Act.put, List.setIfInBounds_toArray, List.set_cons_succ, List.set_cons_zero]
  refine ⟨fun w3 hC _ => RelG.uponG_yes rfl (relg_all hC _ rfl rfl (List.mem_cons_of_mem _ (List.mem_cons_of_mem _ (List.mem_cons_of_mem _ (List.mem_cons_of_mem _ (List.mem_cons_self)))))), ?_⟩
  simp only [Act.put, List.setIfInBounds_toArray, List.set_cons_succ, List.set_cons_zero]
  refine ⟨fun w3 hC _ => RelG.uponG_yes rfl (by go_simp; refine (refPstate_c c _).mono ?_; rintro e w2 ⟨rfl, hb⟩; exact ⟨rfl, hb⟩), ?_⟩
  simp only [Act.put, List.setIfInBounds_toArray, List.set_cons_succ, List.set_cons_zero]
  refine ⟨fun w3 hC _ => RelG.uponG_yes rfl ((by go_simp; first | exact RelG.grows_refl _ | exact ⟨RelG.grows_refl _, rfl⟩)), ?_⟩
  simp only [Act.put, List.setIfInBounds_toArray, List.set_cons_succ, List.set_cons_zero]
  refine ⟨fun w3 hC _ => RelG.uponG_yes rfl ((by go_simp; first | exact RelG.grows_refl _ | exact ⟨RelG.grows_refl _, rfl⟩)), ?_⟩
  simp only [Act.put, List.setIfInBounds_toArray, List.set_cons_succ, List.set_cons_zero]
  refine ⟨fun w3 hC _ => RelG.uponG_yes rfl ((by go_simp; first | exact RelG.grows_refl _ | exact ⟨RelG.grows_refl _, rfl⟩)), ?_⟩
  simp only [Act.put, List.setIfInBounds_toArray, List.set_cons_succ, List.set_cons_zero]
  clear H
  intro w4 H _
  go_wp2
  go_ret
  exact ⟨rfl, H.below⟩
set_option maxRecDepth 4000 in
set_option maxHeartbeats 8000000 in
theorem walk_ft (c : Cor) (k iss far : Int) (hE : entB c k iss = false) (hr : rightC c = true) (w : World) :
    Calls Try.prog 3 #[c.val, vI k, vI iss, vU far] w fun e w' => e = .returned (.bool true) ∧ Below w.heap.size w w' := by
  go_enter Try.func3, Try.ntmps3
  go_upto_region 1 with fail
  have H := own_one c w
  generalize w.alloc (.cells c.cells 26) = w1 at H ⊢
  go_upto_region 3 with (first | ((with_reducible refine wpList_all H rfl _ rfl rfl (by first | exact List.mem_cons_self | exact List.mem_cons_of_mem _ (List.mem_cons_self) | exact List.mem_cons_of_mem _ (List.mem_cons_of_mem _ (List.mem_cons_self)) | exact List.mem_cons_of_mem _ (List.mem_cons_of_mem _ (List.mem_cons_of_mem _ (List.mem_cons_self))) | exact List.mem_cons_of_mem _ (List.mem_cons_of_mem _ (List.mem_cons_of_mem _ (List.mem_cons_of_mem _ (List.mem_cons_self)))) | exact List.mem_cons_of_mem _ (List.mem_cons_of_mem _ (List.mem_cons_of_mem _ (List.mem_cons_of_mem _ (List.mem_cons_of_mem _ (List.mem_cons_self))))) | exact List.mem_cons_of_mem _ (List.mem_cons_of_mem _ (List.mem_cons_of_mem _ (List.mem_cons_of_mem _ (List.mem_cons_of_mem _ (List.mem_cons_of_mem _ (List.mem_cons_self))))))) ?_); simp only [Act.put, List.setIfInBounds_toArray, List.set_cons_succ, List.set_cons_zero]) | ((with_reducible refine wpList_new H rfl _ _ rfl _ rfl rfl ?_ ?_); (focus rfl); intro w2 H; simp only [Act.put]) | (go_at_call 7; refine (examples_c _).mono ?_; rintro e w1 ⟨rfl, hb⟩; replace H := H.grow hb; clear hb; dsimp only) | (go_at_call 8; refine (Enter_c _ _ _ _ _).mono ?_; rw [hE]; rintro e w1 ⟨rfl, hb⟩; replace H := H.grow hb; clear hb; dsimp only))
  generalize w1.heap.size = t1 at H ⊢
  go_upto_region 4 with (first | ((with_reducible refine wpList_all H rfl _ rfl rfl (by first | exact List.mem_cons_self | exact List.mem_cons_of_mem _ (List.mem_cons_self) | exact List.mem_cons_of_mem _ (List.mem_cons_of_mem _ (List.mem_cons_self)) | exact List.mem_cons_of_mem _ (List.mem_cons_of_mem _ (List.mem_cons_of_mem _ (List.mem_cons_self))) | exact List.mem_cons_of_mem _ (List.mem_cons_of_mem _ (List.mem_cons_of_mem _ (List.mem_cons_of_mem _ (List.mem_cons_self)))) | exact List.mem_cons_of_mem _ (List.mem_cons_of_mem _ (List.mem_cons_of_mem _ (List.mem_cons_of_mem _ (List.mem_cons_of_mem _ (List.mem_cons_self))))) | exact List.mem_cons_of_mem _ (List.mem_cons_of_mem _ (List.mem_cons_of_mem _ (List.mem_cons_of_mem _ (List.mem_cons_of_mem _ (List.mem_cons_of_mem _ (List.mem_cons_self))))))) ?_); simp only [Act.put, List.setIfInBounds_toArray, List.set_cons_succ, List.set_cons_zero]) | ((with_reducible refine wpList_new H rfl _ _ rfl _ rfl rfl ?_ ?_); (focus rfl); intro w2 H; simp only [Act.put]) | (go_at_call 9; refine (refEnter_c _ _ _ _ _).mono ?_; rw [hE]; rintro e w1 ⟨rfl, hb⟩; replace H := H.grow hb; clear hb; dsimp only))
  generalize w1.heap.size = t2 at H ⊢
  go_upto_region 5 with (first | ((with_reducible refine wpList_all H rfl _ rfl rfl (by first | exact List.mem_cons_self | exact List.mem_cons_of_mem _ (List.mem_cons_self) | exact List.mem_cons_of_mem _ (List.mem_cons_of_mem _ (List.mem_cons_self)) | exact List.mem_cons_of_mem _ (List.mem_cons_of_mem _ (List.mem_cons_of_mem _ (List.mem_cons_self))) | exact List.mem_cons_of_mem _ (List.mem_cons_of_mem _ (List.mem_cons_of_mem _ (List.mem_cons_of_mem _ (List.mem_cons_self)))) | exact List.mem_cons_of_mem _ (List.mem_cons_of_mem _ (List.mem_cons_of_mem _ (List.mem_cons_of_mem _ (List.mem_cons_of_mem _ (List.mem_cons_self))))) | exact List.mem_cons_of_mem _ (List.mem_cons_of_mem _ (List.mem_cons_of_mem _ (List.mem_cons_of_mem _ (List.mem_cons_of_mem _ (List.mem_cons_of_mem _ (List.mem_cons_self))))))) ?_); simp only [Act.put, List.setIfInBounds_toArray, List.set_cons_succ, List.set_cons_zero]) | ((with_reducible refine wpList_new H rfl _ _ rfl _ rfl rfl ?_ ?_); (focus rfl); intro w2 H; simp only [Act.put]) | (go_at_call 10; refine (Irq_c _ _).mono ?_; rw [hr]; rintro e w1 ⟨rfl, hb⟩; replace H := H.grow hb; clear hb; dsimp only))
  generalize w1.heap.size = t3 at H ⊢
  go_upto_region 6 with (first | ((with_reducible refine wpList_all H rfl _ rfl rfl (by first | exact List.mem_cons_self | exact List.mem_cons_of_mem _ (List.mem_cons_self) | exact List.mem_cons_of_mem _ (List.mem_cons_of_mem _ (List.mem_cons_self)) | exact List.mem_cons_of_mem _ (List.mem_cons_of_mem _ (List.mem_cons_of_mem _ (List.mem_cons_self))) | exact List.mem_cons_of_mem _ (List.mem_cons_of_mem _ (List.mem_cons_of_mem _ (List.mem_cons_of_mem _ (List.mem_cons_self)))) | exact List.mem_cons_of_mem _ (List.mem_cons_of_mem _ (List.mem_cons_of_mem _ (List.mem_cons_of_mem _ (List.mem_cons_of_mem _ (List.mem_cons_self))))) | exact List.mem_cons_of_mem _ (List.mem_cons_of_mem _ (List.mem_cons_of_mem _ (List.mem_cons_of_mem _ (List.mem_cons_of_mem _ (List.mem_cons_of_mem _ (List.mem_cons_self))))))) ?_); simp only [Act.put, List.setIfInBounds_toArray, List.set_cons_succ, List.set_cons_zero]) | ((with_reducible refine wpList_new H rfl _ _ rfl _ rfl rfl ?_ ?_); (focus rfl); intro w2 H; simp only [Act.put]) | (go_at_call 11; refine (refIrq_c _ _).mono ?_; rw [hr]; rintro e w1 ⟨rfl, hb⟩; replace H := H.grow hb; clear hb; dsimp only))
  generalize w1.heap.size = t4 at H ⊢
  refine RelG.wp_region_rel RelG.Grows (Own w [(t4, irqV c), (t3, irqV c), (t2, enterV c k iss far), (t1, enterV c k iss far), (w.heap.size, c)]) [.inl (.bool true), .inl (.bool true), .inl ((enterV c k iss far).val), .inl ((enterV c k iss far).val), .inl (.bool true), .inl (.bool true), .inl (.bool true), .inl (vI 1), .inl (.bool false), .inl (.bool false), .inl (.bool true), .inl (.bool true), .inl (.bool true), .inl (.bool false), .inl (.bool false), .inl (vI 1), .inl (.bool true), .inl (.bool true), .inl (.bool true), .inl (.bool true), .inl ((irqV c).val), .inl ((irqV c).val), .inl (.bool true), .inl (.bool true), .inl (.bool true), .inl (vI 0), .inl (.bool true), .inl (.bool true), .inl (.bool true), .inl (.bool true), .inl (.bool true), .inl (.bool true), .inl (.bool true), .inl (undef), .inl (undef), .inl (.bool true), .inl (.bool true), .inl (.bool true), .inl (c.val), .inl (vU (pstV c)), .inl (c.val), .inl (vU (pstV c)), .inl (.bool true), .inl (.bool true), .inl (.bool true)] (by kernel_rfl) (by kernel_rfl) RelG.grows_refl (fun _ _ h hb => h.grow hb) (H.grow ⟨rfl, rfl, rfl, Nat.le_refl _, fun _ _ => rfl⟩) (by simp [RelG.upK]) ?_
  refine ⟨fun w3 hC _ => RelG.uponG_yes rfl ((by go_simp; first | exact RelG.grows_refl _ | exact ⟨RelG.grows_refl _, rfl⟩)), ?_⟩
  simp only [Act.put, List.setIfInBounds_toArray, List.set_cons_succ, List.set_cons_zero]
  refine ⟨fun w3 hC _ => RelG.uponG_yes rfl ((by go_simp; first | exact RelG.grows_refl _ | exact ⟨RelG.grows_refl _, rfl⟩)), ?_⟩
  simp only [Act.put, List.setIfInBounds_toArray, List.set_cons_succ, List.set_cons_zero]
  refine ⟨fun w3 hC _ => RelG.uponG_yes rfl (relg_all hC _ rfl rfl (List.mem_cons_of_mem _ (List.mem_cons_of_mem _ (List.mem_cons_of_mem _ (List.mem_cons_self))))), ?_⟩
  simp only [Act.put, List.setIfInBounds_toArray, List.set_cons_succ, List.set_cons_zero]
  refine ⟨fun w3 hC _ => RelG.uponG_yes rfl (relg_all hC _ rfl rfl (List.mem_cons_of_mem _ (List.mem_cons_of_mem _ (List.mem_cons_self)))), ?_⟩
  simp only [Act.put, List.setIfInBounds_toArray, List.set_cons_succ, List.set_cons_zero]
  refine ⟨fun w3 hC _ => RelG.uponG_yes rfl (relg_eql _ _ rfl rfl rfl), ?_⟩
  simp only [Act.put, List.setIfInBounds_toArray, List.set_cons_succ, List.set_cons_zero]
  refine ⟨fun w3 hC _ => RelG.uponG_yes rfl ((by go_simp; first | exact RelG.grows_refl _ | exact ⟨RelG.grows_refl _, rfl⟩)), ?_⟩
  simp only [Act.put, List.setIfInBounds_toArray, List.set_cons_succ, List.set_cons_zero]
  refine ⟨fun w3 hC _ => RelG.uponG_yes rfl ((by go_simp; first | exact RelG.grows_refl _ | exact ⟨RelG.grows_refl _, rfl⟩)), ?_⟩
  simp only [Act.put, List.setIfInBounds_toArray, List.set_cons_succ, List.set_cons_zero]
  refine ⟨fun w3 hC _ => RelG.uponG_yes rfl ((by go_simp; first | exact RelG.grows_refl _ | exact ⟨RelG.grows_refl _, rfl⟩)), ?_⟩
  simp only [Act.put, List.setIfInBounds_toArray, List.set_cons_succ, List.set_cons_zero]
  refine ⟨fun w3 hC _ => RelG.uponG_yes rfl ((by go_simp; first | exact RelG.grows_refl _ | exact ⟨RelG.grows_refl _, rfl⟩)), ?_⟩
  simp only [Act.put, List.setIfInBounds_toArray, List.set_cons_succ, List.set_cons_zero]
  refine ⟨fun w3 hC _ => RelG.uponG_yes rfl ((by go_simp; first | exact RelG.grows_refl _ | exact ⟨RelG.grows_refl _, rfl⟩)), ?_⟩
  simp only [Act.put, List.setIfInBounds_toArray, List.set_cons_succ, List.set_cons_zero]
  refine ⟨fun w3 hC _ => RelG.uponG_yes rfl ((by go_simp; first | exact RelG.grows_refl _ | exact ⟨RelG.grows_refl _, rfl⟩)), ?_⟩
  simp only [Act.put, List.setIfInBounds_toArray, List.set_cons_succ, List.set_cons_zero]
  refine ⟨fun w3 hC _ => RelG.uponG_yes rfl ((by go_simp; first | exact RelG.grows_refl _ | exact ⟨RelG.grows_refl _, rfl⟩)), ?_⟩
  simp only [Act.put, List.setIfInBounds_toArray, List.set_cons_succ, List.set_cons_zero]
  refine ⟨fun w3 hC _ => RelG.uponG_yes rfl ((by go_simp; first | exact RelG.grows_refl _ | exact ⟨RelG.grows_refl _, rfl⟩)), ?_⟩
  simp only [Act.put, List.setIfInBounds_toArray, List.set_cons_succ, List.set_cons_zero]
  refine ⟨fun w3 hC _ => RelG.uponG_yes rfl ((by go_simp; first | exact RelG.grows_refl _ | exact ⟨RelG.grows_refl _, rfl⟩)), ?_⟩
  simp only [Act.put, List.setIfInBounds_toArray, List.set_cons_succ, List.set_cons_zero]
  refine ⟨fun w3 hC _ => RelG.uponG_yes rfl ((by go_simp; first | exact RelG.grows_refl _ | exact ⟨RelG.grows_refl _, rfl⟩)), ?_⟩
  simp only [Act.put, List.setIfInBounds_toArray, List.set_cons_succ, List.set_cons_zero]
  refine ⟨fun w3 hC _ => RelG.uponG_yes rfl ((by go_simp; first | exact RelG.grows_refl _ | exact ⟨RelG.grows_refl _, rfl⟩)), ?_⟩
  simp only [Act.put, List.setIfInBounds_toArray, List.set_cons_succ, List.set_cons_zero]
  refine ⟨fun w3 hC _ => RelG.uponG_yes rfl ((by go_simp; first | exact RelG.grows_refl _ | exact ⟨RelG.grows_refl _, rfl⟩)), ?_⟩
  simp only [Act.put, List.setIfInBounds_toArray, List.set_cons_succ, List.set_cons_zero]
  refine ⟨fun w3 hC _ => RelG.uponG_yes rfl ((by go_simp; first | exact RelG.grows_refl _ | exact ⟨RelG.grows_refl _, rfl⟩)), ?_⟩
  simp only [Act.put, List.setIfInBounds_toArray, List.set_cons_succ, List.set_cons_zero]
  refine ⟨fun w3 hC _ => RelG.uponG_yes rfl ((by go_simp; first | exact RelG.grows_refl _ | exact ⟨RelG.grows_refl _, rfl⟩)), ?_⟩
  simp only [Act.put, List.setIfInBounds_toArray, List.set_cons_succ, List.set_cons_zero]
  refine ⟨fun w3 hC _ => RelG.uponG_yes rfl ((by go_simp; first | exact RelG.grows_refl _ | exact ⟨RelG.grows_refl _, rfl⟩)), ?_⟩
  simp only [Act.put, List.setIfInBounds_toArray, List.set_cons_succ, List.set_cons_zero]
  refine ⟨fun w3 hC _ => RelG.uponG_yes rfl (relg_all hC _ rfl rfl (List.mem_cons_of_mem _ (List.mem_cons_self))), ?_⟩
  simp only [Act.put, List.setIfInBounds_toArray, List.set_cons_succ, List.set_cons_zero]
  refine ⟨fun w3 hC _ => RelG.uponG_yes rfl (relg_all hC _ rfl rfl (List.mem_cons_self)), ?_⟩
  simp only [Act.put, List.setIfInBounds_toArray, List.set_cons_succ, List.set_cons_zero]
  refine ⟨fun w3 hC _ => RelG.uponG_yes rfl (relg_eql _ _ rfl rfl rfl), ?_⟩
  simp only [Act.put, List.setIfInBounds_toArray, List.set_cons_succ, List.set_cons_zero]
  refine ⟨fun w3 hC _ => RelG.uponG_yes rfl ((by go_simp; first | exact RelG.grows_refl _ | exact ⟨RelG.grows_refl _, rfl⟩)), ?_⟩
  simp only [Act.put, List.setIfInBounds_toArray, List.set_cons_succ, List.set_cons_zero]
  refine ⟨fun w3 hC _ => RelG.uponG_yes rfl ((by go_simp; first | exact RelG.grows_refl _ | exact ⟨RelG.grows_refl _, rfl⟩)), ?_⟩
  simp only [Act.put, List.setIfInBounds_toArray, List.set_cons_succ, List.set_cons_zero]
  refine ⟨fun w3 hC _ => RelG.uponG_yes rfl ((by go_simp; first | exact RelG.grows_refl _ | exact ⟨RelG.grows_refl _, rfl⟩)), ?_⟩
  simp only [Act.put, List.setIfInBounds_toArray, List.set_cons_succ, List.set_cons_zero]
  refine ⟨fun w3 hC _ => RelG.uponG_yes rfl ((by go_simp; first | exact RelG.grows_refl _ | exact ⟨RelG.grows_refl _, rfl⟩)), ?_⟩
  simp only [Act.put, List.setIfInBounds_toArray, List.set_cons_succ, List.set_cons_zero]
  refine ⟨fun w3 hC _ => RelG.uponG_yes rfl ((by go_simp; first | exact RelG.grows_refl _ | exact ⟨RelG.grows_refl _, rfl⟩)), ?_⟩
  simp only [Act.put, List.setIfInBounds_toArray, List.set_cons_succ, List.set_cons_zero]
  refine ⟨fun w3 hC _ => RelG.uponG_yes rfl ((by go_simp; first | exact RelG.grows_refl _ | exact ⟨RelG.grows_refl _, rfl⟩)), ?_⟩
  simp only [Act.put, List.setIfInBounds_toArray, List.set_cons_succ, List.set_cons_zero]
  refine ⟨fun w3 hC _ => RelG.uponG_yes rfl ((by go_simp; first | exact RelG.grows_refl _ | exact ⟨RelG.grows_refl _, rfl⟩)), ?_⟩
  simp only [Act.put, List.setIfInBounds_toArray, List.set_cons_succ, List.set_cons_zero]
  refine ⟨fun w3 hC _ => RelG.uponG_yes rfl ((by go_simp; first | exact RelG.grows_refl _ | exact ⟨RelG.grows_refl _, rfl⟩)), ?_⟩
  simp only [Act.put, List.setIfInBounds_toArray, List.set_cons_succ, List.set_cons_zero]
  refine ⟨fun w3 hC _ => RelG.uponG_yes rfl ((by go_simp; first | exact RelG.grows_refl _ | exact ⟨RelG.grows_refl _, rfl⟩)), ?_⟩
  simp only [Act.put, List.setIfInBounds_toArray, List.set_cons_succ, List.set_cons_zero]
  refine ⟨fun w3 hC _ => RelG.uponG_yes rfl ((by go_simp; first | exact RelG.grows_refl _ | exact ⟨RelG.grows_refl _, rfl⟩)), ?_⟩
  simp only [Act.put, List.setIfInBounds_toArray, List.set_cons_succ, List.set_cons_zero]
  refine ⟨fun w3 hC _ => RelG.uponG_no rfl rfl, ?_⟩
  simp only [Act.put, List.setIfInBounds_toArray, List.set_cons_succ, List.set_cons_zero]
  refine ⟨fun w3 hC _ => RelG.uponG_no rfl rfl, ?_⟩
  simp only [Act.put, List.setIfInBounds_toArray, List.set_cons_succ, List.set_cons_zero]
  refine ⟨fun w3 hC _ => RelG.uponG_yes rfl ((by go_simp; first | exact RelG.grows_refl _ | exact ⟨RelG.grows_refl _, rfl⟩)), ?_⟩
  simp only [Act.put, List.setIfInBounds_toArray, List.set_cons_succ, List.set_cons_zero]
  refine ⟨fun w3 hC _ => RelG.uponG_yes rfl ((by go_simp; first | exact RelG.grows_refl _ | exact ⟨RelG.grows_refl _, rfl⟩)), ?_⟩
  simp only [Act.put, List.setIfInBounds_toArray, List.set_cons_succ, List.set_cons_zero]
  refine ⟨fun w3 hC _ => RelG.uponG_yes rfl ((by go_simp; first | exact RelG.grows_refl _ | exact ⟨RelG.grows_refl _, rfl⟩)), ?_⟩
  simp only [Act.put, List.setIfInBounds_toArray, List.set_cons_succ, List.set_cons_zero]
  refine ⟨fun w3 hC _ => RelG.uponG_yes rfl (relg_all hC _ rfl rfl (List.mem_cons_of_mem _ (List.mem_cons_of_mem _ (List.mem_cons_of_mem _ (List.mem_cons_of_mem _ (List.mem_cons_self)))))), ?_⟩
  simp only [Act.put, List.setIfInBounds_toArray, List.set_cons_succ, List.set_cons_zero]
  refine ⟨fun w3 hC _ => RelG.uponG_yes rfl (by go_simp; refine (Pstate_c c _).mono ?_; rintro e w2 ⟨rfl, hb⟩; exact ⟨rfl, hb⟩), ?_⟩
  simp only [Act.put, List.setIfInBounds_toArray, List.set_cons_succ, List.set_cons_zero]
  refine ⟨fun w3 hC _ => RelG.uponG_yes rfl (relg_all hC _ rfl rfl (List.mem_cons_of_mem _ (List.mem_cons_of_mem _ (List.mem_cons_of_mem _ (List.mem_cons_of_mem _ (List.mem_cons_self)))))), ?_⟩
  simp only [Act.put, List.setIfInBounds_toArray, List.set_cons_succ, List.set_cons_zero]
  refine ⟨fun w3 hC _ => RelG.uponG_yes rfl (by go_simp; refine (refPstate_c c _).mono ?_; rintro e w2 ⟨rfl, hb⟩; exact ⟨rfl, hb⟩), ?_⟩
  simp only [Act.put, List.setIfInBounds_toArray, List.set_cons_succ, List.set_cons_zero]
  refine ⟨fun w3 hC _ => RelG.uponG_yes rfl ((by go_simp; first | exact RelG.grows_refl _ | exact ⟨RelG.grows_refl _, rfl⟩)), ?_⟩
  simp only [Act.put, List.setIfInBounds_toArray, List.set_cons_succ, List.set_cons_zero]
  refine ⟨fun w3 hC _ => RelG.uponG_yes rfl ((by go_simp; first | exact RelG.grows_refl _ | exact ⟨RelG.grows_refl _, rfl⟩)), ?_⟩
  simp only [Act.put, List.setIfInBounds_toArray, List.set_cons_succ, List.set_cons_zero]
  refine ⟨fun w3 hC _ => RelG.uponG_yes rfl ((by go_simp; first | exact RelG.grows_refl _ | exact ⟨RelG.grows_refl _, rfl⟩)), ?_⟩
  simp only [Act.put, List.setIfInBounds_toArray, List.set_cons_succ, List.set_cons_zero]
  clear H
  intro w4 H _
  go_wp2
  go_ret
  exact ⟨rfl, H.below⟩
set_option maxRecDepth 4000 in
set_option maxHeartbeats 8000000 in
theorem walk_tt (c : Cor) (k iss far : Int) (hE : entB c k iss = true) (hr : rightC c = true) (w : World) :
    Calls Try.prog 3 #[c.val, vI k, vI iss, vU far] w fun e w' => e = .returned (.bool true) ∧ Below w.heap.size w w' := by
  go_enter Try.func3, Try.ntmps3
  go_upto_region 1 with fail
  have H := own_one c w
  generalize w.alloc (.cells c.cells 26) = w1 at H ⊢
  go_upto_region 3 with (first | ((with_reducible refine wpList_all H rfl _ rfl rfl (by first | exact List.mem_cons_self | exact List.mem_cons_of_mem _ (List.mem_cons_self) | exact List.mem_cons_of_mem _ (List.mem_cons_of_mem _ (List.mem_cons_self)) | exact List.mem_cons_of_mem _ (List.mem_cons_of_mem _ (List.mem_cons_of_mem _ (List.mem_cons_self))) | exact List.mem_cons_of_mem _ (List.mem_cons_of_mem _ (List.mem_cons_of_mem _ (List.mem_cons_of_mem _ (List.mem_cons_self)))) | exact List.mem_cons_of_mem _ (List.mem_cons_of_mem _ (List.mem_cons_of_mem _ (List.mem_cons_of_mem _ (List.mem_cons_of_mem _ (List.mem_cons_self))))) | exact List.mem_cons_of_mem _ (List.mem_cons_of_mem _ (List.mem_cons_of_mem _ (List.mem_cons_of_mem _ (List.mem_cons_of_mem _ (List.mem_cons_of_mem _ (List.mem_cons_self))))))) ?_); simp only [Act.put, List.setIfInBounds_toArray, List.set_cons_succ, List.set_cons_zero]) | ((with_reducible refine wpList_new H rfl _ _ rfl _ rfl rfl ?_ ?_); (focus rfl); intro w2 H; simp only [Act.put]) | (go_at_call 7; refine (examples_c _).mono ?_; rintro e w1 ⟨rfl, hb⟩; replace H := H.grow hb; clear hb; dsimp only) | (go_at_call 8; refine (Enter_c _ _ _ _ _).mono ?_; rw [hE]; rintro e w1 ⟨rfl, hb⟩; replace H := H.grow hb; clear hb; dsimp only))
  generalize w1.heap.size = t1 at H ⊢
  go_upto_region 4 with (first | ((with_reducible refine wpList_all H rfl _ rfl rfl (by first | exact List.mem_cons_self | exact List.mem_cons_of_mem _ (List.mem_cons_self) | exact List.mem_cons_of_mem _ (List.mem_cons_of_mem _ (List.mem_cons_self)) | exact List.mem_cons_of_mem _ (List.mem_cons_of_mem _ (List.mem_cons_of_mem _ (List.mem_cons_self))) | exact List.mem_cons_of_mem _ (List.mem_cons_of_mem _ (List.mem_cons_of_mem _ (List.mem_cons_of_mem _ (List.mem_cons_self)))) | exact List.mem_cons_of_mem _ (List.mem_cons_of_mem _ (List.mem_cons_of_mem _ (List.mem_cons_of_mem _ (List.mem_cons_of_mem _ (List.mem_cons_self))))) | exact List.mem_cons_of_mem _ (List.mem_cons_of_mem _ (List.mem_cons_of_mem _ (List.mem_cons_of_mem _ (List.mem_cons_of_mem _ (List.mem_cons_of_mem _ (List.mem_cons_self))))))) ?_); simp only [Act.put, List.setIfInBounds_toArray, List.set_cons_succ, List.set_cons_zero]) | ((with_reducible refine wpList_new H rfl _ _ rfl _ rfl rfl ?_ ?_); (focus rfl); intro w2 H; simp only [Act.put]) | (go_at_call 9; refine (refEnter_c _ _ _ _ _).mono ?_; rw [hE]; rintro e w1 ⟨rfl, hb⟩; replace H := H.grow hb; clear hb; dsimp only))
  generalize w1.heap.size = t2 at H ⊢
  go_upto_region 5 with (first | ((with_reducible refine wpList_all H rfl _ rfl rfl (by first | exact List.mem_cons_self | exact List.mem_cons_of_mem _ (List.mem_cons_self) | exact List.mem_cons_of_mem _ (List.mem_cons_of_mem _ (List.mem_cons_self)) | exact List.mem_cons_of_mem _ (List.mem_cons_of_mem _ (List.mem_cons_of_mem _ (List.mem_cons_self))) | exact List.mem_cons_of_mem _ (List.mem_cons_of_mem _ (List.mem_cons_of_mem _ (List.mem_cons_of_mem _ (List.mem_cons_self)))) | exact List.mem_cons_of_mem _ (List.mem_cons_of_mem _ (List.mem_cons_of_mem _ (List.mem_cons_of_mem _ (List.mem_cons_of_mem _ (List.mem_cons_self))))) | exact List.mem_cons_of_mem _ (List.mem_cons_of_mem _ (List.mem_cons_of_mem _ (List.mem_cons_of_mem _ (List.mem_cons_of_mem _ (List.mem_cons_of_mem _ (List.mem_cons_self))))))) ?_); simp only [Act.put, List.setIfInBounds_toArray, List.set_cons_succ, List.set_cons_zero]) | ((with_reducible refine wpList_new H rfl _ _ rfl _ rfl rfl ?_ ?_); (focus rfl); intro w2 H; simp only [Act.put]) | (go_at_call 10; refine (Irq_c _ _).mono ?_; rw [hr]; rintro e w1 ⟨rfl, hb⟩; replace H := H.grow hb; clear hb; dsimp only))
  generalize w1.heap.size = t3 at H ⊢
  go_upto_region 6 with (first | ((with_reducible refine wpList_all H rfl _ rfl rfl (by first | exact List.mem_cons_self | exact List.mem_cons_of_mem _ (List.mem_cons_self) | exact List.mem_cons_of_mem _ (List.mem_cons_of_mem _ (List.mem_cons_self)) | exact List.mem_cons_of_mem _ (List.mem_cons_of_mem _ (List.mem_cons_of_mem _ (List.mem_cons_self))) | exact List.mem_cons_of_mem _ (List.mem_cons_of_mem _ (List.mem_cons_of_mem _ (List.mem_cons_of_mem _ (List.mem_cons_self)))) | exact List.mem_cons_of_mem _ (List.mem_cons_of_mem _ (List.mem_cons_of_mem _ (List.mem_cons_of_mem _ (List.mem_cons_of_mem _ (List.mem_cons_self))))) | exact List.mem_cons_of_mem _ (List.mem_cons_of_mem _ (List.mem_cons_of_mem _ (List.mem_cons_of_mem _ (List.mem_cons_of_mem _ (List.mem_cons_of_mem _ (List.mem_cons_self))))))) ?_); simp only [Act.put, List.setIfInBounds_toArray, List.set_cons_succ, List.set_cons_zero]) | ((with_reducible refine wpList_new H rfl _ _ rfl _ rfl rfl ?_ ?_); (focus rfl); intro w2 H; simp only [Act.put]) | (go_at_call 11; refine (refIrq_c _ _).mono ?_; rw [hr]; rintro e w1 ⟨rfl, hb⟩; replace H := H.grow hb; clear hb; dsimp only))
  generalize w1.heap.size = t4 at H ⊢
  refine RelG.wp_region_rel RelG.Grows (Own w [(t4, irqV c), (t3, irqV c), (t2, enterV c k iss far), (t1, enterV c k iss far), (w.heap.size, c)]) [.inl (.bool true), .inl (.bool true), .inl ((enterV c k iss far).val), .inl ((enterV c k iss far).val), .inl (.bool true), .inl (.bool true), .inl (.bool true), .inl (vI 0), .inl (.bool true), .inl (.bool true), .inl (.bool true), .inl (.bool true), .inl (.bool true), .inl (.bool true), .inl (.bool true), .inl (undef), .inl (undef), .inl (.bool true), .inl (.bool true), .inl (.bool true), .inl ((irqV c).val), .inl ((irqV c).val), .inl (.bool true), .inl (.bool true), .inl (.bool true), .inl (vI 0), .inl (.bool true), .inl (.bool true), .inl (.bool true), .inl (.bool true), .inl (.bool true), .inl (.bool true), .inl (.bool true), .inl (undef), .inl (undef), .inl (.bool true), .inl (.bool true), .inl (.bool true), .inl (c.val), .inl (vU (pstV c)), .inl (c.val), .inl (vU (pstV c)), .inl (.bool true), .inl (.bool true), .inl (.bool true)] (by kernel_rfl) (by kernel_rfl) RelG.grows_refl (fun _ _ h hb => h.grow hb) (H.grow ⟨rfl, rfl, rfl, Nat.le_refl _, fun _ _ => rfl⟩) (by simp [RelG.upK]) ?_
  refine ⟨fun w3 hC _ => RelG.uponG_yes rfl ((by go_simp; first | exact RelG.grows_refl _ | exact ⟨RelG.grows_refl _, rfl⟩)), ?_⟩
  simp only [Act.put, List.setIfInBounds_toArray, List.set_cons_succ, List.set_cons_zero]
  refine ⟨fun w3 hC _ => RelG.uponG_yes rfl ((by go_simp; first | exact RelG.grows_refl _ | exact ⟨RelG.grows_refl _, rfl⟩)), ?_⟩
  simp only [Act.put, List.setIfInBounds_toArray, List.set_cons_succ, List.set_cons_zero]
  refine ⟨fun w3 hC _ => RelG.uponG_yes rfl (relg_all hC _ rfl rfl (List.mem_cons_of_mem _ (List.mem_cons_of_mem _ (List.mem_cons_of_mem _ (List.mem_cons_self))))), ?_⟩
  simp only [Act.put, List.setIfInBounds_toArray, List.set_cons_succ, List.set_cons_zero]
  refine ⟨fun w3 hC _ => RelG.uponG_yes rfl (relg_all hC _ rfl rfl (List.mem_cons_of_mem _ (List.mem_cons_of_mem _ (List.mem_cons_self)))), ?_⟩
  simp only [Act.put, List.setIfInBounds_toArray, List.set_cons_succ, List.set_cons_zero]
  refine ⟨fun w3 hC _ => RelG.uponG_yes rfl (relg_eql _ _ rfl rfl rfl), ?_⟩
  simp only [Act.put, List.setIfInBounds_toArray, List.set_cons_succ, List.set_cons_zero]
  refine ⟨fun w3 hC _ => RelG.uponG_yes rfl ((by go_simp; first | exact RelG.grows_refl _ | exact ⟨RelG.grows_refl _, rfl⟩)), ?_⟩
  simp only [Act.put, List.setIfInBounds_toArray, List.set_cons_succ, List.set_cons_zero]
  refine ⟨fun w3 hC _ => RelG.uponG_yes rfl ((by go_simp; first | exact RelG.grows_refl _ | exact ⟨RelG.grows_refl _, rfl⟩)), ?_⟩
  simp only [Act.put, List.setIfInBounds_toArray, List.set_cons_succ, List.set_cons_zero]
  refine ⟨fun w3 hC _ => RelG.uponG_yes rfl ((by go_simp; first | exact RelG.grows_refl _ | exact ⟨RelG.grows_refl _, rfl⟩)), ?_⟩
  simp only [Act.put, List.setIfInBounds_toArray, List.set_cons_succ, List.set_cons_zero]
  refine ⟨fun w3 hC _ => RelG.uponG_yes rfl ((by go_simp; first | exact RelG.grows_refl _ | exact ⟨RelG.grows_refl _, rfl⟩)), ?_⟩
  simp only [Act.put, List.setIfInBounds_toArray, List.set_cons_succ, List.set_cons_zero]
  refine ⟨fun w3 hC _ => RelG.uponG_yes rfl ((by go_simp; first | exact RelG.grows_refl _ | exact ⟨RelG.grows_refl _, rfl⟩)), ?_⟩
  simp only [Act.put, List.setIfInBounds_toArray, List.set_cons_succ, List.set_cons_zero]
  refine ⟨fun w3 hC _ => RelG.uponG_yes rfl ((by go_simp; first | exact RelG.grows_refl _ | exact ⟨RelG.grows_refl _, rfl⟩)), ?_⟩
  simp only [Act.put, List.setIfInBounds_toArray, List.set_cons_succ, List.set_cons_zero]
  refine ⟨fun w3 hC _ => RelG.uponG_yes rfl ((by go_simp; first | exact RelG.grows_refl _ | exact ⟨RelG.grows_refl _, rfl⟩)), ?_⟩
  simp only [Act.put, List.setIfInBounds_toArray, List.set_cons_succ, List.set_cons_zero]
  refine ⟨fun w3 hC _ => RelG.uponG_yes rfl ((by go_simp; first | exact RelG.grows_refl _ | exact ⟨RelG.grows_refl _, rfl⟩)), ?_⟩
  simp only [Act.put, List.setIfInBounds_toArray, List.set_cons_succ, List.set_cons_zero]
  refine ⟨fun w3 hC _ => RelG.uponG_yes rfl ((by go_simp; first | exact RelG.grows_refl _ | exact ⟨RelG.grows_refl _, rfl⟩)), ?_⟩
  simp only [Act.put, List.setIfInBounds_toArray, List.set_cons_succ, List.set_cons_zero]
  refine ⟨fun w3 hC _ => RelG.uponG_yes rfl ((by go_simp; first | exact RelG.grows_refl _ | exact ⟨RelG.grows_refl _, rfl⟩)), ?_⟩
  simp only [Act.put, List.setIfInBounds_toArray, List.set_cons_succ, List.set_cons_zero]
  refine ⟨fun w3 hC _ => RelG.uponG_no rfl rfl, ?_⟩
  simp only [Act.put, List.setIfInBounds_toArray, List.set_cons_succ, List.set_cons_zero]
  refine ⟨fun w3 hC _ => RelG.uponG_no rfl rfl, ?_⟩
  simp only [Act.put, List.setIfInBounds_toArray, List.set_cons_succ, List.set_cons_zero]
  refine ⟨fun w3 hC _ => RelG.uponG_yes rfl ((by go_simp; first | exact RelG.grows_refl _ | exact ⟨RelG.grows_refl _, rfl⟩)), ?_⟩
  simp only [Act.put, List.setIfInBounds_toArray, List.set_cons_succ, List.set_cons_zero]
  refine ⟨fun w3 hC _ => RelG.uponG_yes rfl ((by go_simp; first | exact RelG.grows_refl _ | exact ⟨RelG.grows_refl _, rfl⟩)), ?_⟩
  simp only [Act.put, List.setIfInBounds_toArray, List.set_cons_succ, List.set_cons_zero]
  refine ⟨fun w3 hC _ => RelG.uponG_yes rfl ((by go_simp; first | exact RelG.grows_refl _ | exact ⟨RelG.grows_refl _, rfl⟩)), ?_⟩
  simp only [Act.put, List.setIfInBounds_toArray, List.set_cons_succ, List.set_cons_zero]
  refine ⟨fun w3 hC _ => RelG.uponG_yes rfl (relg_all hC _ rfl rfl (List.mem_cons_of_mem _ (List.mem_cons_self))), ?_⟩
  simp only [Act.put, List.setIfInBounds_toArray, List.set_cons_succ, List.set_cons_zero]
  refine ⟨fun w3 hC _ => RelG.uponG_yes rfl (relg_all hC _ rfl rfl (List.mem_cons_self)), ?_⟩
  simp only [Act.put, List.setIfInBounds_toArray, List.set_cons_succ, List.set_cons_zero]
  refine ⟨fun w3 hC _ => RelG.uponG_yes rfl (relg_eql _ _ rfl rfl rfl), ?_⟩
  simp only [Act.put, List.setIfInBounds_toArray, List.set_cons_succ, List.set_cons_zero]
  refine ⟨fun w3 hC _ => RelG.uponG_yes rfl ((by go_simp; first | exact RelG.grows_refl _ | exact ⟨RelG.grows_refl _, rfl⟩)), ?_⟩
  simp only [Act.put, List.setIfInBounds_toArray, List.set_cons_succ, List.set_cons_zero]
  refine ⟨fun w3 hC _ => RelG.uponG_yes rfl ((by go_simp; first | exact RelG.grows_refl _ | exact ⟨RelG.grows_refl _, rfl⟩)), ?_⟩
  simp only [Act.put, List.setIfInBounds_toArray, List.set_cons_succ, List.set_cons_zero]
  refine ⟨fun w3 hC _ => RelG.uponG_yes rfl ((by go_simp; first | exact RelG.grows_refl _ | exact ⟨RelG.grows_refl _, rfl⟩)), ?_⟩
  simp only [Act.put, List.setIfInBounds_toArray, List.set_cons_succ, List.set_cons_zero]
  refine ⟨fun w3 hC _ => RelG.uponG_yes rfl ((by go_simp; first | exact RelG.grows_refl _ | exact ⟨RelG.grows_refl _, rfl⟩)), ?_⟩
  simp only [Act.put, List.setIfInBounds_toArray, List.set_cons_succ, List.set_cons_zero]
  refine ⟨fun w3 hC _ => RelG.uponG_yes rfl ((by go_simp; first | exact RelG.grows_refl _ | exact ⟨RelG.grows_refl _, rfl⟩)), ?_⟩
  simp only [Act.put, List.setIfInBounds_toArray, List.set_cons_succ, List.set_cons_zero]
  refine ⟨fun w3 hC _ => RelG.uponG_yes rfl ((by go_simp; first | exact RelG.grows_refl _ | exact ⟨RelG.grows_refl _, rfl⟩)), ?_⟩
  simp only [Act.put, List.setIfInBounds_toArray, List.set_cons_succ, List.set_cons_zero]
  refine ⟨fun w3 hC _ => RelG.uponG_yes rfl ((by go_simp; first | exact RelG.grows_refl _ | exact ⟨RelG.grows_refl _, rfl⟩)), ?_⟩
  simp only [Act.put, List.setIfInBounds_toArray, List.set_cons_succ, List.set_cons_zero]
  refine ⟨fun w3 hC _ => RelG.uponG_yes rfl ((by go_simp; first | exact RelG.grows_refl _ | exact ⟨RelG.grows_refl _, rfl⟩)), ?_⟩
  simp only [Act.put, List.setIfInBounds_toArray, List.set_cons_succ, List.set_cons_zero]
  refine ⟨fun w3 hC _ => RelG.uponG_yes rfl ((by go_simp; first | exact RelG.grows_refl _ | exact ⟨RelG.grows_refl _, rfl⟩)), ?_⟩
  simp only [Act.put, List.setIfInBounds_toArray, List.set_cons_succ, List.set_cons_zero]
  refine ⟨fun w3 hC _ => RelG.uponG_yes rfl ((by go_simp; first | exact RelG.grows_refl _ | exact ⟨RelG.grows_refl _, rfl⟩)), ?_⟩
  simp only [Act.put, List.setIfInBounds_toArray, List.set_cons_succ, List.set_cons_zero]
  refine ⟨fun w3 hC _ => RelG.uponG_no rfl rfl, ?_⟩
  simp only [Act.put, List.setIfInBounds_toArray, List.set_cons_succ, List.set_cons_zero]
  refine ⟨fun w3 hC _ => RelG.uponG_no rfl rfl, ?_⟩
  simp only [Act.put, List.setIfInBounds_toArray, List.set_cons_succ, List.set_cons_zero]
  refine ⟨fun w3 hC _ => RelG.uponG_yes rfl ((by go_simp; first | exact RelG.grows_refl _ | exact ⟨RelG.grows_refl _, rfl⟩)), ?_⟩
  simp only [Act.put, List.setIfInBounds_toArray, List.set_cons_succ, List.set_cons_zero]
  refine ⟨fun w3 hC _ => RelG.uponG_yes rfl ((by go_simp; first | exact RelG.grows_refl _ | exact ⟨RelG.grows_refl _, rfl⟩)), ?_⟩
  simp only [Act.put, List.setIfInBounds_toArray, List.set_cons_succ, List.set_cons_zero]
  refine ⟨fun w3 hC _ => RelG.uponG_yes rfl ((by go_simp; first | exact RelG.grows_refl _ | exact ⟨RelG.grows_refl _, rfl⟩)), ?_⟩
  simp only [Act.put, List.setIfInBounds_toArray, List.set_cons_succ, List.set_cons_zero]
  refine ⟨fun w3 hC _ => RelG.uponG_yes rfl (relg_all hC _ rfl rfl (List.mem_cons_of_mem _ (List.mem_cons_of_mem _ (List.mem_cons_of_mem _ (List.mem_cons_of_mem _ (List.mem_cons_self)))))), ?_⟩
  simp only [Act.put, List.setIfInBounds_toArray, List.set_cons_succ, List.set_cons_zero]
  refine ⟨fun w3 hC _ => RelG.uponG_yes rfl (by go_simp; refine (Pstate_c c _).mono ?_; rintro e w2 ⟨rfl, hb⟩; exact ⟨rfl, hb⟩), ?_⟩
  simp only [Act.put, List.setIfInBounds_toArray, List.set_cons_succ, List.set_cons_zero]
  refine ⟨fun w3 hC _ => RelG.uponG_yes rfl (relg_all hC _ rfl rfl (List.mem_cons_of_mem _ (List.mem_cons_of_mem _ (List.mem_cons_of_mem _ (List.mem_cons_of_mem _ (List.mem_cons_self)))))), ?_⟩
  simp only [Act.put, List.setIfInBounds_toArray, List.set_cons_succ, List.set_cons_zero]
  refine ⟨fun w3 hC _ => RelG.uponG_yes rfl (by go_simp; refine (refPstate_c c _).mono ?_; rintro e w2 ⟨rfl, hb⟩; exact ⟨rfl, hb⟩), ?_⟩
  simp only [Act.put, List.setIfInBounds_toArray, List.set_cons_succ, List.set_cons_zero]
  refine ⟨fun w3 hC _ => RelG.uponG_yes rfl ((by go_simp; first | exact RelG.grows_refl _ | exact ⟨RelG.grows_refl _, rfl⟩)), ?_⟩
  simp only [Act.put, List.setIfInBounds_toArray, List.set_cons_succ, List.set_cons_zero]
  refine ⟨fun w3 hC _ => RelG.uponG_yes rfl ((by go_simp; first | exact RelG.grows_refl _ | exact ⟨RelG.grows_refl _, rfl⟩)), ?_⟩
  simp only [Act.put, List.setIfInBounds_toArray, List.set_cons_succ, List.set_cons_zero]
  refine ⟨fun w3 hC _ => RelG.uponG_yes rfl ((by go_simp; first | exact RelG.grows_refl _ | exact ⟨RelG.grows_refl _, rfl⟩)), ?_⟩
  simp only [Act.put, List.setIfInBounds_toArray, List.set_cons_succ, List.set_cons_zero]
  clear H
  intro w4 H _
  go_wp2
  go_ret
  exact ⟨rfl, H.below⟩
theorem walk (c : Cor) (wc : c.WF) (a1 : Int) (a2 : Int) (a3 : Int) (w1 : (Lit.int .i64 a1).wf = true) (w2 : (Lit.int .i64 a2).wf = true) (w3 : (Lit.int .u64 a3).wf = true) (w : World) :
    Calls Try.prog 3 #[c.val, .int .i64 a1, .int .i64 a2, .int .u64 a3] w fun e w' => e = .returned (.bool true) ∧ Below w.heap.size w w' := by
  cases hE : entB c a1 a2 <;> cases hr : rightC c
  · exact walk_ff c a1 a2 a3 hE hr w
  · exact walk_ft c a1 a2 a3 hE hr w
  · exact absurd hE (by simp [entB, hr])
  · exact walk_tt c a1 a2 a3 hE hr w

set_option maxRecDepth 100000 in
theorem lifted (os : Os) (started : os.Started) (H : Type) (enc : TypeId × Value → H) :
    ReturnsInHanded {} Try.checked os 3 .any (Rows.trapEntersSpec.pre6 enc Try.prog Try.f3 Rows.trapEntersRow.domain false) (Rows.trapEntersSpec.post enc Try.prog Try.f3 false true false false) := by
  refine returnsInHanded_of_change (C := Try.checked) own started (by kernel_rfl) Try.func3
    (ChangeSpec.witness6 (enc := enc) (C := Try.checked) false ⟨#[], #[nilC.val, .int .i64 0, .int .i64 0, .int .u64 0], []⟩ 8 (by kernel_rfl) (by kernel_rfl) (by kernel_rfl) (by kernel_rfl)) ?_
  intro W base args ds gs before hval0 hW hcnd _
  have hval : ∀ (j : Nat) t v, Try.f3.params[j]? = some t → args[j]? = some v → Value.okWide Try.prog W .any base t v := hval0
  have hW' := hW
  obtain ⟨p, q, hA0, hV, rfl, hfz, hnd⟩ := hW
  have hA : DataW.TrodAll enc Try.prog W 0 (fun _ => true) true Try.f3.params.toList args.toList ds p := hA0
  rw [Try.params3] at hA hval
  obtain ⟨v0, vs0, d0, ds0, p0, q0, hargs, rfl, rfl, h0, r0⟩ := trodAll_cons hA
  obtain ⟨v1, vs1, d1, ds1, p1, q1, rfl, rfl, rfl, h1, r1⟩ := trodAll_cons r0
  obtain ⟨v2, vs2, d2, ds2, p2, q2, rfl, rfl, rfl, h2, r2⟩ := trodAll_cons r1
  obtain ⟨v3, vs3, d3, ds3, p3, q3, rfl, rfl, rfl, h3, r3⟩ := trodAll_cons r2
  obtain ⟨rfl, rfl, rfl⟩ := trodAll_nil r3
  obtain rfl : args = #[v0, v1, v2, v3] := by cases args; simp_all
  obtain ⟨rfl, rfl⟩ := trodVars_none hV
  obtain ⟨c, rfl, wc⟩ := open_core (hval 0 26 v0 rfl rfl) h0
  obtain rfl := (Trod_flat (w' := W) (b' := 0) (s' := fun _ => true) (h' := true) flat26 h0).1
  obtain ⟨a1, rfl, rfl, rfl, w1⟩ := open_int Try.underlying3 (hval 1 3 v1 rfl rfl) h1
  obtain ⟨a2, rfl, rfl, rfl, w2⟩ := open_int Try.underlying3 (hval 2 3 v2 rfl rfl) h2
  obtain ⟨a3, rfl, rfl, rfl, w3⟩ := open_int Try.underlying22 (hval 3 22 v3 rfl rfl) h3
  clear hA0 hval0
  simp only [List.append_nil] at hW'
  refine (walk c wc a1 a2 a3 w1 w2 w3 W).mono fun e W' ⟨he, hb⟩ => ?_
  subst he
  exact ⟨_, rfl, post_flat hW' (fun _ _ _ => (trodAll_cons_mk (shut_bool Try.underlying4 _) trodAll_mk0)) (fun sp => (trodAll_cons_mk (Trod_flat flat26 h0 |>.2) (trodAll_cons_mk (shut_int Try.underlying3 w1) (trodAll_cons_mk (shut_int Try.underlying3 w2) (trodAll_cons_mk (shut_int Try.underlying22 w3) trodAll_mk0))))) (fun _ => rfl) (fun may => hb.frame may) (ok_one (by kernel_rfl) rfl (okWide_bool_mk Try.underlying4 _))⟩

theorem over : Rows.trapEntersRow.holds Try.pinned (OpenSpec.ofChange Rows.trapEntersSpec) :=
  OpenClaim.holds_of_wide 3 Try.f3 rfl rfl rfl rfl rfl rfl rfl ⟨rfl, rfl, rfl, rfl, rfl⟩ rfl rfl rfl rfl rfl (by kernel_rfl) Try.func3 (by kernel_rfl)
    (of_decide_eq_true (by kernel_rfl)) (by unfold Func.isWrapper; first | (rw [if_pos (by decide +kernel)]; kernel_rfl) | (rw [if_neg (by decide +kernel)]; exact ⟨rfl, rfl⟩))
    (fun os started H enc _ => lifted os started H enc)

theorem proved : Rows.TrapEntersSaid :=
  over
end Go.Proofs.Ytdlnmjlgfjlmkaa.trapEnters

namespace Go.Proofs.Ytdlnmjlgfjlmkaa
theorem trapEnters_holds : Rows.TrapEntersSaid := trapEnters.proved
#print axioms trapEnters_holds
end Go.Proofs.Ytdlnmjlgfjlmkaa
