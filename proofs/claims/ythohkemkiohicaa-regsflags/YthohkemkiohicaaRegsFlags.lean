/- For every state, every number and every number of a condition: Nzcv, SetNzcv and Holds of package regs tell and make what the document's own answer does: RegsFlags returns true, whatever its arguments. -/
import Derived.Test.YthohkemkiohicaaOpen
import Derived.Test.YthohkemkiohicaaRel
namespace Go.Proofs.Ythohkemkiohicaa.regsFlags
open Go.ChangeShapes Go.WideShapes Go.ChangeAt Go.RowKit
set_option linter.unusedVariables false

open Go.RelG
theorem rel_load_core {o : Oper} {a : Act} {w : World} {c : Cor} (x : Operand) (ho : o.op = .load 26 x) (g : Nat) (hx : a.eval x = .pointer (some ⟨g, 0, none⟩)) (hg : w.heap[g]? = some (.cells c.cells 26)) :
    relUpon Try.prog Grows (fun v _ => v = c.val) w ((execOp a.eval o).run Try.prog w) := by
  unfold execOp
  simp only [ho, hx, Instr.loadAt, Instr.sureAddr, Sem.run_bind, Sem.run_pure, Result.andThen_ok, run_loadVar_row w g 26 26 c.cells (0, 0) _ hg Try.underlying26 rfl c.info]
  exact ⟨grows_refl w, rfl⟩
theorem rel_eql_core {o : Oper} {a : Act} {w : World} (x y : Operand) (ho : o.op = .binOp .eql 26 x y 26) (c d : Cor) (hx : a.eval x = .agg c.cells) (hy : a.eval y = .agg d.cells) {b : Bool} (hb : eqC c d = b) :
    relUpon Try.prog Grows (fun v _ => v = .bool b) w ((execOp a.eval o).run Try.prog w) := by
  have he := core_eq c d w
  rw [hb] at he
  unfold execOp
  simp only [ho, hx, hy, Sem.run_bind, run_eqGuard_agg w _ _ _ _ _ _ guard26, Result.andThen_ok, run_eql_struct, he]
  exact ⟨grows_refl w, rfl⟩
set_option maxRecDepth 4000 in
set_option maxHeartbeats 4000000 in
theorem walk (c : Cor) (wc : c.WF) (a1 : Int) (a2 : Int) (w1 : (Lit.int .u64 a1).wf = true) (w2 : (Lit.int .i64 a2).wf = true) (w : World) :
    Calls Try.prog 4 #[c.val, .int .u64 a1, .int .i64 a2] w fun e w' => e = .returned (.bool true) ∧ Below w.heap.size w w' := by
  have hv : Hid (U64 a1) := u64_of w1
  clear w1 w2
  cases hb : condB a2 with
  | false =>
    have e1 : condE a2 = 1 := by simp [condE, hb]
    go_enter Try.func4, Try.ntmps4
    go_upto_region 1 with fail
    have H := has_start c w
    generalize w.alloc (.cells c.cells 26) = w1 at H ⊢
    go_upto_region 4 with (first | (with_reducible refine wpList_load_if rfl 26 _ rfl _ rfl 26 _ (0, 0) _ (H.get (by first | exact List.mem_cons_self | exact List.mem_cons_of_mem _ (List.mem_cons_self) | exact List.mem_cons_of_mem _ (List.mem_cons_of_mem _ (List.mem_cons_self)) | exact List.mem_cons_of_mem _ (List.mem_cons_of_mem _ (List.mem_cons_of_mem _ (List.mem_cons_self))) | exact List.mem_cons_of_mem _ (List.mem_cons_of_mem _ (List.mem_cons_of_mem _ (List.mem_cons_of_mem _ (List.mem_cons_self)))) | exact List.mem_cons_of_mem _ (List.mem_cons_of_mem _ (List.mem_cons_of_mem _ (List.mem_cons_of_mem _ (List.mem_cons_of_mem _ (List.mem_cons_self))))) | exact List.mem_cons_of_mem _ (List.mem_cons_of_mem _ (List.mem_cons_of_mem _ (List.mem_cons_of_mem _ (List.mem_cons_of_mem _ (List.mem_cons_of_mem _ (List.mem_cons_self)))))) | exact List.mem_cons_of_mem _ (List.mem_cons_of_mem _ (List.mem_cons_of_mem _ (List.mem_cons_of_mem _ (List.mem_cons_of_mem _ (List.mem_cons_of_mem _ (List.mem_cons_of_mem _ (List.mem_cons_self))))))))) Try.underlying26 rfl (Cor.info _) ?_; simp only [Act.put, List.setIfInBounds_toArray, List.set_cons_succ, List.set_cons_zero]) | (go_at_call 9; refine (examples_c _).mono ?_; rintro e w1 ⟨rfl, hb⟩; replace H := H.grow hb; clear hb; dsimp only) | (go_at_call 19; refine (Holds_c _ _ _).mono ?_; rintro e w1 ⟨rfl, hb⟩; replace H := H.grow hb; clear hb; dsimp only) | (go_at_call 20; refine (refHolds_c _ _ _).mono ?_; rintro e w1 ⟨rfl, hb⟩; replace H := H.grow hb; clear hb; dsimp only))
    refine wp_region_rel Grows (fun x => Has w [(w.heap.size, c)] x) [.inl (.bool true), .inl (.bool true), .inl c.val, .inl (vU (nzcvV c)), .inl c.val, .inl (vU (nzcvV c)), .inl (.bool true), .inl (.bool true), .inl (.bool true), .inl c.val, .inl (vU a1), .inl (setNzcvV c a1).val, .inl c.val, .inl (vU a1), .inl (setNzcvV c a1).val, .inl (.bool true), .inl (.bool true), .inl (.bool true), .inl (.bool (holdsV c a2)), .inl (.bool (holdsV c a2)), .inl (.bool true), .inl (.bool true), .inl (.bool true), .inl (vI 1), .inl (.bool false), .inl (.bool false), .inl (.bool true), .inl (.bool true), .inl (.bool true), .inl (.bool false), .inl (.bool false), .inl (vI 1), .inl (.bool true), .inl (.bool true), .inl (.bool true), .inl (.bool true)] (by kernel_rfl) (by kernel_rfl) grows_refl (fun _ _ h hb => h.grow hb) ⟨⟨H.below.os, H.below.tape, H.below.output, H.below.size, H.below.block⟩, H.box⟩ (by simp [upK]) ?_
    refine ⟨fun w3 hC _ => uponG_yes rfl (by go_simp; exact grows_refl _), ?_⟩
    simp only [Act.put, List.setIfInBounds_toArray, List.set_cons_succ, List.set_cons_zero]
    refine ⟨fun w3 hC _ => uponG_yes rfl (by go_simp; exact grows_refl _), ?_⟩
    simp only [Act.put, List.setIfInBounds_toArray, List.set_cons_succ, List.set_cons_zero]
    refine ⟨fun w3 hC _ => uponG_yes rfl (rel_load_core _ rfl w.heap.size rfl (hC.get List.mem_cons_self)), ?_⟩
    simp only [Act.put, List.setIfInBounds_toArray, List.set_cons_succ, List.set_cons_zero]
    refine ⟨fun w3 hC _ => uponG_yes rfl ?_, ?_⟩
    · go_simp
      refine (Nzcv_c _ _).mono ?_
      rintro e w4 ⟨rfl, hb⟩
      exact ⟨rfl, hb⟩
    simp only [Act.put, List.setIfInBounds_toArray, List.set_cons_succ, List.set_cons_zero]
    refine ⟨fun w3 hC _ => uponG_yes rfl (rel_load_core _ rfl w.heap.size rfl (hC.get List.mem_cons_self)), ?_⟩
    simp only [Act.put, List.setIfInBounds_toArray, List.set_cons_succ, List.set_cons_zero]
    refine ⟨fun w3 hC _ => uponG_yes rfl ?_, ?_⟩
    · go_simp
      refine (refNzcv_c _ _).mono ?_
      rintro e w4 ⟨rfl, hb⟩
      exact ⟨rfl, hb⟩
    simp only [Act.put, List.setIfInBounds_toArray, List.set_cons_succ, List.set_cons_zero]
    refine ⟨fun w3 hC _ => uponG_yes rfl (by go_simp; exact grows_refl _), ?_⟩
    simp only [Act.put, List.setIfInBounds_toArray, List.set_cons_succ, List.set_cons_zero]
    refine ⟨fun w3 hC _ => uponG_yes rfl (by go_simp; exact grows_refl _), ?_⟩
    simp only [Act.put, List.setIfInBounds_toArray, List.set_cons_succ, List.set_cons_zero]
    refine ⟨fun w3 hC _ => uponG_yes rfl (by go_simp; exact grows_refl _), ?_⟩
    simp only [Act.put, List.setIfInBounds_toArray, List.set_cons_succ, List.set_cons_zero]
    refine ⟨fun w3 hC _ => uponG_yes rfl (rel_load_core _ rfl w.heap.size rfl (hC.get List.mem_cons_self)), ?_⟩
    simp only [Act.put, List.setIfInBounds_toArray, List.set_cons_succ, List.set_cons_zero]
    refine ⟨fun w3 hC _ => uponG_yes rfl (by go_simp; exact grows_refl _), ?_⟩
    simp only [Act.put, List.setIfInBounds_toArray, List.set_cons_succ, List.set_cons_zero]
    refine ⟨fun w3 hC _ => uponG_yes rfl ?_, ?_⟩
    · go_simp
      refine (SetNzcv_c _ _ hv _).mono ?_
      rintro e w4 ⟨rfl, hb⟩
      exact ⟨rfl, hb⟩
    simp only [Act.put, List.setIfInBounds_toArray, List.set_cons_succ, List.set_cons_zero]
    refine ⟨fun w3 hC _ => uponG_yes rfl (rel_load_core _ rfl w.heap.size rfl (hC.get List.mem_cons_self)), ?_⟩
    simp only [Act.put, List.setIfInBounds_toArray, List.set_cons_succ, List.set_cons_zero]
    refine ⟨fun w3 hC _ => uponG_yes rfl (by go_simp; exact grows_refl _), ?_⟩
    simp only [Act.put, List.setIfInBounds_toArray, List.set_cons_succ, List.set_cons_zero]
    refine ⟨fun w3 hC _ => uponG_yes rfl ?_, ?_⟩
    · go_simp
      refine (refSetNzcv_c _ _ hv _).mono ?_
      rintro e w4 ⟨rfl, hb⟩
      exact ⟨rfl, hb⟩
    simp only [Act.put, List.setIfInBounds_toArray, List.set_cons_succ, List.set_cons_zero]
    refine ⟨fun w3 hC _ => uponG_yes rfl (rel_eql_core _ _ rfl _ _ rfl rfl (eqC_refl _)), ?_⟩
    simp only [Act.put, List.setIfInBounds_toArray, List.set_cons_succ, List.set_cons_zero]
    refine ⟨fun w3 hC _ => uponG_yes rfl (by go_simp; exact grows_refl _), ?_⟩
    simp only [Act.put, List.setIfInBounds_toArray, List.set_cons_succ, List.set_cons_zero]
    refine ⟨fun w3 hC _ => uponG_yes rfl (by go_simp; exact grows_refl _), ?_⟩
    simp only [Act.put, List.setIfInBounds_toArray, List.set_cons_succ, List.set_cons_zero]
    refine ⟨fun w3 hC _ => uponG_yes rfl (by go_simp; exact grows_refl _), ?_⟩
    simp only [Act.put, List.setIfInBounds_toArray, List.set_cons_succ, List.set_cons_zero]
    refine ⟨fun w3 hC _ => uponG_yes rfl (by go_simp; exact grows_refl _), ?_⟩
    simp only [Act.put, List.setIfInBounds_toArray, List.set_cons_succ, List.set_cons_zero]
    refine ⟨fun w3 hC _ => uponG_yes rfl (by go_simp; exact grows_refl _), ?_⟩
    simp only [Act.put, List.setIfInBounds_toArray, List.set_cons_succ, List.set_cons_zero]
    refine ⟨fun w3 hC _ => uponG_yes rfl (by go_simp; exact grows_refl _), ?_⟩
    simp only [Act.put, List.setIfInBounds_toArray, List.set_cons_succ, List.set_cons_zero]
    refine ⟨fun w3 hC _ => uponG_yes rfl (by go_simp; exact grows_refl _), ?_⟩
    simp only [Act.put, List.setIfInBounds_toArray, List.set_cons_succ, List.set_cons_zero]
    refine ⟨fun w3 hC _ => uponG_yes rfl (by go_simp; exact grows_refl _), ?_⟩
    simp only [Act.put, List.setIfInBounds_toArray, List.set_cons_succ, List.set_cons_zero]
    refine ⟨fun w3 hC _ => uponG_yes rfl (by go_simp; exact grows_refl _), ?_⟩
    simp only [Act.put, List.setIfInBounds_toArray, List.set_cons_succ, List.set_cons_zero]
    refine ⟨fun w3 hC _ => uponG_yes rfl (by go_simp; exact grows_refl _), ?_⟩
    simp only [Act.put, List.setIfInBounds_toArray, List.set_cons_succ, List.set_cons_zero]
    refine ⟨fun w3 hC _ => uponG_yes rfl (by go_simp; exact grows_refl _), ?_⟩
    simp only [Act.put, List.setIfInBounds_toArray, List.set_cons_succ, List.set_cons_zero]
    refine ⟨fun w3 hC _ => uponG_yes rfl (by go_simp; exact grows_refl _), ?_⟩
    simp only [Act.put, List.setIfInBounds_toArray, List.set_cons_succ, List.set_cons_zero]
    refine ⟨fun w3 hC _ => uponG_yes rfl (by go_simp; exact grows_refl _), ?_⟩
    simp only [Act.put, List.setIfInBounds_toArray, List.set_cons_succ, List.set_cons_zero]
    refine ⟨fun w3 hC _ => uponG_yes rfl (by go_simp; exact grows_refl _), ?_⟩
    simp only [Act.put, List.setIfInBounds_toArray, List.set_cons_succ, List.set_cons_zero]
    refine ⟨fun w3 hC _ => uponG_yes rfl (by go_simp; exact grows_refl _), ?_⟩
    simp only [Act.put, List.setIfInBounds_toArray, List.set_cons_succ, List.set_cons_zero]
    refine ⟨fun w3 hC _ => uponG_yes rfl (by go_simp; exact grows_refl _), ?_⟩
    simp only [Act.put, List.setIfInBounds_toArray, List.set_cons_succ, List.set_cons_zero]
    refine ⟨fun w3 hC _ => uponG_yes rfl (by go_simp; exact grows_refl _), ?_⟩
    simp only [Act.put, List.setIfInBounds_toArray, List.set_cons_succ, List.set_cons_zero]
    refine ⟨fun w3 hC _ => uponG_yes rfl (by go_simp; exact grows_refl _), ?_⟩
    simp only [Act.put, List.setIfInBounds_toArray, List.set_cons_succ, List.set_cons_zero]
    refine ⟨fun w3 hC _ => uponG_yes rfl (by go_simp; exact grows_refl _), ?_⟩
    simp only [Act.put, List.setIfInBounds_toArray, List.set_cons_succ, List.set_cons_zero]
    refine ⟨fun w3 hC _ => uponG_yes rfl (by go_simp; exact grows_refl _), ?_⟩
    intro w3 hC _
    simp only [Act.put, List.setIfInBounds_toArray, List.set_cons_succ, List.set_cons_zero]
    go_wp2
    go_ret
    exact ⟨rfl, hC.below⟩
  | true =>
    have e1 : condE a2 = 0 := by simp [condE, hb]
    go_enter Try.func4, Try.ntmps4
    go_upto_region 1 with fail
    have H := has_start c w
    generalize w.alloc (.cells c.cells 26) = w1 at H ⊢
    go_upto_region 4 with (first | (with_reducible refine wpList_load_if rfl 26 _ rfl _ rfl 26 _ (0, 0) _ (H.get (by first | exact List.mem_cons_self | exact List.mem_cons_of_mem _ (List.mem_cons_self) | exact List.mem_cons_of_mem _ (List.mem_cons_of_mem _ (List.mem_cons_self)) | exact List.mem_cons_of_mem _ (List.mem_cons_of_mem _ (List.mem_cons_of_mem _ (List.mem_cons_self))) | exact List.mem_cons_of_mem _ (List.mem_cons_of_mem _ (List.mem_cons_of_mem _ (List.mem_cons_of_mem _ (List.mem_cons_self)))) | exact List.mem_cons_of_mem _ (List.mem_cons_of_mem _ (List.mem_cons_of_mem _ (List.mem_cons_of_mem _ (List.mem_cons_of_mem _ (List.mem_cons_self))))) | exact List.mem_cons_of_mem _ (List.mem_cons_of_mem _ (List.mem_cons_of_mem _ (List.mem_cons_of_mem _ (List.mem_cons_of_mem _ (List.mem_cons_of_mem _ (List.mem_cons_self)))))) | exact List.mem_cons_of_mem _ (List.mem_cons_of_mem _ (List.mem_cons_of_mem _ (List.mem_cons_of_mem _ (List.mem_cons_of_mem _ (List.mem_cons_of_mem _ (List.mem_cons_of_mem _ (List.mem_cons_self))))))))) Try.underlying26 rfl (Cor.info _) ?_; simp only [Act.put, List.setIfInBounds_toArray, List.set_cons_succ, List.set_cons_zero]) | (go_at_call 9; refine (examples_c _).mono ?_; rintro e w1 ⟨rfl, hb⟩; replace H := H.grow hb; clear hb; dsimp only) | (go_at_call 19; refine (Holds_c _ _ _).mono ?_; rintro e w1 ⟨rfl, hb⟩; replace H := H.grow hb; clear hb; dsimp only) | (go_at_call 20; refine (refHolds_c _ _ _).mono ?_; rintro e w1 ⟨rfl, hb⟩; replace H := H.grow hb; clear hb; dsimp only))
    refine wp_region_rel Grows (fun x => Has w [(w.heap.size, c)] x) [.inl (.bool true), .inl (.bool true), .inl c.val, .inl (vU (nzcvV c)), .inl c.val, .inl (vU (nzcvV c)), .inl (.bool true), .inl (.bool true), .inl (.bool true), .inl c.val, .inl (vU a1), .inl (setNzcvV c a1).val, .inl c.val, .inl (vU a1), .inl (setNzcvV c a1).val, .inl (.bool true), .inl (.bool true), .inl (.bool true), .inl (.bool (holdsV c a2)), .inl (.bool (holdsV c a2)), .inl (.bool true), .inl (.bool true), .inl (.bool true), .inl (vI 0), .inl (.bool true), .inl (.bool true), .inl (.bool true), .inl (.bool true), .inl (.bool true), .inl (.bool true), .inl (.bool true), .inl undef, .inl undef, .inl (.bool true), .inl (.bool true), .inl (.bool true)] (by kernel_rfl) (by kernel_rfl) grows_refl (fun _ _ h hb => h.grow hb) ⟨⟨H.below.os, H.below.tape, H.below.output, H.below.size, H.below.block⟩, H.box⟩ (by simp [upK]) ?_
    refine ⟨fun w3 hC _ => uponG_yes rfl (by go_simp; exact grows_refl _), ?_⟩
    simp only [Act.put, List.setIfInBounds_toArray, List.set_cons_succ, List.set_cons_zero]
    refine ⟨fun w3 hC _ => uponG_yes rfl (by go_simp; exact grows_refl _), ?_⟩
    simp only [Act.put, List.setIfInBounds_toArray, List.set_cons_succ, List.set_cons_zero]
    refine ⟨fun w3 hC _ => uponG_yes rfl (rel_load_core _ rfl w.heap.size rfl (hC.get List.mem_cons_self)), ?_⟩
    simp only [Act.put, List.setIfInBounds_toArray, List.set_cons_succ, List.set_cons_zero]
    refine ⟨fun w3 hC _ => uponG_yes rfl ?_, ?_⟩
    · go_simp
      refine (Nzcv_c _ _).mono ?_
      rintro e w4 ⟨rfl, hb⟩
      exact ⟨rfl, hb⟩
    simp only [Act.put, List.setIfInBounds_toArray, List.set_cons_succ, List.set_cons_zero]
    refine ⟨fun w3 hC _ => uponG_yes rfl (rel_load_core _ rfl w.heap.size rfl (hC.get List.mem_cons_self)), ?_⟩
    simp only [Act.put, List.setIfInBounds_toArray, List.set_cons_succ, List.set_cons_zero]
    refine ⟨fun w3 hC _ => uponG_yes rfl ?_, ?_⟩
    · go_simp
      refine (refNzcv_c _ _).mono ?_
      rintro e w4 ⟨rfl, hb⟩
      exact ⟨rfl, hb⟩
    simp only [Act.put, List.setIfInBounds_toArray, List.set_cons_succ, List.set_cons_zero]
    refine ⟨fun w3 hC _ => uponG_yes rfl (by go_simp; exact grows_refl _), ?_⟩
    simp only [Act.put, List.setIfInBounds_toArray, List.set_cons_succ, List.set_cons_zero]
    refine ⟨fun w3 hC _ => uponG_yes rfl (by go_simp; exact grows_refl _), ?_⟩
    simp only [Act.put, List.setIfInBounds_toArray, List.set_cons_succ, List.set_cons_zero]
    refine ⟨fun w3 hC _ => uponG_yes rfl (by go_simp; exact grows_refl _), ?_⟩
    simp only [Act.put, List.setIfInBounds_toArray, List.set_cons_succ, List.set_cons_zero]
    refine ⟨fun w3 hC _ => uponG_yes rfl (rel_load_core _ rfl w.heap.size rfl (hC.get List.mem_cons_self)), ?_⟩
    simp only [Act.put, List.setIfInBounds_toArray, List.set_cons_succ, List.set_cons_zero]
    refine ⟨fun w3 hC _ => uponG_yes rfl (by go_simp; exact grows_refl _), ?_⟩
    simp only [Act.put, List.setIfInBounds_toArray, List.set_cons_succ, List.set_cons_zero]
    refine ⟨fun w3 hC _ => uponG_yes rfl ?_, ?_⟩
    · go_simp
      refine (SetNzcv_c _ _ hv _).mono ?_
      rintro e w4 ⟨rfl, hb⟩
      exact ⟨rfl, hb⟩
    simp only [Act.put, List.setIfInBounds_toArray, List.set_cons_succ, List.set_cons_zero]
    refine ⟨fun w3 hC _ => uponG_yes rfl (rel_load_core _ rfl w.heap.size rfl (hC.get List.mem_cons_self)), ?_⟩
    simp only [Act.put, List.setIfInBounds_toArray, List.set_cons_succ, List.set_cons_zero]
    refine ⟨fun w3 hC _ => uponG_yes rfl (by go_simp; exact grows_refl _), ?_⟩
    simp only [Act.put, List.setIfInBounds_toArray, List.set_cons_succ, List.set_cons_zero]
    refine ⟨fun w3 hC _ => uponG_yes rfl ?_, ?_⟩
    · go_simp
      refine (refSetNzcv_c _ _ hv _).mono ?_
      rintro e w4 ⟨rfl, hb⟩
      exact ⟨rfl, hb⟩
    simp only [Act.put, List.setIfInBounds_toArray, List.set_cons_succ, List.set_cons_zero]
    refine ⟨fun w3 hC _ => uponG_yes rfl (rel_eql_core _ _ rfl _ _ rfl rfl (eqC_refl _)), ?_⟩
    simp only [Act.put, List.setIfInBounds_toArray, List.set_cons_succ, List.set_cons_zero]
    refine ⟨fun w3 hC _ => uponG_yes rfl (by go_simp; exact grows_refl _), ?_⟩
    simp only [Act.put, List.setIfInBounds_toArray, List.set_cons_succ, List.set_cons_zero]
    refine ⟨fun w3 hC _ => uponG_yes rfl (by go_simp; exact grows_refl _), ?_⟩
    simp only [Act.put, List.setIfInBounds_toArray, List.set_cons_succ, List.set_cons_zero]
    refine ⟨fun w3 hC _ => uponG_yes rfl (by go_simp; exact grows_refl _), ?_⟩
    simp only [Act.put, List.setIfInBounds_toArray, List.set_cons_succ, List.set_cons_zero]
    refine ⟨fun w3 hC _ => uponG_yes rfl (by go_simp; exact grows_refl _), ?_⟩
    simp only [Act.put, List.setIfInBounds_toArray, List.set_cons_succ, List.set_cons_zero]
    refine ⟨fun w3 hC _ => uponG_yes rfl (by go_simp; exact grows_refl _), ?_⟩
    simp only [Act.put, List.setIfInBounds_toArray, List.set_cons_succ, List.set_cons_zero]
    refine ⟨fun w3 hC _ => uponG_yes rfl (by go_simp; exact grows_refl _), ?_⟩
    simp only [Act.put, List.setIfInBounds_toArray, List.set_cons_succ, List.set_cons_zero]
    refine ⟨fun w3 hC _ => uponG_yes rfl (by go_simp; exact grows_refl _), ?_⟩
    simp only [Act.put, List.setIfInBounds_toArray, List.set_cons_succ, List.set_cons_zero]
    refine ⟨fun w3 hC _ => uponG_yes rfl (by go_simp; exact grows_refl _), ?_⟩
    simp only [Act.put, List.setIfInBounds_toArray, List.set_cons_succ, List.set_cons_zero]
    refine ⟨fun w3 hC _ => uponG_yes rfl (by go_simp; exact grows_refl _), ?_⟩
    simp only [Act.put, List.setIfInBounds_toArray, List.set_cons_succ, List.set_cons_zero]
    refine ⟨fun w3 hC _ => uponG_yes rfl (by go_simp; exact grows_refl _), ?_⟩
    simp only [Act.put, List.setIfInBounds_toArray, List.set_cons_succ, List.set_cons_zero]
    refine ⟨fun w3 hC _ => uponG_yes rfl (by go_simp; exact grows_refl _), ?_⟩
    simp only [Act.put, List.setIfInBounds_toArray, List.set_cons_succ, List.set_cons_zero]
    refine ⟨fun w3 hC _ => uponG_yes rfl (by go_simp; exact grows_refl _), ?_⟩
    simp only [Act.put, List.setIfInBounds_toArray, List.set_cons_succ, List.set_cons_zero]
    refine ⟨fun w3 hC _ => uponG_yes rfl (by go_simp; exact grows_refl _), ?_⟩
    simp only [Act.put, List.setIfInBounds_toArray, List.set_cons_succ, List.set_cons_zero]
    refine ⟨fun w3 hC _ => uponG_yes rfl (by go_simp; exact grows_refl _), ?_⟩
    simp only [Act.put, List.setIfInBounds_toArray, List.set_cons_succ, List.set_cons_zero]
    refine ⟨fun w3 hC _ => uponG_yes rfl (by go_simp; exact grows_refl _), ?_⟩
    simp only [Act.put, List.setIfInBounds_toArray, List.set_cons_succ, List.set_cons_zero]
    refine ⟨fun w3 hC _ => uponG_no rfl rfl, ?_⟩
    simp only [Act.put, List.setIfInBounds_toArray, List.set_cons_succ, List.set_cons_zero]
    refine ⟨fun w3 hC _ => uponG_no rfl rfl, ?_⟩
    simp only [Act.put, List.setIfInBounds_toArray, List.set_cons_succ, List.set_cons_zero]
    refine ⟨fun w3 hC _ => uponG_yes rfl (by go_simp; exact grows_refl _), ?_⟩
    simp only [Act.put, List.setIfInBounds_toArray, List.set_cons_succ, List.set_cons_zero]
    refine ⟨fun w3 hC _ => uponG_yes rfl (by go_simp; exact grows_refl _), ?_⟩
    simp only [Act.put, List.setIfInBounds_toArray, List.set_cons_succ, List.set_cons_zero]
    refine ⟨fun w3 hC _ => uponG_yes rfl (by go_simp; exact grows_refl _), ?_⟩
    intro w3 hC _
    simp only [Act.put, List.setIfInBounds_toArray, List.set_cons_succ, List.set_cons_zero]
    go_wp2
    go_ret
    exact ⟨rfl, hC.below⟩

set_option maxRecDepth 100000 in
theorem lifted (os : Os) (started : os.Started) (H : Type) (enc : TypeId × Value → H) :
    ReturnsInHanded {} Try.checked os 4 .any (Rows.regsFlagsSpec.pre6 enc Try.prog Try.f4 Rows.regsFlagsRow.domain false) (Rows.regsFlagsSpec.post enc Try.prog Try.f4 false true false false) := by
  refine returnsInHanded_of_change (C := Try.checked) own started (by kernel_rfl) Try.func4
    (ChangeSpec.witness6 (enc := enc) (C := Try.checked) false ⟨#[], #[nilC.val, .int .u64 0, .int .i64 0], []⟩ 8 (by kernel_rfl) (by kernel_rfl) (by kernel_rfl) (by kernel_rfl)) ?_
  intro W base args ds gs before hval0 hW hcnd _
  have hval : ∀ (j : Nat) t v, Try.f4.params[j]? = some t → args[j]? = some v → Value.okWide Try.prog W .any base t v := hval0
  have hW' := hW
  obtain ⟨p, q, hA0, hV, rfl, hfz, hnd⟩ := hW
  have hA : DataW.TrodAll enc Try.prog W 0 (fun _ => true) true Try.f4.params.toList args.toList ds p := hA0
  rw [Try.params4] at hA hval
  obtain ⟨v0, vs0, d0, ds0, p0, q0, hargs, rfl, rfl, h0, r0⟩ := trodAll_cons hA
  obtain ⟨v1, vs1, d1, ds1, p1, q1, rfl, rfl, rfl, h1, r1⟩ := trodAll_cons r0
  obtain ⟨v2, vs2, d2, ds2, p2, q2, rfl, rfl, rfl, h2, r2⟩ := trodAll_cons r1
  obtain ⟨rfl, rfl, rfl⟩ := trodAll_nil r2
  obtain rfl : args = #[v0, v1, v2] := by cases args; simp_all
  obtain ⟨rfl, rfl⟩ := trodVars_none hV
  obtain ⟨c, rfl, wc⟩ := open_core (hval 0 26 v0 rfl rfl) h0
  obtain rfl := (Trod_flat (w' := W) (b' := 0) (s' := fun _ => true) (h' := true) flat26 h0).1
  obtain ⟨a1, rfl, rfl, rfl, w1⟩ := open_int Try.underlying22 (hval 1 22 v1 rfl rfl) h1
  obtain ⟨a2, rfl, rfl, rfl, w2⟩ := open_int Try.underlying3 (hval 2 3 v2 rfl rfl) h2
  clear hA0 hval0
  simp only [List.append_nil] at hW'
  refine (walk c wc a1 a2 w1 w2 W).mono fun e W' ⟨he, hb⟩ => ?_
  subst he
  exact ⟨_, rfl, post_flat hW' (fun _ _ _ => (trodAll_cons_mk (shut_bool Try.underlying4 _) trodAll_mk0)) (fun sp => (trodAll_cons_mk (Trod_flat flat26 h0 |>.2) (trodAll_cons_mk (shut_int Try.underlying22 w1) (trodAll_cons_mk (shut_int Try.underlying3 w2) trodAll_mk0)))) (fun _ => rfl) (fun may => hb.frame may) (ok_one (by kernel_rfl) rfl (okWide_bool_mk Try.underlying4 _))⟩

theorem over : Rows.regsFlagsRow.holds Try.pinned (OpenSpec.ofChange Rows.regsFlagsSpec) :=
  OpenClaim.holds_of_wide 4 Try.f4 rfl rfl rfl rfl rfl rfl rfl ⟨rfl, rfl, rfl, rfl, rfl⟩ rfl rfl rfl rfl rfl (by kernel_rfl) Try.func4 (by kernel_rfl)
    (of_decide_eq_true (by kernel_rfl)) (by unfold Func.isWrapper; first | (rw [if_pos (by decide +kernel)]; kernel_rfl) | (rw [if_neg (by decide +kernel)]; exact ⟨rfl, rfl⟩))
    (fun os started H enc _ => lifted os started H enc)

theorem proved : Rows.RegsFlagsSaid :=
  over
end Go.Proofs.Ythohkemkiohicaa.regsFlags

namespace Go.Proofs.Ythohkemkiohicaa
theorem regsFlags_holds : Rows.RegsFlagsSaid := regsFlags.proved
#print axioms regsFlags_holds
end Go.Proofs.Ythohkemkiohicaa
