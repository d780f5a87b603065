/- The chapter's examples come out true. -/
import Derived.Test.YtcmilajlngnibaaHas
namespace Go.Proofs.Ytcmilajlngnibaa
open Go.RowKit
set_option linter.unusedVariables false

def ex1I : Ins := ⟨1, 0, 0, 1, 0, 0, 1, 0, 0, 0, 0, 0, false, false, false, false⟩
def ex3I : Ins := ⟨12, 0, 0, 0, 0, 0, -4, 0, 0, 0, 0, 0, false, false, false, false⟩
def ex4I : Ins := ⟨16, 2, 0, 30, 0, 0, 0, 0, 0, 0, 0, 0, false, false, false, false⟩
theorem ex1 : decV 2432697376 = ex1I := by kernel_rfl
theorem ex2 : decV 0 = nilI := by kernel_rfl
theorem ex3 : decV 402653183 = ex3I := by kernel_rfl
theorem ex4 : encV ex4I = (3596551104, 0) := by kernel_rfl
theorem ex5 : encV nilI = (0, 3) := by kernel_rfl
theorem eqI_refl (i : Ins) : eqI i i = true := (eqI_iff i i).2 rfl
theorem eqI_no {i j : Ins} (h : i ≠ j) : eqI i j = false := by cases e : eqI i j; rfl; exact absurd ((eqI_iff i j).1 e) h
theorem in64_ex4 : Hid (∀ k : Fl, I64 (k.get ex4I)) := fun k => by cases k <;> exact ⟨by decide, by decide⟩
theorem in64_nil : Hid (∀ k : Fl, I64 (k.get nilI)) := fun k => by cases k <;> exact ⟨by decide, by decide⟩
theorem wpList_builtG {P : Program} {ops : Array Oper} {rest : List Oper} {o : Oper} {a : Act} {w : World} {Q : Exit → Act → World → Prop} (hw : Region.wanted o (yielded ops a.tmps) = true) (t : TypeId) (parts : Array (Nat × Operand)) (ho : o.op = .build t parts)
    (cs : Array Value) (hf : P.built t (parts.map fun (i, x) => (i, a.eval x)).toList = some cs)
    (h : wpList P ops Q rest (a.put o.dst (.agg cs)) w) : wpList P ops Q (o :: rest) a w :=
  BigFrame.wpList_want hw fun _ hK => wp_build t parts ho (by rw [hf]; rfl) (by rw [hf]; exact hK _ _ h)
set_option maxRecDepth 4000 in
set_option maxHeartbeats 4000000 in
theorem examples_c (w : World) : Calls Try.prog 8 #[] w fun e w' => e = .returned (.bool true) ∧ Below w.heap.size w w' := by
  have H := has_none w
  go_enter Try.func8, Try.ntmps8
  go_upto_region 5 with (first | ((with_reducible refine wpList_load_if rfl 25 _ rfl _ rfl 25 _ (0, 0) _ (H.get (by first | exact List.mem_cons_self | exact List.mem_cons_of_mem _ (List.mem_cons_self) | exact List.mem_cons_of_mem _ (List.mem_cons_of_mem _ (List.mem_cons_self)) | exact List.mem_cons_of_mem _ (List.mem_cons_of_mem _ (List.mem_cons_of_mem _ (List.mem_cons_self))) | exact List.mem_cons_of_mem _ (List.mem_cons_of_mem _ (List.mem_cons_of_mem _ (List.mem_cons_of_mem _ (List.mem_cons_self)))) | exact List.mem_cons_of_mem _ (List.mem_cons_of_mem _ (List.mem_cons_of_mem _ (List.mem_cons_of_mem _ (List.mem_cons_of_mem _ (List.mem_cons_self))))) | exact List.mem_cons_of_mem _ (List.mem_cons_of_mem _ (List.mem_cons_of_mem _ (List.mem_cons_of_mem _ (List.mem_cons_of_mem _ (List.mem_cons_of_mem _ (List.mem_cons_self)))))))) Try.underlying25 rfl (Ins.infoC _) ?_); (simp only [Act.put, List.setIfInBounds_toArray, List.set_cons_succ, List.set_cons_zero])) | ((with_reducible refine wpList_store_new H rfl _ _ rfl _ rfl rfl ?_ ?_); (focus rfl); intro w2 H; try simp only [Act.put]) | (go_at_call 9; refine (decode_c _ ⟨by decide, by decide⟩ _).mono ?_; try (first | rw [ex1] | rw [ex2] | rw [ex3]); rintro e w1 ⟨rfl, hb⟩; replace H := H.grow hb; clear hb; dsimp only) | (go_at_call 11; refine (encode_c ex4I in64_ex4 _).mono ?_; rw [ex4]; rintro e w1 ⟨rfl, hb⟩; replace H := H.grow hb; clear hb; dsimp only))
  go_upto_region 6 with (first | ((with_reducible refine wpList_load_if rfl 25 _ rfl _ rfl 25 _ (0, 0) _ (H.get (by first | exact List.mem_cons_self | exact List.mem_cons_of_mem _ (List.mem_cons_self) | exact List.mem_cons_of_mem _ (List.mem_cons_of_mem _ (List.mem_cons_self)) | exact List.mem_cons_of_mem _ (List.mem_cons_of_mem _ (List.mem_cons_of_mem _ (List.mem_cons_self))) | exact List.mem_cons_of_mem _ (List.mem_cons_of_mem _ (List.mem_cons_of_mem _ (List.mem_cons_of_mem _ (List.mem_cons_self)))) | exact List.mem_cons_of_mem _ (List.mem_cons_of_mem _ (List.mem_cons_of_mem _ (List.mem_cons_of_mem _ (List.mem_cons_of_mem _ (List.mem_cons_self))))) | exact List.mem_cons_of_mem _ (List.mem_cons_of_mem _ (List.mem_cons_of_mem _ (List.mem_cons_of_mem _ (List.mem_cons_of_mem _ (List.mem_cons_of_mem _ (List.mem_cons_self)))))))) Try.underlying25 rfl (Ins.infoC _) ?_); (simp only [Act.put, List.setIfInBounds_toArray, List.set_cons_succ, List.set_cons_zero])) | (go_at_call 11; refine (encode_c nilI in64_nil _).mono ?_; rw [ex5]; rintro e w1 ⟨rfl, hb⟩; replace H := H.grow hb; clear hb; dsimp only))
  go_wp2_with (first | ((with_reducible refine wpList_load_if rfl 25 _ rfl _ rfl 25 _ (0, 0) _ (H.get (by first | exact List.mem_cons_self | exact List.mem_cons_of_mem _ (List.mem_cons_self) | exact List.mem_cons_of_mem _ (List.mem_cons_of_mem _ (List.mem_cons_self)) | exact List.mem_cons_of_mem _ (List.mem_cons_of_mem _ (List.mem_cons_of_mem _ (List.mem_cons_self))) | exact List.mem_cons_of_mem _ (List.mem_cons_of_mem _ (List.mem_cons_of_mem _ (List.mem_cons_of_mem _ (List.mem_cons_self)))) | exact List.mem_cons_of_mem _ (List.mem_cons_of_mem _ (List.mem_cons_of_mem _ (List.mem_cons_of_mem _ (List.mem_cons_of_mem _ (List.mem_cons_self))))) | exact List.mem_cons_of_mem _ (List.mem_cons_of_mem _ (List.mem_cons_of_mem _ (List.mem_cons_of_mem _ (List.mem_cons_of_mem _ (List.mem_cons_of_mem _ (List.mem_cons_self)))))))) Try.underlying25 rfl (Ins.infoC _) ?_); (simp only [Act.put, List.setIfInBounds_toArray, List.set_cons_succ, List.set_cons_zero])) | ((with_reducible refine wpList_eql_insn rfl _ _ rfl (ex1I) (ex1I) ?_ ?_ true (eqI_refl _) ?_); (focus rfl); (focus rfl); (simp only [Act.put, List.setIfInBounds_toArray, List.set_cons_succ, List.set_cons_zero])) | ((with_reducible refine wpList_eql_insn rfl _ _ rfl (nilI) (nilI) ?_ ?_ true (eqI_refl _) ?_); (focus rfl); (focus rfl); (simp only [Act.put, List.setIfInBounds_toArray, List.set_cons_succ, List.set_cons_zero])) | ((with_reducible refine wpList_eql_insn rfl _ _ rfl (ex3I) (ex3I) ?_ ?_ true (eqI_refl _) ?_); (focus rfl); (focus rfl); (simp only [Act.put, List.setIfInBounds_toArray, List.set_cons_succ, List.set_cons_zero])))
  go_ret
  exact ⟨rfl, H.below⟩
end Go.Proofs.Ytcmilajlngnibaa
