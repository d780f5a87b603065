/- The chapter's examples, which each statement asks first, come out as they should. -/
import Derived.Test.YthohkemkiohicaaHas
namespace Go.Proofs.Ythohkemkiohicaa
open Go.RowKit

def zC : Cor := { nilC with z := true }
theorem built_z : Try.prog.built 26 [(4, .bool true)] = some zC.cells := by kernel_rfl
theorem wpList_build_z {ops : Array Oper} {rest : List Oper} {o : Oper} {a : Act} {w : World} {Q : Exit → Act → World → Prop} (hw : Region.wanted o (yielded ops a.tmps) = true) (ho : o.op = .build 26 #[(4, .const (.bool true))])
    (h : wpList Try.prog ops Q rest (a.put o.dst zC.val) w) : wpList Try.prog ops Q (o :: rest) a w := by
  have e : (Array.map (fun x : Nat × Operand => match x with | (i, x) => (i, a.eval x)) #[(4, .const (.bool true))]).toList = [(4, .bool true)] := by
    simp only [List.map_toArray, List.map_cons, List.map_nil]
    rfl
  refine BigFrame.wpList_want hw fun K hK => wp_build 26 _ ho (by rw [e, built_z]; rfl) ?_
  refine hK _ _ ?_
  rw [e, built_z]
  exact h
set_option maxRecDepth 4000 in
set_option maxHeartbeats 4000000 in
theorem examples_c (w : World) : Calls Try.prog 9 #[] w fun e w' => e = .returned (.bool true) ∧ Below w.heap.size w w' := by
  have H := has_none w
  have f1 : xV (newV 3 64) 31 = 0 := by decide +kernel
  have f2 : regE 31 = 0 := by decide +kernel
  have f4 : regE 32 = 1 := by decide +kernel
  have f5 : holdsV zC 0 = true := by decide +kernel
  have f6 : condE 0 = 0 := by decide +kernel
  have f7 : holdsV zC 1 = false := by decide +kernel
  have f8 : condE 1 = 0 := by decide +kernel
  have f9 : getV (newV 3 64) 16389 = 2147483651 := by decide +kernel
  have f10 : getB 16389 = true := by decide +kernel
  have f12 : getB 18016 = false := by decide +kernel
  have f13 : rightC (newV 3 64) = true := by decide +kernel
  go_enter Try.func9, Try.ntmps9
  go_wp2_with (first | (with_reducible refine wpList_build_z rfl rfl ?_; simp only [Act.put, List.setIfInBounds_toArray, List.set_cons_succ, List.set_cons_zero]) | ((with_reducible refine wpList_store_new H rfl _ _ rfl _ rfl rfl ?_ ?_); (focus rfl); intro w2 H; try simp only [Act.put]) | (with_reducible refine wpList_build_new rfl _ _ rfl 3 64 rfl rfl ?_; simp only [Act.put, List.setIfInBounds_toArray, List.set_cons_succ, List.set_cons_zero]) | (with_reducible refine wpList_eql_core rfl _ _ rfl _ _ rfl rfl true (eqC_refl _) ?_; simp only [Act.put, List.setIfInBounds_toArray, List.set_cons_succ, List.set_cons_zero]) | (with_reducible refine wpList_load_if rfl 26 _ rfl _ rfl 26 _ (0, 0) _ (H.get (by first | exact List.mem_cons_self | exact List.mem_cons_of_mem _ (List.mem_cons_self) | exact List.mem_cons_of_mem _ (List.mem_cons_of_mem _ (List.mem_cons_self)) | exact List.mem_cons_of_mem _ (List.mem_cons_of_mem _ (List.mem_cons_of_mem _ (List.mem_cons_self))) | exact List.mem_cons_of_mem _ (List.mem_cons_of_mem _ (List.mem_cons_of_mem _ (List.mem_cons_of_mem _ (List.mem_cons_self)))) | exact List.mem_cons_of_mem _ (List.mem_cons_of_mem _ (List.mem_cons_of_mem _ (List.mem_cons_of_mem _ (List.mem_cons_of_mem _ (List.mem_cons_self))))) | exact List.mem_cons_of_mem _ (List.mem_cons_of_mem _ (List.mem_cons_of_mem _ (List.mem_cons_of_mem _ (List.mem_cons_of_mem _ (List.mem_cons_of_mem _ (List.mem_cons_self)))))) | exact List.mem_cons_of_mem _ (List.mem_cons_of_mem _ (List.mem_cons_of_mem _ (List.mem_cons_of_mem _ (List.mem_cons_of_mem _ (List.mem_cons_of_mem _ (List.mem_cons_of_mem _ (List.mem_cons_self))))))))) Try.underlying26 rfl (Cor.info _) ?_; simp only [Act.put, List.setIfInBounds_toArray, List.set_cons_succ, List.set_cons_zero]) | (go_at_call 18; refine (New_c _ _ _).mono ?_; rintro e w1 ⟨rfl, hb⟩; replace H := H.grow hb; clear hb; dsimp only) | (go_at_call 10; refine (X_c _ _ _).mono ?_; rintro e w1 ⟨rfl, hb⟩; replace H := H.grow hb; clear hb; dsimp only) | (go_at_call 19; refine (Holds_c _ _ _).mono ?_; rintro e w1 ⟨rfl, hb⟩; replace H := H.grow hb; clear hb; dsimp only) | (go_at_call 25; refine (Get_c _ _ _).mono ?_; rintro e w1 ⟨rfl, hb⟩; replace H := H.grow hb; clear hb; dsimp only) | (go_at_call 17; refine (Right_c _ _).mono ?_; rintro e w1 ⟨rfl, hb⟩; replace H := H.grow hb; clear hb; dsimp only))
  go_ret
  exact ⟨rfl, H.below⟩
end Go.Proofs.Ythohkemkiohicaa
