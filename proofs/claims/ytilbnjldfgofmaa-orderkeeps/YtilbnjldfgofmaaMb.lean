/- What the program tells of any operation: Defines, Leaves. -/
import Derived.Test.YtilbnjldfgofmaaMa
import Derived.Test.YtilbnjldfgofmaaIg
namespace Go.Proofs.Ytilbnjldfgofmaa
open Go.RowKit
set_option linter.unusedVariables false
set_option linter.unusedSimpArgs false
set_option maxRecDepth 8000

set_option maxHeartbeats 2000000 in
theorem clo46_c {w : World} {bb : Nat} {o : Opr} (hb : w.heap[bb]? = some (.cells (opA o) 40)) : Calls Try.prog 82 #[ptr bb 0] w (RightR w (hasP o.kind 64)) := by
  have z0 := LocO.c0 hb
  cases hk : isK o.kind with
  | true =>
    go_enter Try.func82, Try.ntmps82
    go_wp2_with (first | (go_at_call 77; (with_reducible refine (shapeOf_c _ hk _).mono ?_); rintro e w1 ⟨rfl, B⟩; dsimp only) | (go_at_call 78; (with_reducible refine (hasK_c _ _ _).mono ?_); rintro e w2 ⟨rfl, B2⟩; dsimp only))
    go_ret
    exact ⟨.inl rfl, below_then B (Nat.le_refl _) B2⟩
  | false =>
    rw [has_none64 hk]
    go_enter Try.func82, Try.ntmps82
    go_wp2_with (first | (go_at_call 77; (with_reducible refine (shapeOf_p _ hk _).mono ?_); rintro e w1 ⟨rfl, B⟩; dsimp only))
    exact ⟨rfl, .inr ⟨rfl, rfl⟩, B⟩
set_option maxHeartbeats 4000000 in
theorem orNothing46_c {w : World} {bb : Nat} {r : Bool} (hc : ∀ w1, Below w.heap.size w w1 → Calls Try.prog 82 #[ptr bb 0] w1 (RightR w1 r)) : Calls Try.prog 62 #[.func (.func 82) #[] #[ptr bb 0]] w fun e w' => e = .returned (.bool r) ∧ Below w.heap.size w w' := by
  have hmf : ∀ (fn : Fn) (first cap : Array Value) (w : World), (Instr.makeFunc fn first cap).run Try.prog w = .ok (.func fn first cap) w := fun _ _ _ _ => rfl
  have hb := below_alloc w (Obj.cells #[.bool false] 4)
  have hcc := hc _ hb
  have hrow : (w.alloc (Obj.cells #[.bool false] 4)).heap[w.heap.size]? = some (.cells #[.bool false] 4) := heap_alloc_new _ _
  go_enter_defers Try.func62, Try.ntmps62
  go_upto_region 2 with fail
  generalize w.alloc (Obj.cells #[.bool false] 4) = w1 at *
  go_wp2_with (first | (go_at_call 82; (with_reducible refine hcc.mono ?_); clear hcc hc; rintro e w2 ⟨he | ⟨he, hf⟩, B2⟩ <;> subst he <;> dsimp only <;> (replace hrow : w2.heap[w.heap.size]? = some (.cells #[.bool false] 4) := by rw [B2.block _ (lt_of_some hrow)]; exact hrow) <;> (replace hb := below_then hb (Nat.le_refl _) B2) <;> clear B2 <;> (have z : w2.cell? ⟨w.heap.size, 0, none⟩ = some (.bool false) := by rw [cell_of_row _ _ _ _ _ _ hrow]; rfl) <;> (have f : w2.frozen? ⟨w.heap.size, 0, none⟩ = false := frozen_of_row _ _ _ _ _ hrow)))
  · refine leaves_cons (f := 76) (args := #[.pointer (some ⟨w.heap.size, 0, none⟩)]) (by simp) (by simp [go_sem]) ?_
    refine (catch_idle ⟨w.heap.size, 0, none⟩ _).mono ?_
    rintro e u' w'' ⟨rfl, rfl, rfl⟩
    have hr2 := heap_setCell_same w2 w.heap.size 0 #[.bool false] 4 (.bool r) hrow
    have z2 : (w2.setCell ⟨w.heap.size, 0, none⟩ (.bool r)).cell? ⟨w.heap.size, 0, none⟩ = some (.bool r) := by rw [cell_of_row _ _ _ _ _ _ hr2]; rfl
    simp [Leaves, settle, results, Try.results62, go_sem, z2]
    exact below_cell hb (Nat.le_refl _)
  · refine leaves_cons (f := 76) (args := #[.pointer (some ⟨w.heap.size, 0, none⟩)]) (by simp) (by simp [go_sem]) ?_
    refine (catch_panicking ⟨w.heap.size, 0, none⟩ false 29 (vI 4) [] _ z f).mono ?_
    rintro e u' w'' ⟨rfl, rfl, rfl⟩
    have hr2 := heap_setCell_same w2 w.heap.size 0 #[.bool false] 4 (.bool false) hrow
    have z2 : (w2.setCell ⟨w.heap.size, 0, none⟩ (.bool false)).cell? ⟨w.heap.size, 0, none⟩ = some (.bool false) := by rw [cell_of_row _ _ _ _ _ _ hr2]; rfl
    simp [Leaves, settle, results, Try.results62, go_sem, z2]
    exact ⟨hf, below_cell hb (Nat.le_refl _)⟩

set_option maxHeartbeats 2000000 in
theorem leaves_c (o : Opr) (w : World) : Calls Try.prog 68 #[opV o] w fun e w' => e = .returned (.bool (hasP o.kind 64)) ∧ Below w.heap.size w w' := by
  have hmf : ∀ (fn : Fn) (first cap : Array Value) (w : World), (Instr.makeFunc fn first cap).run Try.prog w = .ok (.func fn first cap) w := fun _ _ _ _ => rfl
  have hb := below_alloc w (.cells (opA o) 40)
  have hrow : (w.alloc (.cells (opA o) 40)).heap[w.heap.size]? = some (.cells (opA o) 40) := heap_alloc_new _ _
  go_enter Try.func68, Try.ntmps68
  go_upto_region 1 with fail
  generalize w.alloc (.cells (opA o) 40) = w1 at *
  have k1 := orNothing46_c (w := w1) (bb := w.heap.size) (r := hasP o.kind 64) (fun w2 B => clo46_c (by rw [B.block _ (lt_of_some hrow)]; exact hrow))
  clear hrow
  go_wp2_with (first | (go_at_call 62; (with_reducible refine k1.mono ?_); clear k1; rintro e w2 ⟨rfl, B2⟩; dsimp only))
  go_ret
  exact ⟨rfl, below_then hb (Nat.le_refl _) B2⟩
end Go.Proofs.Ytilbnjldfgofmaa
