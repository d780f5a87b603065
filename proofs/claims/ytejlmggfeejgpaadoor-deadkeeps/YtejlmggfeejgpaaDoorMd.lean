/- What the program tells of any operation: Uses, a row of its own. -/
import Derived.Test.YtejlmggfeejgpaaDoorMc
import Derived.Test.YtejlmggfeejgpaaDoorXj
import Derived.Test.YtejlmggfeejgpaaDoorIg
namespace Go.Proofs.YtejlmggfeejgpaaDoor
open Go.RowKit
set_option linter.unusedVariables false
set_option linter.unusedSimpArgs false
set_option maxRecDepth 8000

set_option maxHeartbeats 4000000 in
theorem orNothingO_c {w : World} {bb : Nat} {zs : List Int} (hc : ∀ w1, Below w.heap.size w w1 → Calls Tryd.prog 46 #[ptr bb 0] w1 (UsesR w1 zs)) : Calls Tryd.prog 45 #[.func (.func 46) #[] #[ptr bb 0]] w fun e w' => ∃ v, e = .returned v ∧ w'.ownsRow w.heap.size 3 1 v zs.length (flI zs) ∧ Below w.heap.size w w' := by
  have hmf : ∀ (fn : Fn) (first cap : Array Value) (w : World), (Instr.makeFunc fn first cap).run Tryd.prog w = .ok (.func fn first cap) w := fun _ _ _ _ => rfl
  have hb := below_alloc w (Obj.cells #[.slice none 0 0] 64)
  have hcc := hc _ hb
  have hsz : w.heap.size < (w.alloc (Obj.cells #[.slice none 0 0] 64)).heap.size := by simp
  have hrow : (w.alloc (Obj.cells #[.slice none 0 0] 64)).heap[w.heap.size]? = some (.cells #[.slice none 0 0] 64) := heap_alloc_new _ _
  go_enter_defers Tryd.func45, Tryd.ntmps45
  go_upto_region 2 with fail
  generalize w.alloc (Obj.cells #[.slice none 0 0] 64) = w1 at *
  go_wp2_with (first | (go_at_call 46; (with_reducible refine hcc.mono ?_); clear hcc hc; rintro e w2 ⟨⟨v, he, O⟩ | ⟨he, hf⟩, B2⟩ <;> subst he <;> dsimp only <;> (try (obtain ⟨ao, cap, hv⟩ := (raw_own O).len; subst hv)) <;> (replace hrow : w2.heap[w.heap.size]? = some (.cells #[.slice none 0 0] 64) := by rw [B2.block _ (lt_of_some hrow)]; exact hrow) <;> (replace hb := below_then hb (Nat.le_refl _) B2) <;> clear B2 <;> (have z : w2.cell? ⟨w.heap.size, 0, none⟩ = some (.slice none 0 0) := by rw [cell_of_row _ _ _ _ _ _ hrow]; rfl) <;> (have f : w2.frozen? ⟨w.heap.size, 0, none⟩ = false := frozen_of_row _ _ _ _ _ hrow)))
  · refine leaves_cons (f := 50) (args := #[.pointer (some ⟨w.heap.size, 0, none⟩)]) (by simp) (by simp [go_sem]) ?_
    refine (catchI_idle ⟨w.heap.size, 0, none⟩ _).mono ?_
    rintro e u' w'' ⟨rfl, rfl, rfl⟩
    have hr2 := heap_setCell_same w2 w.heap.size 0 #[.slice none 0 0] 64 (.slice ao zs.length cap) hrow
    have z2 : (w2.setCell ⟨w.heap.size, 0, none⟩ (.slice ao zs.length cap)).cell? ⟨w.heap.size, 0, none⟩ = some (.slice ao zs.length cap) := by rw [cell_of_row _ _ _ _ _ _ hr2]; rfl
    simp [Leaves, settle, results, Tryd.results45, go_sem, z2]
    exact ⟨own_mono (own_setCell O hsz) (Nat.le_of_lt hsz), below_cell hb (Nat.le_refl _)⟩
  · refine leaves_cons (f := 50) (args := #[.pointer (some ⟨w.heap.size, 0, none⟩)]) (by simp) (by simp [go_sem]) ?_
    refine (catchI_panicking ⟨w.heap.size, 0, none⟩ _ 27 (vI 4) [] _ z f).mono ?_
    rintro e u' w'' ⟨rfl, rfl, rfl⟩
    have hr2 := heap_setCell_same w2 w.heap.size 0 #[.slice none 0 0] 64 (.slice none 0 0) hrow
    have z2 : (w2.setCell ⟨w.heap.size, 0, none⟩ (.slice none 0 0)).cell? ⟨w.heap.size, 0, none⟩ = some (.slice none 0 0) := by rw [cell_of_row _ _ _ _ _ _ hr2]; rfl
    simp [Leaves, settle, results, Tryd.results45, go_sem, z2]
    subst hf
    exact ⟨own_none _ _, below_cell hb (Nat.le_refl _)⟩
set_option maxHeartbeats 2000000 in
theorem usesO_c (o : Opr) (w : World) : Calls Tryd.prog 35 #[opV o] w fun e w' => ∃ v, e = .returned v ∧ w'.ownsRow w.heap.size 3 1 v (usesL o).length (flI (usesL o)) ∧ Below w.heap.size w w' := by
  have hmf : ∀ (fn : Fn) (first cap : Array Value) (w : World), (Instr.makeFunc fn first cap).run Tryd.prog w = .ok (.func fn first cap) w := fun _ _ _ _ => rfl
  have hb := below_alloc w (.cells (opA o) 33)
  have L : LocO w.heap.size o (w.alloc (.cells (opA o) 33)) := LocO.new w _
  go_enter Tryd.func35, Tryd.ntmps35
  go_upto_region 1 with fail
  generalize w.alloc (.cells (opA o) 33) = w1 at *
  have k1 := orNothingO_c (w := w1) (bb := w.heap.size) (zs := usesL o) (fun w2 B => clo36_c (L.grow B))
  clear L
  go_wp2_with (first | (go_at_call 45; (with_reducible refine k1.mono ?_); clear k1; rintro e w2 ⟨v, rfl, R, B2⟩; dsimp only))
  go_ret
  exact ⟨_, rfl, own_mono R hb.size, below_then hb (Nat.le_refl _) B2⟩
end Go.Proofs.YtejlmggfeejgpaaDoor
