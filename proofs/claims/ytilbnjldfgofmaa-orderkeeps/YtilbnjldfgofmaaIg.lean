/- Right, asked of any block. -/
import Derived.Test.YtilbnjldfgofmaaIf
import Derived.Defers
import Derived.Recover
import Derived.Laws.Pointers
namespace Go.Proofs.Ytilbnjldfgofmaa
open Go.RowKit
set_option linter.unusedVariables false
set_option linter.unusedSimpArgs false
set_option maxRecDepth 8000

theorem bl_inf (pc words el : Int) (v : Value) : (Try.prog.info? 25).map (·.size) = some (blA pc words el v).size := by
  show (Try.prog.info? 25).map (·.size) = some 4
  kernel_rfl
def RightR (w : World) (r : Bool) (e : Ending) (w' : World) : Prop := (e = .returned (.bool r) ∨ (e = .panicked pan ∧ r = false)) ∧ Below w.heap.size w w'
theorem headB_len {pc words el : Int} {l : List Opr} (h : headB pc words el l = true) : 1 ≤ l.length ∧ l.length ≤ 512 := by
  unfold headB at h
  simp only [Bool.and_eq_true, decide_eq_true_eq] at h
  omega
set_option maxHeartbeats 4000000 in
theorem clo_c {w : World} {v : Value} {l : List Opr} {pc words el : Int} {bb : Nat} (hpc : 0 ≤ pc) (O : Ops w v l) (himm : ∀ k, 0 ≤ (opAt l k).imm) (hcap : ∀ ao n cap, v = .slice ao n cap → n ≤ cap) (hb : w.heap[bb]? = some (.cells (blA pc words el v) 25)) :
    Calls Try.prog 63 #[ptr bb 0] w (RightR w (rightB pc words el l)) := by
  unfold rightB
  have k1 := head_c pc words el hpc O
  cases hh : headB pc words el l with
  | false =>
    rw [hh] at k1
    go_enter Try.func63, Try.ntmps63
    go_wp2_with (first | ((with_reducible refine wpList_load_if rfl 25 _ rfl _ rfl 25 _ (0, 0) _ hb Try.underlying25 rfl (bl_inf _ _ _ _) ?_); simp only [Act.put, List.setIfInBounds_toArray, List.set_cons_succ, List.set_cons_zero]) | (go_at_call 64; (with_reducible refine k1.mono ?_); clear k1; rintro e w1 ⟨rfl, B⟩; dsimp only))
    go_ret
    exact ⟨.inl rfl, B⟩
  | true =>
    rw [hh] at k1
    obtain ⟨h1, h2⟩ := headB_len hh
    have k2 := fun w1 (B : Below w.heap.size w w1) => areOps_c (O.grow B) h2 himm hcap
    have c3 : ∀ w1, Below w.heap.size w w1 → w1.cell? ⟨bb, 3, none⟩ = some v := fun w1 B => by
      rw [cell_of_row _ _ _ _ _ _ (show w1.heap[bb]? = some (.cells (blA pc words el v) 25) by rw [B.block _ (lt_of_some hb)]; exact hb)]; rfl
    go_enter Try.func63, Try.ntmps63
    go_wp2_with (first | ((with_reducible refine wpList_load_if rfl 25 _ rfl _ rfl 25 _ (0, 0) _ hb Try.underlying25 rfl (bl_inf _ _ _ _) ?_); simp only [Act.put, List.setIfInBounds_toArray, List.set_cons_succ, List.set_cons_zero]) | (go_at_call 64; (with_reducible refine k1.mono ?_); clear k1; rintro e w1 ⟨rfl, B⟩; dsimp only; replace c3 := c3 w1 B; replace k2 := k2 w1 B) | (go_at_call 65; (with_reducible refine k2.mono ?_); clear k2; rintro e w2 ⟨he | ⟨he, hf⟩, B2⟩ <;> subst he <;> dsimp only))
    · go_ret
      exact ⟨.inl rfl, below_then B (Nat.le_refl _) B2⟩
    · exact ⟨rfl, .inr ⟨rfl, by rw [hf]⟩, below_then B (Nat.le_refl _) B2⟩
theorem catch_idle (p : Addr) (w : World) :
    CallsD Try.prog 76 #[.pointer (some p)] .returning w fun e u' w' => e = .returned (.tuple #[]) ∧ u' = .returning ∧ w' = w := by
  refine callsD_of_wpS Try.func76 rfl fun c₀ cs hu => ?_
  apply wpS_seq
  apply wpS_region
  simp [wpOpsS, go_sem, recoverD, hu, Try.ntmps76, Exit.thenS]
  refine wpS_cond (t := false) (by simp [Act.eval, Array.replicate]) ?_
  simp only [Bool.false_eq_true, if_false]
  refine wpS_of_wp (wp_skip ?_)
  cases c₀
  simp_all [bodyPostS, results, Try.results76]
theorem catch_panicking (p : Addr) (x : Bool) (u : TypeId) (pv : Value) (older : List PanicEntry) (w : World) (hc : w.cell? p = some (.bool x)) (hz : w.frozen? p = false) :
    CallsD Try.prog 76 #[.pointer (some p)] (.panicking ({ v := .iface u pv, recovered := false } :: older)) w fun e u' w' =>
      e = .returned (.tuple #[]) ∧ u' = .panicking ({ v := .iface u pv, recovered := true } :: older) ∧ w' = w.setCell p (.bool false) := by
  refine callsD_of_wpS Try.func76 rfl fun c₀ cs hu => ?_
  apply wpS_seq
  apply wpS_region
  simp [wpOpsS, go_sem, recoverD, hu, Try.ntmps76, Exit.thenS]
  refine wpS_cond (t := true) (by simp [Act.eval, Array.replicate]) ?_
  simp only [if_true]
  apply wpS_seq
  apply wpS_region
  simp [wpOpsS, go_sem, Exit.thenS]
  apply wpS_region
  simp [wpOpsS, go_sem, hc, hz, bodyPostS, results, Try.results76]
theorem below_cell {w x : World} {b k : Nat} {u : Value} (h : Below w.heap.size w x) (hb : w.heap.size ≤ b) : Below w.heap.size w (x.setCell ⟨b, k, none⟩ u) :=
  ⟨h.os, h.tape, h.output, Nat.le_trans h.size (by simp [World.setCell]), fun j hj => by rw [Below.heap_setCell _ _ _ _ (by show j ≠ b; omega)]; exact h.block j hj⟩
set_option maxHeartbeats 4000000 in
theorem orNothing_c {w : World} {bb : Nat} {r : Bool} (hc : ∀ w1, Below w.heap.size w w1 → Calls Try.prog 63 #[ptr bb 0] w1 (RightR w1 r)) : Calls Try.prog 62 #[.func (.func 63) #[] #[ptr bb 0]] w fun e w' => e = .returned (.bool r) ∧ Below w.heap.size w w' := by
  have hmf : ∀ (fn : Fn) (first cap : Array Value) (w : World), (Instr.makeFunc fn first cap).run Try.prog w = .ok (.func fn first cap) w := fun _ _ _ _ => rfl
  have hb := below_alloc w (Obj.cells #[.bool false] 4)
  have hcc := hc _ hb
  have hrow : (w.alloc (Obj.cells #[.bool false] 4)).heap[w.heap.size]? = some (.cells #[.bool false] 4) := heap_alloc_new _ _
  go_enter_defers Try.func62, Try.ntmps62
  go_upto_region 2 with fail
  generalize w.alloc (Obj.cells #[.bool false] 4) = w1 at *
  go_wp2_with (first | (go_at_call 63; (with_reducible refine hcc.mono ?_); clear hcc hc; rintro e w2 ⟨he | ⟨he, hf⟩, B2⟩ <;> subst he <;> dsimp only <;> (replace hrow : w2.heap[w.heap.size]? = some (.cells #[.bool false] 4) := by rw [B2.block _ (lt_of_some hrow)]; exact hrow) <;> (replace hb := below_then hb (Nat.le_refl _) B2) <;> clear B2 <;> (have z : w2.cell? ⟨w.heap.size, 0, none⟩ = some (.bool false) := by rw [cell_of_row _ _ _ _ _ _ hrow]; rfl) <;> (have f : w2.frozen? ⟨w.heap.size, 0, none⟩ = false := frozen_of_row _ _ _ _ _ hrow)))
  · refine leaves_cons (f := 76) (args := #[.pointer (some ⟨w.heap.size, 0, none⟩)]) (by simp) (by simp [go_sem]) ?_
    refine (catch_idle ⟨w.heap.size, 0, none⟩ _).mono ?_
    rintro e u' w'' ⟨rfl, rfl, rfl⟩
    have hr2 := heap_setCell_same w2 w.heap.size 0 #[.bool false] 4 (.bool r) hrow
    have z2 : (w2.setCell ⟨w.heap.size, 0, none⟩ (.bool r)).cell? ⟨w.heap.size, 0, none⟩ = some (.bool r) := by rw [cell_of_row _ _ _ _ _ _ hr2]; rfl
    simp [Leaves, settle, results, Try.results62, go_sem, z2]
    exact below_cell hb (Nat.le_refl _)
  · refine leaves_cons (f := 76) (args := #[.pointer (some ⟨w.heap.size, 0, none⟩)]) (by simp) (by simp [go_sem]) ?_
    refine (catch_panicking ⟨w.heap.size, 0, none⟩ false 29 (vI 4) [] _ z f).mono ?_
    rintro e u' w'' ⟨rfl, rfl, rfl⟩
    have hr2 := heap_setCell_same w2 w.heap.size 0 #[.bool false] 4 (.bool false) hrow
    have z2 : (w2.setCell ⟨w.heap.size, 0, none⟩ (.bool false)).cell? ⟨w.heap.size, 0, none⟩ = some (.bool false) := by rw [cell_of_row _ _ _ _ _ _ hr2]; rfl
    simp [Leaves, settle, results, Try.results62, go_sem, z2]
    exact ⟨hf, below_cell hb (Nat.le_refl _)⟩
set_option maxHeartbeats 4000000 in
theorem right_c {w : World} {v : Value} {l : List Opr} {pc words el : Int} (hpc : 0 ≤ pc) (O : Ops w v l) (himm : ∀ k, 0 ≤ (opAt l k).imm) (hcap : ∀ ao n cap, v = .slice ao n cap → n ≤ cap) :
    Calls Try.prog 35 #[blV pc words el v] w fun e w' => e = .returned (.bool (rightB pc words el l)) ∧ Below w.heap.size w w' := by
  have hmf : ∀ (fn : Fn) (first cap : Array Value) (w : World), (Instr.makeFunc fn first cap).run Try.prog w = .ok (.func fn first cap) w := fun _ _ _ _ => rfl
  have hb := below_alloc w (.cells (blA pc words el v) 25)
  have O1 := O.grow hb
  have hrow : (w.alloc (.cells (blA pc words el v) 25)).heap[w.heap.size]? = some (.cells (blA pc words el v) 25) := heap_alloc_new _ _
  go_enter Try.func35, Try.ntmps35
  go_upto_region 1 with fail
  generalize w.alloc (.cells (blA pc words el v) 25) = w1 at *
  have k1 := orNothing_c (w := w1) (bb := w.heap.size) (r := rightB pc words el l) (fun w2 B => clo_c hpc (O1.grow B) himm hcap (by rw [B.block _ (lt_of_some hrow)]; exact hrow))
  clear O O1 hrow
  go_wp2_with (first | (go_at_call 62; (with_reducible refine k1.mono ?_); clear k1; rintro e w2 ⟨rfl, B2⟩; dsimp only))
  go_ret
  exact ⟨rfl, below_then hb (Nat.le_refl _) B2⟩
end Go.Proofs.Ytilbnjldfgofmaa
