/- Ea, Eb, Ec of the seat, joined. -/
import Derived.Test.YtilbnjldfgofmabXw
/- The examples: blocks. -/
namespace Go.Proofs.Ytilbnjldfgofmab
open Go.RowKit
set_option linter.unusedVariables false
set_option linter.unusedSimpArgs false
set_option maxRecDepth 8000

def tAL : List Opr := [⟨14, 0, 0, 0, 0, 64⟩, ⟨2, 1, 0, 0, 0, 0⟩, ⟨1, 0, 0, 0, 0, 8⟩, ⟨8, 1, 1, 2, 0, 0⟩, ⟨10, 0, 1, 2, 0, 0⟩, ⟨14, 0, 0, 0, 0, 68⟩, ⟨9, 0, 1, 0, 0, 0⟩, ⟨3, 0, 6, 0, 0, 0⟩, ⟨16, 0, 0, 0, 0, 72⟩]
theorem tA_imm (k : Nat) : 0 ≤ (opAt tAL k).imm := by
  match k with
  | 0 => exact (by decide)
  | 1 => exact (by decide)
  | 2 => exact (by decide)
  | 3 => exact (by decide)
  | 4 => exact (by decide)
  | 5 => exact (by decide)
  | 6 => exact (by decide)
  | 7 => exact (by decide)
  | 8 => exact (by decide)
  | k + 9 => show (0 : Int) ≤ 0; decide
theorem run_tA (w : World) : (Instr.buildSlice 23 9 #[(0, .agg #[vI 14, vI 0, vI 0, vI 0, vI 0, vU 64]), (1, .agg #[vI 2, vI 1, vI 0, vI 0, vI 0, vU 0]), (2, .agg #[vI 1, vI 0, vI 0, vI 0, vI 0, vU 8]), (3, .agg #[vI 8, vI 1, vI 1, vI 2, vI 0, vU 0]), (4, .agg #[vI 10, vI 0, vI 1, vI 2, vI 0, vU 0]), (5, .agg #[vI 14, vI 0, vI 0, vI 0, vI 0, vU 68]), (6, .agg #[vI 9, vI 0, vI 1, vI 0, vI 0, vU 0]), (7, .agg #[vI 3, vI 0, vI 6, vI 0, vI 0, vU 0]), (8, .agg #[vI 16, vI 0, vI 0, vI 0, vI 0, vU 72])]).run Try.prog w = .ok (.slice (some ⟨w.heap.size, 0, none⟩) 9 9) (w.alloc (.cells (opF tAL).toArray 36)) := by
  obtain ⟨i, hi, hz, hs, hby⟩ := info_parts info42
  exact run_buildSlice (P := Try.prog) w 23 36 9 _ _ i (opV nilO) Try.underlying23 hi hz (by rw [hs]; decide) (by rw [hs]; decide) (by rw [hs]; kernel_rfl)
theorem wpList_tA {ops : Array Oper} {rest : List Oper} {p : Oper} {a : Act} {w : World} {Q : Exit → Act → World → Prop} (hg : p.guard = none) (x0 x1 x2 x3 x4 x5 x6 x7 x8 : Operand) (ho : p.op = .buildSlice 23 9 #[(0, x0), (1, x1), (2, x2), (3, x3), (4, x4), (5, x5), (6, x6), (7, x7), (8, x8)])
    (h0 : a.eval x0 = .agg #[vI 14, vI 0, vI 0, vI 0, vI 0, vU 64])
    (h1 : a.eval x1 = .agg #[vI 2, vI 1, vI 0, vI 0, vI 0, vU 0])
    (h2 : a.eval x2 = .agg #[vI 1, vI 0, vI 0, vI 0, vI 0, vU 8])
    (h3 : a.eval x3 = .agg #[vI 8, vI 1, vI 1, vI 2, vI 0, vU 0])
    (h4 : a.eval x4 = .agg #[vI 10, vI 0, vI 1, vI 2, vI 0, vU 0])
    (h5 : a.eval x5 = .agg #[vI 14, vI 0, vI 0, vI 0, vI 0, vU 68])
    (h6 : a.eval x6 = .agg #[vI 9, vI 0, vI 1, vI 0, vI 0, vU 0])
    (h7 : a.eval x7 = .agg #[vI 3, vI 0, vI 6, vI 0, vI 0, vU 0])
    (h8 : a.eval x8 = .agg #[vI 16, vI 0, vI 0, vI 0, vI 0, vU 72])
    (h : wpList Try.prog ops Q rest (a.put p.dst (.slice (some ⟨w.heap.size, 0, none⟩) 9 9)) (w.alloc (.cells (opF tAL).toArray 36))) : wpList Try.prog ops Q (p :: rest) a w :=
  wpList_plain hg fun _ hK => by
    unfold Oper.wp execOp
    simp only [ho, Sem.run_bind, List.map_toArray, List.map_cons, List.map_nil, h0, h1, h2, h3, h4, h5, h6, h7, h8, run_tA, Result.andThen_ok]
    exact hK _ _ h
def tML : List Opr := [⟨14, 0, 0, 0, 0, 64⟩, ⟨13, 13, 0, 0, 0, 0⟩, ⟨13, 10, 0, 0, 0, 0⟩, ⟨16, 0, 0, 0, 0, 68⟩]
theorem tM_imm (k : Nat) : 0 ≤ (opAt tML k).imm := by
  match k with
  | 0 => exact (by decide)
  | 1 => exact (by decide)
  | 2 => exact (by decide)
  | 3 => exact (by decide)
  | k + 4 => show (0 : Int) ≤ 0; decide
theorem run_tM (w : World) : (Instr.buildSlice 23 4 #[(0, .agg #[vI 14, vI 0, vI 0, vI 0, vI 0, vU 64]), (1, .agg #[vI 13, vI 13, vI 0, vI 0, vI 0, vU 0]), (2, .agg #[vI 13, vI 10, vI 0, vI 0, vI 0, vU 0]), (3, .agg #[vI 16, vI 0, vI 0, vI 0, vI 0, vU 68])]).run Try.prog w = .ok (.slice (some ⟨w.heap.size, 0, none⟩) 4 4) (w.alloc (.cells (opF tML).toArray 36)) := by
  obtain ⟨i, hi, hz, hs, hby⟩ := info_parts info42
  exact run_buildSlice (P := Try.prog) w 23 36 4 _ _ i (opV nilO) Try.underlying23 hi hz (by rw [hs]; decide) (by rw [hs]; decide) (by rw [hs]; kernel_rfl)
theorem wpList_tM {ops : Array Oper} {rest : List Oper} {p : Oper} {a : Act} {w : World} {Q : Exit → Act → World → Prop} (hg : p.guard = none) (x0 x1 x2 x3 : Operand) (ho : p.op = .buildSlice 23 4 #[(0, x0), (1, x1), (2, x2), (3, x3)])
    (h0 : a.eval x0 = .agg #[vI 14, vI 0, vI 0, vI 0, vI 0, vU 64])
    (h1 : a.eval x1 = .agg #[vI 13, vI 13, vI 0, vI 0, vI 0, vU 0])
    (h2 : a.eval x2 = .agg #[vI 13, vI 10, vI 0, vI 0, vI 0, vU 0])
    (h3 : a.eval x3 = .agg #[vI 16, vI 0, vI 0, vI 0, vI 0, vU 68])
    (h : wpList Try.prog ops Q rest (a.put p.dst (.slice (some ⟨w.heap.size, 0, none⟩) 4 4)) (w.alloc (.cells (opF tML).toArray 36))) : wpList Try.prog ops Q (p :: rest) a w :=
  wpList_plain hg fun _ hK => by
    unfold Oper.wp execOp
    simp only [ho, Sem.run_bind, List.map_toArray, List.map_cons, List.map_nil, h0, h1, h2, h3, run_tM, Result.andThen_ok]
    exact hK _ _ h

def tBL : List Opr := [⟨14, 0, 0, 0, 0, 64⟩, ⟨2, 1, 0, 0, 0, 0⟩, ⟨1, 0, 0, 0, 0, 8⟩, ⟨8, 1, 1, 2, 0, 0⟩, ⟨10, 0, 1, 2, 0, 0⟩, ⟨14, 0, 0, 0, 0, 68⟩, ⟨9, 0, 3, 0, 0, 0⟩, ⟨3, 0, 6, 0, 0, 0⟩, ⟨16, 0, 0, 0, 0, 72⟩]
theorem tB_imm (k : Nat) : 0 ≤ (opAt tBL k).imm := by
  match k with
  | 0 => exact (by decide)
  | 1 => exact (by decide)
  | 2 => exact (by decide)
  | 3 => exact (by decide)
  | 4 => exact (by decide)
  | 5 => exact (by decide)
  | 6 => exact (by decide)
  | 7 => exact (by decide)
  | 8 => exact (by decide)
  | k + 9 => show (0 : Int) ≤ 0; decide
theorem tA_right : rightB 64 2 1 tAL = true := by decide +kernel
theorem tB_right : rightB 64 2 1 tBL = true := by decide +kernel
theorem tM_right : rightB 64 1 0 tML = true := by decide +kernel
theorem tA_loads : (loadsL tAL).length = 8 ∧ (loadsL tAL)[6]? = some ⟨3, 0, 2, 0, 0, 0⟩ := by decide +kernel
theorem tB_move : (moveL tBL).length = 9 ∧ ((moveL tBL)[4]?.map (·.kind)) = some 9 ∧ ((moveL tBL)[5]?.map (·.kind)) = some 10 := by decide +kernel
theorem tM_merge : (mergeL tML).length = 3 ∧ (mergeL tML)[1]? = some ⟨13, 15, 0, 0, 0, 0⟩ := by decide +kernel
theorem tB_may : mayL 64 2 1 tBL 4 = (true, 0) := by decide +kernel
theorem tA_may : mayL 64 2 1 tAL 4 = (false, 0) := by decide +kernel
theorem tA_may9 : mayL 64 2 1 tAL 9 = (false, 1) := by decide +kernel
theorem set38 : (opF tAL).toArray.setIfInBounds 38 (vI 3) = (opF tBL).toArray := by kernel_rfl
end Go.Proofs.Ytilbnjldfgofmab
/- The examples: what is told of the blocks. -/
namespace Go.Proofs.Ytilbnjldfgofmab
open Go.RowKit
set_option linter.unusedVariables false
set_option linter.unusedSimpArgs false
set_option maxRecDepth 8000

theorem back25 {fn : Func} {p : Tmp} {pc words el : Int} {v : Value} (h : fn.results = #[.cell p 25]) (tmps : Array Value) (w : World) (g : Nat) (hp : tmps.getD p undef = ptr g 0) (H : w.heap[g]? = some (.cells (blA pc words el v) 25)) : (results fn tmps).run Try.prog w = .ok (blV pc words el v) w :=
  results_cell_row h tmps w g 25 (blA pc words el v) (0, 0) _ hp H Try.underlying25 rfl (bl_inf _ _ _ _)
theorem wpList_eqlO {ops : Array Oper} {rest : List Oper} {o : Oper} {a : Act} {w : World} {Q : Exit → Act → World → Prop} (hw : Region.wanted o (yielded ops a.tmps) = true) (x y : Operand) (ho : o.op = .binOp .eql 36 x y 36)
    (c d : Opr) (hx : a.eval x = opV c) (hy : a.eval y = opV d) (b : Bool) (hb : decide (c = d) = b) (h : wpList Try.prog ops Q rest (a.put o.dst (.bool b)) w) : wpList Try.prog ops Q (o :: rest) a w := by
  refine BigFrame.wpList_want hw fun K hK => ?_
  have he := op_eq c d w
  rw [hb] at he
  unfold Oper.wp execOp
  simp only [ho, hx, hy, Sem.run_bind, run_eqGuard_agg w _ _ _ _ _ _ guard42, Result.andThen_ok, run_eql_struct, he]
  exact hK _ _ h
theorem wpList_builtW {ops : Array Oper} {rest : List Oper} {o : Oper} {a : Act} {w : World} {Q : Exit → Act → World → Prop} (hw : Region.wanted o (yielded ops a.tmps) = true) (t : TypeId) (parts : Array (Nat × Operand)) (ho : o.op = .build t parts)
    (cs : Array Value) (hf : Try.prog.built t (parts.map fun (i, x) => (i, a.eval x)).toList = some cs)
    (h : wpList Try.prog ops Q rest (a.put o.dst (.agg cs)) w) : wpList Try.prog ops Q (o :: rest) a w := by
  refine BigFrame.wpList_want hw fun K hK => ?_
  exact wp_build t parts ho (by rw [hf]; rfl) (hK _ _ (by rw [hf]; exact h))
set_option maxHeartbeats 4000000 in
theorem two0_c (w : World) : Calls Try.prog 9 #[vI 0] w fun e w' => ∃ g, e = .returned (blV 64 2 1 (.slice (some ⟨g, 0, none⟩) 9 9)) ∧ w'.heap[g]? = some (.cells (opF tAL).toArray 36) ∧ Below w.heap.size w w' := by
  have hrow : (w.alloc (.cells (blA 0 0 0 (.slice none 0 0)) 25)).heap[w.heap.size]? = some (.cells (blA 0 0 0 (.slice none 0 0)) 25) := heap_alloc_new _ _
  have hb := below_alloc w (.cells (blA 0 0 0 (.slice none 0 0)) 25)
  go_enter Try.func9, Try.ntmps9
  go_upto_region 1 with fail
  generalize w.alloc (.cells (blA 0 0 0 (.slice none 0 0)) 25) = w1 at *
  have hr2 := keepRow hrow (below_alloc w1 (.cells (opF tAL).toArray 36))
  have hx : (w1.alloc (.cells (opF tAL).toArray 36)).heap[w1.heap.size]? = some (.cells (opF tAL).toArray 36) := heap_alloc_new _ _
  have hb2 := below_then hb (Nat.le_refl _) (below_alloc w1 (.cells (opF tAL).toArray 36))
  have hne : w.heap.size ≠ w1.heap.size := Nat.ne_of_lt (lt_of_some hrow)
  have hlg := hb.size
  obtain ⟨g, hg⟩ : ∃ g, g = w1.heap.size := ⟨_, rfl⟩
  obtain ⟨b2, hb2'⟩ : ∃ b2, b2 = w.heap.size := ⟨_, rfl⟩
  rw [← hg, ← hb2'] at hne
  rw [← hb2'] at hr2 ⊢
  rw [← hg] at hx hlg
  clear hrow hb
  go_upto_region 2 with (first | ((with_reducible refine wpList_tA rfl _ _ _ _ _ _ _ _ _ rfl rfl rfl rfl rfl rfl rfl rfl rfl rfl ?_); rw [← hg]; simp only [Act.put, List.setIfInBounds_toArray, List.set_cons_succ, List.set_cons_zero]; generalize w1.alloc (.cells (opF tAL).toArray 36) = w2 at *; have Hn := has_none w2) | ((with_reducible refine wpList_built rfl 25 _ rfl (blA 64 2 1 (.slice (some ⟨g, 0, none⟩) 9 9)) (by kernel_rfl) ?_); simp only [Act.put, List.setIfInBounds_toArray, List.set_cons_succ, List.set_cons_zero]) | ((with_reducible refine wpList_store_new Hn rfl 25 _ _ rfl (blA 64 2 1 (.slice (some ⟨g, 0, none⟩) 9 9)) rfl rfl (bl_inf _ _ _ _) (by kernel_rfl) (blk_one _ _ _ _ rfl) ?_); clear Hn; intro w3 Hn; simp only [Act.put, List.setIfInBounds_toArray, List.set_cons_succ, List.set_cons_zero]))
  have r3 : w3.heap[w2.heap.size]? = some (.cells (blA 64 2 1 (.slice (some ⟨g, 0, none⟩) 9 9)) 25) := Hn.get List.mem_cons_self
  have hx3 := keepRow hx Hn.below
  replace hr2 := keepRow hr2 Hn.below
  have hb3 := below_then hb2 (Nat.le_refl _) Hn.below
  have hng : w2.heap.size ≠ g := fun e => by have := lt_of_some hx; omega
  have hn2 : b2 ≠ w2.heap.size := fun e => by subst e; exact absurd (hb2'.symm ▸ hb2.size) (by have := lt_of_some hx; omega)
  clear Hn hb2 hx
  generalize w2.heap.size = b3 at *
  clear w2 hg w1
  go_upto_region 4 with fail
  go_wp2_with (first | ((with_reducible refine wpList_load_if rfl 25 _ rfl _ rfl 25 _ (0, 0) _ r3 Try.underlying25 rfl (bl_inf _ _ _ _) ?_); simp only [Act.put, List.setIfInBounds_toArray, List.set_cons_succ, List.set_cons_zero]) | ((with_reducible refine wpList_store_row rfl 25 _ _ rfl b2 (blA 64 2 1 (.slice (some ⟨g, 0, none⟩) 9 9)) rfl rfl 25 _ hr2 (bl_inf _ _ _ _) rfl (blk_one _ _ _ _ rfl) ?_); simp only [Act.put, List.setIfInBounds_toArray, List.set_cons_succ, List.set_cons_zero]))
  refine bodyPost_ret (back25 rfl _ _ b2 rfl (setRow_heap _ _ _ _ _ _ hr2)) rfl ?_
  exact ⟨g, rfl, (setRow_other _ _ _ _ (Ne.symm hne)).trans hx3, below_setRow hb3 (by omega)⟩
set_option maxHeartbeats 4000000 in
theorem two1_c (w : World) : Calls Try.prog 9 #[vI 1] w fun e w' => ∃ g, e = .returned (blV 64 2 1 (.slice (some ⟨g, 0, none⟩) 9 9)) ∧ w'.heap[g]? = some (.cells (opF tBL).toArray 36) ∧ Below w.heap.size w w' := by
  have hrow : (w.alloc (.cells (blA 0 0 0 (.slice none 0 0)) 25)).heap[w.heap.size]? = some (.cells (blA 0 0 0 (.slice none 0 0)) 25) := heap_alloc_new _ _
  have hb := below_alloc w (.cells (blA 0 0 0 (.slice none 0 0)) 25)
  go_enter Try.func9, Try.ntmps9
  go_upto_region 1 with fail
  generalize w.alloc (.cells (blA 0 0 0 (.slice none 0 0)) 25) = w1 at *
  have hr2 := keepRow hrow (below_alloc w1 (.cells (opF tAL).toArray 36))
  have hx : (w1.alloc (.cells (opF tAL).toArray 36)).heap[w1.heap.size]? = some (.cells (opF tAL).toArray 36) := heap_alloc_new _ _
  have hb2 := below_then hb (Nat.le_refl _) (below_alloc w1 (.cells (opF tAL).toArray 36))
  have hne : w.heap.size ≠ w1.heap.size := Nat.ne_of_lt (lt_of_some hrow)
  have hlg := hb.size
  obtain ⟨g, hg⟩ : ∃ g, g = w1.heap.size := ⟨_, rfl⟩
  obtain ⟨b2, hb2'⟩ : ∃ b2, b2 = w.heap.size := ⟨_, rfl⟩
  rw [← hg, ← hb2'] at hne
  rw [← hb2'] at hr2 ⊢
  rw [← hg] at hx hlg
  clear hrow hb
  go_upto_region 2 with (first | ((with_reducible refine wpList_tA rfl _ _ _ _ _ _ _ _ _ rfl rfl rfl rfl rfl rfl rfl rfl rfl rfl ?_); rw [← hg]; simp only [Act.put, List.setIfInBounds_toArray, List.set_cons_succ, List.set_cons_zero]; generalize w1.alloc (.cells (opF tAL).toArray 36) = w2 at *; have Hn := has_none w2) | ((with_reducible refine wpList_built rfl 25 _ rfl (blA 64 2 1 (.slice (some ⟨g, 0, none⟩) 9 9)) (by kernel_rfl) ?_); simp only [Act.put, List.setIfInBounds_toArray, List.set_cons_succ, List.set_cons_zero]) | ((with_reducible refine wpList_store_new Hn rfl 25 _ _ rfl (blA 64 2 1 (.slice (some ⟨g, 0, none⟩) 9 9)) rfl rfl (bl_inf _ _ _ _) (by kernel_rfl) (blk_one _ _ _ _ rfl) ?_); clear Hn; intro w3 Hn; simp only [Act.put, List.setIfInBounds_toArray, List.set_cons_succ, List.set_cons_zero]))
  have r3 : w3.heap[w2.heap.size]? = some (.cells (blA 64 2 1 (.slice (some ⟨g, 0, none⟩) 9 9)) 25) := Hn.get List.mem_cons_self
  have hx3 := keepRow hx Hn.below
  replace hr2 := keepRow hr2 Hn.below
  have hb3 := below_then hb2 (Nat.le_refl _) Hn.below
  have hng : w2.heap.size ≠ g := fun e => by have := lt_of_some hx; omega
  have hn2 : b2 ≠ w2.heap.size := fun e => by subst e; exact absurd (hb2'.symm ▸ hb2.size) (by have := lt_of_some hx; omega)
  clear Hn hb2 hx
  generalize w2.heap.size = b3 at *
  clear w2 hg w1
  have z3 : w3.cell? ⟨b3, 3, none⟩ = some (.slice (some ⟨g, 0, none⟩) 9 9) := by rw [cell_of_row _ _ _ _ _ _ r3]; rfl
  have z38 : w3.cell? ⟨g, 38, none⟩ = some (vI 1) := by rw [cell_of_row _ _ _ _ _ _ hx3]; kernel_rfl
  have f38 : w3.frozen? ⟨g, 38, none⟩ = false := frozen_of_row _ _ _ _ _ hx3
  have x4 : (w3.setCell ⟨g, 38, none⟩ (vI 3)).heap[g]? = some (.cells (opF tBL).toArray 36) := by
    rw [heap_setCell_same _ _ _ _ _ _ hx3, set38]
  have hb4 : Below w.heap.size w (w3.setCell ⟨g, 38, none⟩ (vI 3)) := below_cell hb3 hlg
  have r4 : (w3.setCell ⟨g, 38, none⟩ (vI 3)).heap[b3]? = some (.cells (blA 64 2 1 (.slice (some ⟨g, 0, none⟩) 9 9)) 25) := (Below.heap_setCell _ _ _ _ hng).trans r3
  have hr4 := (Below.heap_setCell w3 ⟨g, 38, none⟩ (vI 3) b2 hne).trans hr2
  go_upto_region 4 with fail
  clear z3 z38 f38 hx3 r3 hr2 hb3
  generalize w3.setCell ⟨g, 38, none⟩ (vI 3) = w4 at *
  go_wp2_with (first | ((with_reducible refine wpList_load_if rfl 25 _ rfl _ rfl 25 _ (0, 0) _ r4 Try.underlying25 rfl (bl_inf _ _ _ _) ?_); simp only [Act.put, List.setIfInBounds_toArray, List.set_cons_succ, List.set_cons_zero]) | ((with_reducible refine wpList_store_row rfl 25 _ _ rfl b2 (blA 64 2 1 (.slice (some ⟨g, 0, none⟩) 9 9)) rfl rfl 25 _ hr4 (bl_inf _ _ _ _) rfl (blk_one _ _ _ _ rfl) ?_); simp only [Act.put, List.setIfInBounds_toArray, List.set_cons_succ, List.set_cons_zero]))
  refine bodyPost_ret (back25 rfl _ _ b2 rfl (setRow_heap _ _ _ _ _ _ hr4)) rfl ?_
  exact ⟨g, rfl, (setRow_other _ _ _ _ (Ne.symm hne)).trans x4, below_setRow hb4 (by omega)⟩

theorem sl_cap (b n : Nat) : ∀ ao m cap, Value.slice (some ⟨b, 0, none⟩) n n = .slice ao m cap → m ≤ cap := fun _ _ _ e => by cases e; exact Nat.le_refl _
section
variable {w : World} {b : Nat}
theorem row_ops {l : List Opr} (h : w.heap[b]? = some (.cells (opF l).toArray 36)) (hm : l.length ≤ maxLen) : Ops w (.slice (some ⟨b, 0, none⟩) l.length l.length) l := (opsC_of (own_row (Nat.zero_le b) h hm) hm).ops
theorem exLoads_c (h : w.heap[b]? = some (.cells (opF tAL).toArray 36)) : Calls Try.prog 6 #[blV 64 2 1 (.slice (some ⟨b, 0, none⟩) 9 9)] w fun e w' => ∃ g cap, e = .returned (.tuple #[blV 64 2 1 (.slice (some ⟨g, 0, none⟩) 8 cap), vI 0]) ∧ OpAt w' ⟨g, 36, none⟩ ⟨3, 0, 2, 0, 0, 0⟩ ∧ Below w.heap.size w w' := by
  refine (loads_pass (pc := 64) (words := 2) (el := 1) (by decide) (row_ops h (by decide)) tA_imm (sl_cap b 9)).mono ?_
  rintro e w' ⟨B, ⟨hr, _⟩ | ⟨_, u, rfl, ho⟩⟩
  · rw [tA_right] at hr; cases hr
  · rw [tA_loads.1] at ho
    have ho2 : w'.ownsRow w.heap.size 36 6 u (loadsL tAL).length (opF (loadsL tAL)) := by rw [tA_loads.1]; exact ho
    obtain ⟨ra, cap, e', hc⟩ := (opsC_of ho2 (by rw [tA_loads.1]; decide)).ops.cell (by rw [tA_loads.1]; decide)
    rcases ho.2 with ⟨_, h0⟩ | ⟨g, c, cur, e2, -⟩
    · cases h0
    · subst e2
      cases e'
      exact ⟨_, _, rfl, hc 6 _ tA_loads.2, B⟩
theorem exMove_c (h : w.heap[b]? = some (.cells (opF tBL).toArray 36)) : Calls Try.prog 7 #[blV 64 2 1 (.slice (some ⟨b, 0, none⟩) 9 9)] w fun e w' => ∃ g cap, e = .returned (.tuple #[blV 64 2 1 (.slice (some ⟨g, 0, none⟩) 9 cap), vI 0]) ∧ (∃ o, o.kind = 9 ∧ OpAt w' ⟨g, 24, none⟩ o) ∧ (∃ o, o.kind = 10 ∧ OpAt w' ⟨g, 30, none⟩ o) ∧ Below w.heap.size w w' := by
  refine (move_pass (pc := 64) (words := 2) (el := 1) (by decide) (row_ops h (by decide)) tB_imm (sl_cap b 9)).mono ?_
  rintro e w' ⟨B, ⟨hr, _⟩ | ⟨_, u, rfl, ho⟩⟩
  · rw [tB_right] at hr; cases hr
  · rw [tB_move.1] at ho
    have ho2 : w'.ownsRow w.heap.size 36 6 u (moveL tBL).length (opF (moveL tBL)) := by rw [tB_move.1]; exact ho
    obtain ⟨ra, cap, e', hc⟩ := (opsC_of ho2 (by rw [tB_move.1]; decide)).ops.cell (by rw [tB_move.1]; decide)
    obtain ⟨o4, h4, k4⟩ := Option.map_eq_some_iff.1 tB_move.2.1
    obtain ⟨o5, h5, k5⟩ := Option.map_eq_some_iff.1 tB_move.2.2
    rcases ho.2 with ⟨_, h0⟩ | ⟨g, c, cur, e2, -⟩
    · cases h0
    · subst e2
      cases e'
      exact ⟨_, _, rfl, ⟨o4, k4, hc 4 _ h4⟩, ⟨o5, k5, hc 5 _ h5⟩, B⟩
theorem exMerge_c (h : w.heap[b]? = some (.cells (opF tML).toArray 36)) : Calls Try.prog 5 #[blV 64 1 0 (.slice (some ⟨b, 0, none⟩) 4 4)] w fun e w' => ∃ g cap, e = .returned (.tuple #[blV 64 1 0 (.slice (some ⟨g, 0, none⟩) 3 cap), vI 0]) ∧ OpAt w' ⟨g, 6, none⟩ ⟨13, 15, 0, 0, 0, 0⟩ ∧ Below w.heap.size w w' := by
  refine (merge_pass (pc := 64) (words := 1) (el := 0) (by decide) (row_ops h (by decide)) tM_imm (sl_cap b 4)).mono ?_
  rintro e w' ⟨B, ⟨hr, _⟩ | ⟨_, u, rfl, ho⟩⟩
  · rw [tM_right] at hr; cases hr
  · rw [tM_merge.1] at ho
    have ho2 : w'.ownsRow w.heap.size 36 6 u (mergeL tML).length (opF (mergeL tML)) := by rw [tM_merge.1]; exact ho
    obtain ⟨ra, cap, e', hc⟩ := (opsC_of ho2 (by rw [tM_merge.1]; decide)).ops.cell (by rw [tM_merge.1]; decide)
    rcases ho.2 with ⟨_, h0⟩ | ⟨g, c, cur, e2, -⟩
    · cases h0
    · subst e2
      cases e'
      exact ⟨_, _, rfl, hc 1 _ tM_merge.2, B⟩
theorem exMayA_c (h : w.heap[b]? = some (.cells (opF tAL).toArray 36)) : Calls Try.prog 10 #[blV 64 2 1 (.slice (some ⟨b, 0, none⟩) 9 9), vI 4] w fun e w' => e = .returned (.tuple #[.bool false, vI 0]) ∧ Below w.heap.size w w' := by
  have := may_c (i := 4) (pc := 64) (words := 2) (el := 1) (by decide) (row_ops h (by decide)) tA_imm (sl_cap b 9)
  rwa [tA_may] at this
theorem exMayA9_c (h : w.heap[b]? = some (.cells (opF tAL).toArray 36)) : Calls Try.prog 10 #[blV 64 2 1 (.slice (some ⟨b, 0, none⟩) 9 9), vI 9] w fun e w' => e = .returned (.tuple #[.bool false, vI 1]) ∧ Below w.heap.size w w' := by
  have := may_c (i := 9) (pc := 64) (words := 2) (el := 1) (by decide) (row_ops h (by decide)) tA_imm (sl_cap b 9)
  rwa [tA_may9] at this
theorem exMayB_c (h : w.heap[b]? = some (.cells (opF tBL).toArray 36)) : Calls Try.prog 10 #[blV 64 2 1 (.slice (some ⟨b, 0, none⟩) 9 9), vI 4] w fun e w' => e = .returned (.tuple #[.bool true, vI 0]) ∧ Below w.heap.size w w' := by
  have := may_c (i := 4) (pc := 64) (words := 2) (el := 1) (by decide) (row_ops h (by decide)) tB_imm (sl_cap b 9)
  rwa [tB_may] at this
end
end Go.Proofs.Ytilbnjldfgofmab
/- The examples. -/
namespace Go.Proofs.Ytilbnjldfgofmab
open Go.RowKit
set_option linter.unusedVariables false
set_option linter.unusedSimpArgs false
set_option maxRecDepth 8000

set_option maxHeartbeats 8000000 in
theorem examples_c (w : World) : Calls Try.prog 4 #[] w fun e w' => e = .returned (.bool true) ∧ Below w.heap.size w w' := by
  go_enter Try.func4, Try.ntmps4
  go_upto_region 2 with (first | (go_at_call 9; (with_reducible refine (two0_c _).mono ?_); rintro e w1 ⟨b1, rfl, hb1, B1⟩; dsimp only; have kx := exLoads_c hb1) | (go_at_call 6; (with_reducible refine kx.mono ?_); clear kx; rintro e w2 ⟨g1, c1, rfl, A1, B2⟩; dsimp only; have Hn := has_none w2) | ((with_reducible refine wpList_store_new Hn rfl 25 _ _ rfl (blA 64 2 1 (.slice (some ⟨g1, 0, none⟩) 8 c1)) rfl rfl (bl_inf _ _ _ _) (by kernel_rfl) (blk_one _ _ _ _ rfl) ?_); clear Hn; intro w3 Hn; simp only [Act.put, List.setIfInBounds_toArray, List.set_cons_succ, List.set_cons_zero]))
  have r1 : w3.heap[w2.heap.size]? = some (.cells (blA 64 2 1 (.slice (some ⟨g1, 0, none⟩) 8 c1)) 25) := Hn.get List.mem_cons_self
  replace A1 := A1.grow Hn.below
  have hB := below_then (below_then B1 (Nat.le_refl _) B2) (Nat.le_refl _) Hn.below
  clear Hn B1 B2 hb1
  generalize w2.heap.size = t1 at *
  clear w2 w1
  go_upto_region 3 with (first | (go_at_call 9; (with_reducible refine (two1_c _).mono ?_); rintro e w4 ⟨b4, rfl, hb4, B4⟩; dsimp only; have kx := exMove_c hb4) | (go_at_call 7; (with_reducible refine kx.mono ?_); clear kx; rintro e w5 ⟨g2, c2, rfl, ⟨o4, k4, A4⟩, ⟨o5, k5, A5⟩, B5⟩; dsimp only; have Hn := has_none w5) | ((with_reducible refine wpList_store_new Hn rfl 25 _ _ rfl (blA 64 2 1 (.slice (some ⟨g2, 0, none⟩) 9 c2)) rfl rfl (bl_inf _ _ _ _) (by kernel_rfl) (blk_one _ _ _ _ rfl) ?_); clear Hn; intro w6 Hn; simp only [Act.put, List.setIfInBounds_toArray, List.set_cons_succ, List.set_cons_zero]))
  have r2 : w6.heap[w5.heap.size]? = some (.cells (blA 64 2 1 (.slice (some ⟨g2, 0, none⟩) 9 c2)) 25) := Hn.get List.mem_cons_self
  have hb46 := below_then (below_then B4 (Nat.le_refl _) B5) (Nat.le_refl _) Hn.below
  replace A4 := A4.grow Hn.below
  replace A5 := A5.grow Hn.below
  replace A1 := A1.grow hb46
  replace r1 := keepRow r1 hb46
  replace hB := below_then hB (Nat.le_refl _) hb46
  clear Hn B4 B5 hb4 hb46
  generalize w5.heap.size = t2 at *
  clear w5 w4 w3
  go_upto_region 4 with (first | (go_at_call 9; (with_reducible refine (two1_c _).mono ?_); rintro e w7 ⟨b7, rfl, hb7, B7⟩; dsimp only; have kx := exMayB_c hb7) | (go_at_call 10; (with_reducible refine kx.mono ?_); clear kx; rintro e w8 ⟨rfl, B8⟩; dsimp only))
  have hb8 := below_then B7 (Nat.le_refl _) B8
  clear B7 B8 hb7
  go_upto_region 5 with (first | (go_at_call 9; (with_reducible refine (two0_c _).mono ?_); rintro e w9 ⟨b9, rfl, hb9, B9⟩; dsimp only; have kx := exMayA_c hb9) | (go_at_call 10; (with_reducible refine kx.mono ?_); clear kx; rintro e w10 ⟨rfl, B10⟩; dsimp only))
  have hb10 := below_then (below_then hb8 (Nat.le_refl _) B9) (Nat.le_refl _) B10
  clear B9 B10 hb8 hb9
  clear w7
  go_upto_region 6 with (first | (go_at_call 9; (with_reducible refine (two0_c _).mono ?_); rintro e w11 ⟨b11, rfl, hb11, B11⟩; dsimp only; have kx := exMayA9_c hb11) | (go_at_call 10; (with_reducible refine kx.mono ?_); clear kx; rintro e w12 ⟨rfl, B12⟩; dsimp only))
  have hb12 := below_then (below_then hb10 (Nat.le_refl _) B11) (Nat.le_refl _) B12
  clear B11 B12 hb10 hb11
  have hx := heap_alloc_new w12 (.cells (opF tML).toArray 36)
  have hba := below_alloc w12 (.cells (opF tML).toArray 36)
  have kx := exMerge_c hx
  have hb13 := below_then hb12 (Nat.le_refl _) hba
  clear hx hba hb12
  go_upto_region 7 with (first | ((with_reducible refine wpList_tM rfl _ _ _ _ rfl rfl rfl rfl rfl ?_); simp only [Act.put, List.setIfInBounds_toArray, List.set_cons_succ, List.set_cons_zero]) | ((with_reducible refine wpList_built rfl 25 _ rfl (blA 64 1 0 (.slice (some ⟨w12.heap.size, 0, none⟩) 4 4)) (by kernel_rfl) ?_); simp only [Act.put, List.setIfInBounds_toArray, List.set_cons_succ, List.set_cons_zero]) | (go_at_call 5; (with_reducible refine kx.mono ?_); clear kx; rintro e w14 ⟨g3, c3, rfl, A3, B14⟩; dsimp only; have Hn := has_none w14) | ((with_reducible refine wpList_store_new Hn rfl 25 _ _ rfl (blA 64 1 0 (.slice (some ⟨g3, 0, none⟩) 3 c3)) rfl rfl (bl_inf _ _ _ _) (by kernel_rfl) (blk_one _ _ _ _ rfl) ?_); clear Hn; intro w15 Hn; simp only [Act.put, List.setIfInBounds_toArray, List.set_cons_succ, List.set_cons_zero]))
  have r3 : w15.heap[w14.heap.size]? = some (.cells (blA 64 1 0 (.slice (some ⟨g3, 0, none⟩) 3 c3)) 25) := Hn.get List.mem_cons_self
  have hb15 := below_then (below_then hb13 (Nat.le_refl _) B14) (Nat.le_refl _) Hn.below
  replace A3 := A3.grow Hn.below
  replace A1 := A1.grow hb15
  replace A4 := A4.grow hb15
  replace A5 := A5.grow hb15
  replace r1 := keepRow r1 hb15
  replace r2 := keepRow r2 hb15
  replace hB := below_then hB (Nat.le_refl _) hb15
  clear Hn B14 hb13 hb15
  generalize w14.heap.size = t3 at *
  clear w14
  have z1 : w15.cell? ⟨t1, 3, none⟩ = some (.slice (some ⟨g1, 0, none⟩) 8 c1) := by rw [cell_of_row _ _ _ _ _ _ r1]; rfl
  have z2 : w15.cell? ⟨t2, 3, none⟩ = some (.slice (some ⟨g2, 0, none⟩) 9 c2) := by rw [cell_of_row _ _ _ _ _ _ r2]; rfl
  have z3 : w15.cell? ⟨t3, 3, none⟩ = some (.slice (some ⟨g3, 0, none⟩) 3 c3) := by rw [cell_of_row _ _ _ _ _ _ r3]; rfl
  have q4 := A4.c0
  have q5 := A5.c0
  rw [k4] at q4
  rw [k5] at q5
  clear r1 r2 r3 A4 A5 k4 k5
  go_upto_region 9 with fail
  go_wp2_with (first | ((with_reducible refine wpList_load42 rfl _ rfl _ rfl _ A1 ?_); simp only [Act.put, List.setIfInBounds_toArray, List.set_cons_succ, List.set_cons_zero]) | ((with_reducible refine wpList_load42 rfl _ rfl _ rfl _ A3 ?_); simp only [Act.put, List.setIfInBounds_toArray, List.set_cons_succ, List.set_cons_zero]) | ((with_reducible refine wpList_builtW rfl 36 #[(0, .const (.int .i64 3)), (2, .const (.int .i64 2))] rfl (opA ⟨3, 0, 2, 0, 0, 0⟩) (by kernel_rfl) ?_); simp only [Act.put, List.setIfInBounds_toArray, List.set_cons_succ, List.set_cons_zero]) | ((with_reducible refine wpList_builtW rfl 36 #[(0, .const (.int .i64 13)), (1, .const (.int .i64 15))] rfl (opA ⟨13, 15, 0, 0, 0, 0⟩) (by kernel_rfl) ?_); simp only [Act.put, List.setIfInBounds_toArray, List.set_cons_succ, List.set_cons_zero]) | ((with_reducible refine wpList_eqlO rfl _ _ rfl ⟨3, 0, 2, 0, 0, 0⟩ ⟨3, 0, 2, 0, 0, 0⟩ rfl rfl true (by decide) ?_); simp only [Act.put, List.setIfInBounds_toArray, List.set_cons_succ, List.set_cons_zero]) | ((with_reducible refine wpList_eqlO rfl _ _ rfl ⟨13, 15, 0, 0, 0, 0⟩ ⟨13, 15, 0, 0, 0, 0⟩ rfl rfl true (by decide) ?_); simp only [Act.put, List.setIfInBounds_toArray, List.set_cons_succ, List.set_cons_zero]))
  go_ret
  exact ⟨rfl, hB⟩
end Go.Proofs.Ytilbnjldfgofmab
