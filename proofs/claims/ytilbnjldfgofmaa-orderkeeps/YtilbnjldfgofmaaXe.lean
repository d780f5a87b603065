/- Ea, Eb, Ec, Ed, Ee, Ef, Eg, Eh of the seat, joined. -/
import Derived.Test.YtilbnjldfgofmaaXw
import Derived.Test.YtilbnjldfgofmaaXd
/- The examples: blocks. -/
namespace Go.Proofs.Ytilbnjldfgofmaa
open Go.RowKit
set_option linter.unusedVariables false
set_option linter.unusedSimpArgs false
set_option maxRecDepth 8000

def tAL : List Opr := [⟨14, 0, 0, 0, 0, 64⟩, ⟨2, 1, 0, 0, 0, 0⟩, ⟨1, 0, 0, 0, 0, 8⟩, ⟨8, 1, 1, 2, 0, 0⟩, ⟨10, 0, 1, 2, 0, 0⟩, ⟨14, 0, 0, 0, 0, 68⟩, ⟨9, 0, 1, 0, 0, 0⟩, ⟨3, 0, 6, 0, 0, 0⟩, ⟨16, 0, 0, 0, 0, 72⟩]
theorem tA_imm (k : Nat) : 0 ≤ (opAt tAL k).imm := by
  match k with
  | 0 => exact (by decide)
  | 1 => exact (by decide)
  | 2 => exact (by decide)
  | 3 => exact (by decide)
  | 4 => exact (by decide)
  | 5 => exact (by decide)
  | 6 => exact (by decide)
  | 7 => exact (by decide)
  | 8 => exact (by decide)
  | k + 9 => show (0 : Int) ≤ 0; decide
theorem run_tA (w : World) : (Instr.buildSlice 23 9 #[(0, .agg #[vI 14, vI 0, vI 0, vI 0, vI 0, vU 64]), (1, .agg #[vI 2, vI 1, vI 0, vI 0, vI 0, vU 0]), (2, .agg #[vI 1, vI 0, vI 0, vI 0, vI 0, vU 8]), (3, .agg #[vI 8, vI 1, vI 1, vI 2, vI 0, vU 0]), (4, .agg #[vI 10, vI 0, vI 1, vI 2, vI 0, vU 0]), (5, .agg #[vI 14, vI 0, vI 0, vI 0, vI 0, vU 68]), (6, .agg #[vI 9, vI 0, vI 1, vI 0, vI 0, vU 0]), (7, .agg #[vI 3, vI 0, vI 6, vI 0, vI 0, vU 0]), (8, .agg #[vI 16, vI 0, vI 0, vI 0, vI 0, vU 72])]).run Try.prog w = .ok (.slice (some ⟨w.heap.size, 0, none⟩) 9 9) (w.alloc (.cells (opF tAL).toArray 40)) := by
  obtain ⟨i, hi, hz, hs, hby⟩ := info_parts info42
  exact run_buildSlice (P := Try.prog) w 23 40 9 _ _ i (opV nilO) Try.underlying23 hi hz (by rw [hs]; decide) (by rw [hs]; decide) (by rw [hs]; kernel_rfl)
theorem wpList_tA {ops : Array Oper} {rest : List Oper} {p : Oper} {a : Act} {w : World} {Q : Exit → Act → World → Prop} (hg : p.guard = none) (x0 x1 x2 x3 x4 x5 x6 x7 x8 : Operand) (ho : p.op = .buildSlice 23 9 #[(0, x0), (1, x1), (2, x2), (3, x3), (4, x4), (5, x5), (6, x6), (7, x7), (8, x8)])
    (h0 : a.eval x0 = .agg #[vI 14, vI 0, vI 0, vI 0, vI 0, vU 64])
    (h1 : a.eval x1 = .agg #[vI 2, vI 1, vI 0, vI 0, vI 0, vU 0])
    (h2 : a.eval x2 = .agg #[vI 1, vI 0, vI 0, vI 0, vI 0, vU 8])
    (h3 : a.eval x3 = .agg #[vI 8, vI 1, vI 1, vI 2, vI 0, vU 0])
    (h4 : a.eval x4 = .agg #[vI 10, vI 0, vI 1, vI 2, vI 0, vU 0])
    (h5 : a.eval x5 = .agg #[vI 14, vI 0, vI 0, vI 0, vI 0, vU 68])
    (h6 : a.eval x6 = .agg #[vI 9, vI 0, vI 1, vI 0, vI 0, vU 0])
    (h7 : a.eval x7 = .agg #[vI 3, vI 0, vI 6, vI 0, vI 0, vU 0])
    (h8 : a.eval x8 = .agg #[vI 16, vI 0, vI 0, vI 0, vI 0, vU 72])
    (h : wpList Try.prog ops Q rest (a.put p.dst (.slice (some ⟨w.heap.size, 0, none⟩) 9 9)) (w.alloc (.cells (opF tAL).toArray 40))) : wpList Try.prog ops Q (p :: rest) a w :=
  wpList_plain hg fun _ hK => by
    unfold Oper.wp execOp
    simp only [ho, Sem.run_bind, List.map_toArray, List.map_cons, List.map_nil, h0, h1, h2, h3, h4, h5, h6, h7, h8, run_tA, Result.andThen_ok]
    exact hK _ _ h
def tML : List Opr := [⟨14, 0, 0, 0, 0, 64⟩, ⟨13, 13, 0, 0, 0, 0⟩, ⟨13, 10, 0, 0, 0, 0⟩, ⟨16, 0, 0, 0, 0, 68⟩]
theorem tM_imm (k : Nat) : 0 ≤ (opAt tML k).imm := by
  match k with
  | 0 => exact (by decide)
  | 1 => exact (by decide)
  | 2 => exact (by decide)
  | 3 => exact (by decide)
  | k + 4 => show (0 : Int) ≤ 0; decide
theorem run_tM (w : World) : (Instr.buildSlice 23 4 #[(0, .agg #[vI 14, vI 0, vI 0, vI 0, vI 0, vU 64]), (1, .agg #[vI 13, vI 13, vI 0, vI 0, vI 0, vU 0]), (2, .agg #[vI 13, vI 10, vI 0, vI 0, vI 0, vU 0]), (3, .agg #[vI 16, vI 0, vI 0, vI 0, vI 0, vU 68])]).run Try.prog w = .ok (.slice (some ⟨w.heap.size, 0, none⟩) 4 4) (w.alloc (.cells (opF tML).toArray 40)) := by
  obtain ⟨i, hi, hz, hs, hby⟩ := info_parts info42
  exact run_buildSlice (P := Try.prog) w 23 40 4 _ _ i (opV nilO) Try.underlying23 hi hz (by rw [hs]; decide) (by rw [hs]; decide) (by rw [hs]; kernel_rfl)
theorem wpList_tM {ops : Array Oper} {rest : List Oper} {p : Oper} {a : Act} {w : World} {Q : Exit → Act → World → Prop} (hg : p.guard = none) (x0 x1 x2 x3 : Operand) (ho : p.op = .buildSlice 23 4 #[(0, x0), (1, x1), (2, x2), (3, x3)])
    (h0 : a.eval x0 = .agg #[vI 14, vI 0, vI 0, vI 0, vI 0, vU 64])
    (h1 : a.eval x1 = .agg #[vI 13, vI 13, vI 0, vI 0, vI 0, vU 0])
    (h2 : a.eval x2 = .agg #[vI 13, vI 10, vI 0, vI 0, vI 0, vU 0])
    (h3 : a.eval x3 = .agg #[vI 16, vI 0, vI 0, vI 0, vI 0, vU 68])
    (h : wpList Try.prog ops Q rest (a.put p.dst (.slice (some ⟨w.heap.size, 0, none⟩) 4 4)) (w.alloc (.cells (opF tML).toArray 40))) : wpList Try.prog ops Q (p :: rest) a w :=
  wpList_plain hg fun _ hK => by
    unfold Oper.wp execOp
    simp only [ho, Sem.run_bind, List.map_toArray, List.map_cons, List.map_nil, h0, h1, h2, h3, run_tM, Result.andThen_ok]
    exact hK _ _ h

def tBL : List Opr := [⟨14, 0, 0, 0, 0, 64⟩, ⟨2, 1, 0, 0, 0, 0⟩, ⟨1, 0, 0, 0, 0, 8⟩, ⟨8, 1, 1, 2, 0, 0⟩, ⟨10, 0, 1, 2, 0, 0⟩, ⟨14, 0, 0, 0, 0, 68⟩, ⟨9, 0, 3, 0, 0, 0⟩, ⟨3, 0, 6, 0, 0, 0⟩, ⟨16, 0, 0, 0, 0, 72⟩]
theorem tB_imm (k : Nat) : 0 ≤ (opAt tBL k).imm := by
  match k with
  | 0 => exact (by decide)
  | 1 => exact (by decide)
  | 2 => exact (by decide)
  | 3 => exact (by decide)
  | 4 => exact (by decide)
  | 5 => exact (by decide)
  | 6 => exact (by decide)
  | 7 => exact (by decide)
  | 8 => exact (by decide)
  | k + 9 => show (0 : Int) ≤ 0; decide
theorem tA_right : rightB 64 2 1 tAL = true := by decide +kernel
theorem tB_right : rightB 64 2 1 tBL = true := by decide +kernel
theorem tM_right : rightB 64 1 0 tML = true := by decide +kernel
theorem tA_loads : (loadsL tAL).length = 8 ∧ (loadsL tAL)[6]? = some ⟨3, 0, 2, 0, 0, 0⟩ := by decide +kernel
theorem tB_move : (moveL tBL).length = 9 ∧ ((moveL tBL)[4]?.map (·.kind)) = some 9 ∧ ((moveL tBL)[5]?.map (·.kind)) = some 10 := by decide +kernel
theorem tM_merge : (mergeL tML).length = 3 ∧ (mergeL tML)[1]? = some ⟨13, 15, 0, 0, 0, 0⟩ := by decide +kernel
theorem tB_may : mayL 64 2 1 tBL 4 = (true, 0) := by decide +kernel
theorem tA_may : mayL 64 2 1 tAL 4 = (false, 0) := by decide +kernel
theorem tA_may9 : mayL 64 2 1 tAL 9 = (false, 1) := by decide +kernel
theorem set38 : (opF tAL).toArray.setIfInBounds 38 (vI 3) = (opF tBL).toArray := by kernel_rfl
end Go.Proofs.Ytilbnjldfgofmaa
/- The examples: what is told of the blocks. -/
namespace Go.Proofs.Ytilbnjldfgofmaa
open Go.RowKit
set_option linter.unusedVariables false
set_option linter.unusedSimpArgs false
set_option maxRecDepth 8000

theorem back25 {fn : Func} {p : Tmp} {pc words el : Int} {v : Value} (h : fn.results = #[.cell p 25]) (tmps : Array Value) (w : World) (g : Nat) (hp : tmps.getD p undef = ptr g 0) (H : w.heap[g]? = some (.cells (blA pc words el v) 25)) : (results fn tmps).run Try.prog w = .ok (blV pc words el v) w :=
  results_cell_row h tmps w g 25 (blA pc words el v) (0, 0) _ hp H Try.underlying25 rfl (bl_inf _ _ _ _)
theorem wpList_eqlO {ops : Array Oper} {rest : List Oper} {o : Oper} {a : Act} {w : World} {Q : Exit → Act → World → Prop} (hw : Region.wanted o (yielded ops a.tmps) = true) (x y : Operand) (ho : o.op = .binOp .eql 40 x y 40)
    (c d : Opr) (hx : a.eval x = opV c) (hy : a.eval y = opV d) (b : Bool) (hb : decide (c = d) = b) (h : wpList Try.prog ops Q rest (a.put o.dst (.bool b)) w) : wpList Try.prog ops Q (o :: rest) a w := by
  refine BigFrame.wpList_want hw fun K hK => ?_
  have he := op_eq c d w
  rw [hb] at he
  unfold Oper.wp execOp
  simp only [ho, hx, hy, Sem.run_bind, run_eqGuard_agg w _ _ _ _ _ _ guard42, Result.andThen_ok, run_eql_struct, he]
  exact hK _ _ h
theorem wpList_builtW {ops : Array Oper} {rest : List Oper} {o : Oper} {a : Act} {w : World} {Q : Exit → Act → World → Prop} (hw : Region.wanted o (yielded ops a.tmps) = true) (t : TypeId) (parts : Array (Nat × Operand)) (ho : o.op = .build t parts)
    (cs : Array Value) (hf : Try.prog.built t (parts.map fun (i, x) => (i, a.eval x)).toList = some cs)
    (h : wpList Try.prog ops Q rest (a.put o.dst (.agg cs)) w) : wpList Try.prog ops Q (o :: rest) a w := by
  refine BigFrame.wpList_want hw fun K hK => ?_
  exact wp_build t parts ho (by rw [hf]; rfl) (hK _ _ (by rw [hf]; exact h))
set_option maxHeartbeats 4000000 in
theorem two0_c (w : World) : Calls Try.prog 20 #[vI 0] w fun e w' => ∃ g, e = .returned (blV 64 2 1 (.slice (some ⟨g, 0, none⟩) 9 9)) ∧ w'.heap[g]? = some (.cells (opF tAL).toArray 40) ∧ Below w.heap.size w w' := by
  have hrow : (w.alloc (.cells (blA 0 0 0 (.slice none 0 0)) 25)).heap[w.heap.size]? = some (.cells (blA 0 0 0 (.slice none 0 0)) 25) := heap_alloc_new _ _
  have hb := below_alloc w (.cells (blA 0 0 0 (.slice none 0 0)) 25)
  go_enter Try.func20, Try.ntmps20
  go_upto_region 1 with fail
  generalize w.alloc (.cells (blA 0 0 0 (.slice none 0 0)) 25) = w1 at *
  have hr2 := keepRow hrow (below_alloc w1 (.cells (opF tAL).toArray 40))
  have hx : (w1.alloc (.cells (opF tAL).toArray 40)).heap[w1.heap.size]? = some (.cells (opF tAL).toArray 40) := heap_alloc_new _ _
  have hb2 := below_then hb (Nat.le_refl _) (below_alloc w1 (.cells (opF tAL).toArray 40))
  have hne : w.heap.size ≠ w1.heap.size := Nat.ne_of_lt (lt_of_some hrow)
  have hlg := hb.size
  obtain ⟨g, hg⟩ : ∃ g, g = w1.heap.size := ⟨_, rfl⟩
  obtain ⟨b2, hb2'⟩ : ∃ b2, b2 = w.heap.size := ⟨_, rfl⟩
  rw [← hg, ← hb2'] at hne
  rw [← hb2'] at hr2 ⊢
  rw [← hg] at hx hlg
  clear hrow hb
  go_upto_region 2 with (first | ((with_reducible refine wpList_tA rfl _ _ _ _ _ _ _ _ _ rfl rfl rfl rfl rfl rfl rfl rfl rfl rfl ?_); rw [← hg]; simp only [Act.put, List.setIfInBounds_toArray, List.set_cons_succ, List.set_cons_zero]; generalize w1.alloc (.cells (opF tAL).toArray 40) = w2 at *; have Hn := has_none w2) | ((with_reducible refine wpList_built rfl 25 _ rfl (blA 64 2 1 (.slice (some ⟨g, 0, none⟩) 9 9)) (by kernel_rfl) ?_); simp only [Act.put, List.setIfInBounds_toArray, List.set_cons_succ, List.set_cons_zero]) | ((with_reducible refine wpList_store_new Hn rfl 25 _ _ rfl (blA 64 2 1 (.slice (some ⟨g, 0, none⟩) 9 9)) rfl rfl (bl_inf _ _ _ _) (by kernel_rfl) (blk_one _ _ _ _ rfl) ?_); clear Hn; intro w3 Hn; simp only [Act.put, List.setIfInBounds_toArray, List.set_cons_succ, List.set_cons_zero]))
  have r3 : w3.heap[w2.heap.size]? = some (.cells (blA 64 2 1 (.slice (some ⟨g, 0, none⟩) 9 9)) 25) := Hn.get List.mem_cons_self
  have hx3 := keepRow hx Hn.below
  replace hr2 := keepRow hr2 Hn.below
  have hb3 := below_then hb2 (Nat.le_refl _) Hn.below
  have hng : w2.heap.size ≠ g := fun e => by have := lt_of_some hx; omega
  have hn2 : b2 ≠ w2.heap.size := fun e => by subst e; exact absurd (hb2'.symm ▸ hb2.size) (by have := lt_of_some hx; omega)
  clear Hn hb2 hx
  generalize w2.heap.size = b3 at *
  clear w2 hg w1
  go_upto_region 4 with fail
  go_wp2_with (first | ((with_reducible refine wpList_load_if rfl 25 _ rfl _ rfl 25 _ (0, 0) _ r3 Try.underlying25 rfl (bl_inf _ _ _ _) ?_); simp only [Act.put, List.setIfInBounds_toArray, List.set_cons_succ, List.set_cons_zero]) | ((with_reducible refine wpList_store_row rfl 25 _ _ rfl b2 (blA 64 2 1 (.slice (some ⟨g, 0, none⟩) 9 9)) rfl rfl 25 _ hr2 (bl_inf _ _ _ _) rfl (blk_one _ _ _ _ rfl) ?_); simp only [Act.put, List.setIfInBounds_toArray, List.set_cons_succ, List.set_cons_zero]))
  refine bodyPost_ret (back25 rfl _ _ b2 rfl (setRow_heap _ _ _ _ _ _ hr2)) rfl ?_
  exact ⟨g, rfl, (setRow_other _ _ _ _ (Ne.symm hne)).trans hx3, below_setRow hb3 (by omega)⟩
set_option maxHeartbeats 4000000 in
theorem two1_c (w : World) : Calls Try.prog 20 #[vI 1] w fun e w' => ∃ g, e = .returned (blV 64 2 1 (.slice (some ⟨g, 0, none⟩) 9 9)) ∧ w'.heap[g]? = some (.cells (opF tBL).toArray 40) ∧ Below w.heap.size w w' := by
  have hrow : (w.alloc (.cells (blA 0 0 0 (.slice none 0 0)) 25)).heap[w.heap.size]? = some (.cells (blA 0 0 0 (.slice none 0 0)) 25) := heap_alloc_new _ _
  have hb := below_alloc w (.cells (blA 0 0 0 (.slice none 0 0)) 25)
  go_enter Try.func20, Try.ntmps20
  go_upto_region 1 with fail
  generalize w.alloc (.cells (blA 0 0 0 (.slice none 0 0)) 25) = w1 at *
  have hr2 := keepRow hrow (below_alloc w1 (.cells (opF tAL).toArray 40))
  have hx : (w1.alloc (.cells (opF tAL).toArray 40)).heap[w1.heap.size]? = some (.cells (opF tAL).toArray 40) := heap_alloc_new _ _
  have hb2 := below_then hb (Nat.le_refl _) (below_alloc w1 (.cells (opF tAL).toArray 40))
  have hne : w.heap.size ≠ w1.heap.size := Nat.ne_of_lt (lt_of_some hrow)
  have hlg := hb.size
  obtain ⟨g, hg⟩ : ∃ g, g = w1.heap.size := ⟨_, rfl⟩
  obtain ⟨b2, hb2'⟩ : ∃ b2, b2 = w.heap.size := ⟨_, rfl⟩
  rw [← hg, ← hb2'] at hne
  rw [← hb2'] at hr2 ⊢
  rw [← hg] at hx hlg
  clear hrow hb
  go_upto_region 2 with (first | ((with_reducible refine wpList_tA rfl _ _ _ _ _ _ _ _ _ rfl rfl rfl rfl rfl rfl rfl rfl rfl rfl ?_); rw [← hg]; simp only [Act.put, List.setIfInBounds_toArray, List.set_cons_succ, List.set_cons_zero]; generalize w1.alloc (.cells (opF tAL).toArray 40) = w2 at *; have Hn := has_none w2) | ((with_reducible refine wpList_built rfl 25 _ rfl (blA 64 2 1 (.slice (some ⟨g, 0, none⟩) 9 9)) (by kernel_rfl) ?_); simp only [Act.put, List.setIfInBounds_toArray, List.set_cons_succ, List.set_cons_zero]) | ((with_reducible refine wpList_store_new Hn rfl 25 _ _ rfl (blA 64 2 1 (.slice (some ⟨g, 0, none⟩) 9 9)) rfl rfl (bl_inf _ _ _ _) (by kernel_rfl) (blk_one _ _ _ _ rfl) ?_); clear Hn; intro w3 Hn; simp only [Act.put, List.setIfInBounds_toArray, List.set_cons_succ, List.set_cons_zero]))
  have r3 : w3.heap[w2.heap.size]? = some (.cells (blA 64 2 1 (.slice (some ⟨g, 0, none⟩) 9 9)) 25) := Hn.get List.mem_cons_self
  have hx3 := keepRow hx Hn.below
  replace hr2 := keepRow hr2 Hn.below
  have hb3 := below_then hb2 (Nat.le_refl _) Hn.below
  have hng : w2.heap.size ≠ g := fun e => by have := lt_of_some hx; omega
  have hn2 : b2 ≠ w2.heap.size := fun e => by subst e; exact absurd (hb2'.symm ▸ hb2.size) (by have := lt_of_some hx; omega)
  clear Hn hb2 hx
  generalize w2.heap.size = b3 at *
  clear w2 hg w1
  have z3 : w3.cell? ⟨b3, 3, none⟩ = some (.slice (some ⟨g, 0, none⟩) 9 9) := by rw [cell_of_row _ _ _ _ _ _ r3]; rfl
  have z38 : w3.cell? ⟨g, 38, none⟩ = some (vI 1) := by rw [cell_of_row _ _ _ _ _ _ hx3]; kernel_rfl
  have f38 : w3.frozen? ⟨g, 38, none⟩ = false := frozen_of_row _ _ _ _ _ hx3
  have x4 : (w3.setCell ⟨g, 38, none⟩ (vI 3)).heap[g]? = some (.cells (opF tBL).toArray 40) := by
    rw [heap_setCell_same _ _ _ _ _ _ hx3, set38]
  have hb4 : Below w.heap.size w (w3.setCell ⟨g, 38, none⟩ (vI 3)) := below_cell hb3 hlg
  have r4 : (w3.setCell ⟨g, 38, none⟩ (vI 3)).heap[b3]? = some (.cells (blA 64 2 1 (.slice (some ⟨g, 0, none⟩) 9 9)) 25) := (Below.heap_setCell _ _ _ _ hng).trans r3
  have hr4 := (Below.heap_setCell w3 ⟨g, 38, none⟩ (vI 3) b2 hne).trans hr2
  go_upto_region 4 with fail
  clear z3 z38 f38 hx3 r3 hr2 hb3
  generalize w3.setCell ⟨g, 38, none⟩ (vI 3) = w4 at *
  go_wp2_with (first | ((with_reducible refine wpList_load_if rfl 25 _ rfl _ rfl 25 _ (0, 0) _ r4 Try.underlying25 rfl (bl_inf _ _ _ _) ?_); simp only [Act.put, List.setIfInBounds_toArray, List.set_cons_succ, List.set_cons_zero]) | ((with_reducible refine wpList_store_row rfl 25 _ _ rfl b2 (blA 64 2 1 (.slice (some ⟨g, 0, none⟩) 9 9)) rfl rfl 25 _ hr4 (bl_inf _ _ _ _) rfl (blk_one _ _ _ _ rfl) ?_); simp only [Act.put, List.setIfInBounds_toArray, List.set_cons_succ, List.set_cons_zero]))
  refine bodyPost_ret (back25 rfl _ _ b2 rfl (setRow_heap _ _ _ _ _ _ hr4)) rfl ?_
  exact ⟨g, rfl, (setRow_other _ _ _ _ (Ne.symm hne)).trans x4, below_setRow hb4 (by omega)⟩

theorem sl_cap (b n : Nat) : ∀ ao m cap, Value.slice (some ⟨b, 0, none⟩) n n = .slice ao m cap → m ≤ cap := fun _ _ _ e => by cases e; exact Nat.le_refl _
section
variable {w : World} {b : Nat}
theorem row_ops {l : List Opr} (h : w.heap[b]? = some (.cells (opF l).toArray 40)) (hm : l.length ≤ maxLen) : Ops w (.slice (some ⟨b, 0, none⟩) l.length l.length) l := (opsC_of (own_row (Nat.zero_le b) h hm) hm).ops
theorem exLoads_c (h : w.heap[b]? = some (.cells (opF tAL).toArray 40)) : Calls Try.prog 11 #[blV 64 2 1 (.slice (some ⟨b, 0, none⟩) 9 9)] w fun e w' => ∃ g cap, e = .returned (.tuple #[blV 64 2 1 (.slice (some ⟨g, 0, none⟩) 8 cap), vI 0]) ∧ OpAt w' ⟨g, 36, none⟩ ⟨3, 0, 2, 0, 0, 0⟩ ∧ Below w.heap.size w w' := by
  refine (loads_pass (pc := 64) (words := 2) (el := 1) (by decide) (row_ops h (by decide)) tA_imm (sl_cap b 9)).mono ?_
  rintro e w' ⟨B, ⟨hr, _⟩ | ⟨_, u, rfl, ho⟩⟩
  · rw [tA_right] at hr; cases hr
  · rw [tA_loads.1] at ho
    have ho2 : w'.ownsRow w.heap.size 40 6 u (loadsL tAL).length (opF (loadsL tAL)) := by rw [tA_loads.1]; exact ho
    obtain ⟨ra, cap, e', hc⟩ := (opsC_of ho2 (by rw [tA_loads.1]; decide)).ops.cell (by rw [tA_loads.1]; decide)
    rcases ho.2 with ⟨_, h0⟩ | ⟨g, c, cur, e2, -⟩
    · cases h0
    · subst e2
      cases e'
      exact ⟨_, _, rfl, hc 6 _ tA_loads.2, B⟩
theorem exMove_c (h : w.heap[b]? = some (.cells (opF tBL).toArray 40)) : Calls Try.prog 12 #[blV 64 2 1 (.slice (some ⟨b, 0, none⟩) 9 9)] w fun e w' => ∃ g cap, e = .returned (.tuple #[blV 64 2 1 (.slice (some ⟨g, 0, none⟩) 9 cap), vI 0]) ∧ (∃ o, o.kind = 9 ∧ OpAt w' ⟨g, 24, none⟩ o) ∧ (∃ o, o.kind = 10 ∧ OpAt w' ⟨g, 30, none⟩ o) ∧ Below w.heap.size w w' := by
  refine (move_pass (pc := 64) (words := 2) (el := 1) (by decide) (row_ops h (by decide)) tB_imm (sl_cap b 9)).mono ?_
  rintro e w' ⟨B, ⟨hr, _⟩ | ⟨_, u, rfl, ho⟩⟩
  · rw [tB_right] at hr; cases hr
  · rw [tB_move.1] at ho
    have ho2 : w'.ownsRow w.heap.size 40 6 u (moveL tBL).length (opF (moveL tBL)) := by rw [tB_move.1]; exact ho
    obtain ⟨ra, cap, e', hc⟩ := (opsC_of ho2 (by rw [tB_move.1]; decide)).ops.cell (by rw [tB_move.1]; decide)
    obtain ⟨o4, h4, k4⟩ := Option.map_eq_some_iff.1 tB_move.2.1
    obtain ⟨o5, h5, k5⟩ := Option.map_eq_some_iff.1 tB_move.2.2
    rcases ho.2 with ⟨_, h0⟩ | ⟨g, c, cur, e2, -⟩
    · cases h0
    · subst e2
      cases e'
      exact ⟨_, _, rfl, ⟨o4, k4, hc 4 _ h4⟩, ⟨o5, k5, hc 5 _ h5⟩, B⟩
theorem exMerge_c (h : w.heap[b]? = some (.cells (opF tML).toArray 40)) : Calls Try.prog 10 #[blV 64 1 0 (.slice (some ⟨b, 0, none⟩) 4 4)] w fun e w' => ∃ g cap, e = .returned (.tuple #[blV 64 1 0 (.slice (some ⟨g, 0, none⟩) 3 cap), vI 0]) ∧ OpAt w' ⟨g, 6, none⟩ ⟨13, 15, 0, 0, 0, 0⟩ ∧ Below w.heap.size w w' := by
  refine (merge_pass (pc := 64) (words := 1) (el := 0) (by decide) (row_ops h (by decide)) tM_imm (sl_cap b 4)).mono ?_
  rintro e w' ⟨B, ⟨hr, _⟩ | ⟨_, u, rfl, ho⟩⟩
  · rw [tM_right] at hr; cases hr
  · rw [tM_merge.1] at ho
    have ho2 : w'.ownsRow w.heap.size 40 6 u (mergeL tML).length (opF (mergeL tML)) := by rw [tM_merge.1]; exact ho
    obtain ⟨ra, cap, e', hc⟩ := (opsC_of ho2 (by rw [tM_merge.1]; decide)).ops.cell (by rw [tM_merge.1]; decide)
    rcases ho.2 with ⟨_, h0⟩ | ⟨g, c, cur, e2, -⟩
    · cases h0
    · subst e2
      cases e'
      exact ⟨_, _, rfl, hc 1 _ tM_merge.2, B⟩
theorem exMayA_c (h : w.heap[b]? = some (.cells (opF tAL).toArray 40)) : Calls Try.prog 17 #[blV 64 2 1 (.slice (some ⟨b, 0, none⟩) 9 9), vI 4] w fun e w' => e = .returned (.tuple #[.bool false, vI 0]) ∧ Below w.heap.size w w' := by
  have := may_c (i := 4) (pc := 64) (words := 2) (el := 1) (by decide) (row_ops h (by decide)) tA_imm (sl_cap b 9)
  rwa [tA_may] at this
theorem exMayA9_c (h : w.heap[b]? = some (.cells (opF tAL).toArray 40)) : Calls Try.prog 17 #[blV 64 2 1 (.slice (some ⟨b, 0, none⟩) 9 9), vI 9] w fun e w' => e = .returned (.tuple #[.bool false, vI 1]) ∧ Below w.heap.size w w' := by
  have := may_c (i := 9) (pc := 64) (words := 2) (el := 1) (by decide) (row_ops h (by decide)) tA_imm (sl_cap b 9)
  rwa [tA_may9] at this
theorem exMayB_c (h : w.heap[b]? = some (.cells (opF tBL).toArray 40)) : Calls Try.prog 17 #[blV 64 2 1 (.slice (some ⟨b, 0, none⟩) 9 9), vI 4] w fun e w' => e = .returned (.tuple #[.bool true, vI 0]) ∧ Below w.heap.size w w' := by
  have := may_c (i := 4) (pc := 64) (words := 2) (el := 1) (by decide) (row_ops h (by decide)) tB_imm (sl_cap b 9)
  rwa [tB_may] at this
end
end Go.Proofs.Ytilbnjldfgofmaa
/- The examples. -/
namespace Go.Proofs.Ytilbnjldfgofmaa
open Go.RowKit
set_option linter.unusedVariables false
set_option linter.unusedSimpArgs false
set_option maxRecDepth 8000

set_option maxHeartbeats 8000000 in
theorem examples_c (w : World) : Calls Try.prog 7 #[] w fun e w' => e = .returned (.bool true) ∧ Below w.heap.size w w' := by
  go_enter Try.func7, Try.ntmps7
  go_upto_region 2 with (first | (go_at_call 20; (with_reducible refine (two0_c _).mono ?_); rintro e w1 ⟨b1, rfl, hb1, B1⟩; dsimp only; have kx := exLoads_c hb1) | (go_at_call 11; (with_reducible refine kx.mono ?_); clear kx; rintro e w2 ⟨g1, c1, rfl, A1, B2⟩; dsimp only; have Hn := has_none w2) | ((with_reducible refine wpList_store_new Hn rfl 25 _ _ rfl (blA 64 2 1 (.slice (some ⟨g1, 0, none⟩) 8 c1)) rfl rfl (bl_inf _ _ _ _) (by kernel_rfl) (blk_one _ _ _ _ rfl) ?_); clear Hn; intro w3 Hn; simp only [Act.put, List.setIfInBounds_toArray, List.set_cons_succ, List.set_cons_zero]))
  have r1 : w3.heap[w2.heap.size]? = some (.cells (blA 64 2 1 (.slice (some ⟨g1, 0, none⟩) 8 c1)) 25) := Hn.get List.mem_cons_self
  replace A1 := A1.grow Hn.below
  have hB := below_then (below_then B1 (Nat.le_refl _) B2) (Nat.le_refl _) Hn.below
  clear Hn B1 B2 hb1
  generalize w2.heap.size = t1 at *
  clear w2 w1
  go_upto_region 3 with (first | (go_at_call 20; (with_reducible refine (two1_c _).mono ?_); rintro e w4 ⟨b4, rfl, hb4, B4⟩; dsimp only; have kx := exMove_c hb4) | (go_at_call 12; (with_reducible refine kx.mono ?_); clear kx; rintro e w5 ⟨g2, c2, rfl, ⟨o4, k4, A4⟩, ⟨o5, k5, A5⟩, B5⟩; dsimp only; have Hn := has_none w5) | ((with_reducible refine wpList_store_new Hn rfl 25 _ _ rfl (blA 64 2 1 (.slice (some ⟨g2, 0, none⟩) 9 c2)) rfl rfl (bl_inf _ _ _ _) (by kernel_rfl) (blk_one _ _ _ _ rfl) ?_); clear Hn; intro w6 Hn; simp only [Act.put, List.setIfInBounds_toArray, List.set_cons_succ, List.set_cons_zero]))
  have r2 : w6.heap[w5.heap.size]? = some (.cells (blA 64 2 1 (.slice (some ⟨g2, 0, none⟩) 9 c2)) 25) := Hn.get List.mem_cons_self
  have hb46 := below_then (below_then B4 (Nat.le_refl _) B5) (Nat.le_refl _) Hn.below
  replace A4 := A4.grow Hn.below
  replace A5 := A5.grow Hn.below
  replace A1 := A1.grow hb46
  replace r1 := keepRow r1 hb46
  replace hB := below_then hB (Nat.le_refl _) hb46
  clear Hn B4 B5 hb4 hb46
  generalize w5.heap.size = t2 at *
  clear w5 w4 w3
  go_upto_region 4 with (first | (go_at_call 20; (with_reducible refine (two1_c _).mono ?_); rintro e w7 ⟨b7, rfl, hb7, B7⟩; dsimp only; have kx := exMayB_c hb7) | (go_at_call 17; (with_reducible refine kx.mono ?_); clear kx; rintro e w8 ⟨rfl, B8⟩; dsimp only))
  have hb8 := below_then B7 (Nat.le_refl _) B8
  clear B7 B8 hb7
  go_upto_region 5 with (first | (go_at_call 20; (with_reducible refine (two0_c _).mono ?_); rintro e w9 ⟨b9, rfl, hb9, B9⟩; dsimp only; have kx := exMayA_c hb9) | (go_at_call 17; (with_reducible refine kx.mono ?_); clear kx; rintro e w10 ⟨rfl, B10⟩; dsimp only))
  have hb10 := below_then (below_then hb8 (Nat.le_refl _) B9) (Nat.le_refl _) B10
  clear B9 B10 hb8 hb9
  clear w7
  go_upto_region 6 with (first | (go_at_call 20; (with_reducible refine (two0_c _).mono ?_); rintro e w11 ⟨b11, rfl, hb11, B11⟩; dsimp only; have kx := exMayA9_c hb11) | (go_at_call 17; (with_reducible refine kx.mono ?_); clear kx; rintro e w12 ⟨rfl, B12⟩; dsimp only))
  have hb12 := below_then (below_then hb10 (Nat.le_refl _) B11) (Nat.le_refl _) B12
  clear B11 B12 hb10 hb11
  have hx := heap_alloc_new w12 (.cells (opF tML).toArray 40)
  have hba := below_alloc w12 (.cells (opF tML).toArray 40)
  have kx := exMerge_c hx
  have hb13 := below_then hb12 (Nat.le_refl _) hba
  clear hx hba hb12
  go_upto_region 7 with (first | ((with_reducible refine wpList_tM rfl _ _ _ _ rfl rfl rfl rfl rfl ?_); simp only [Act.put, List.setIfInBounds_toArray, List.set_cons_succ, List.set_cons_zero]) | ((with_reducible refine wpList_built rfl 25 _ rfl (blA 64 1 0 (.slice (some ⟨w12.heap.size, 0, none⟩) 4 4)) (by kernel_rfl) ?_); simp only [Act.put, List.setIfInBounds_toArray, List.set_cons_succ, List.set_cons_zero]) | (go_at_call 10; (with_reducible refine kx.mono ?_); clear kx; rintro e w14 ⟨g3, c3, rfl, A3, B14⟩; dsimp only; have Hn := has_none w14) | ((with_reducible refine wpList_store_new Hn rfl 25 _ _ rfl (blA 64 1 0 (.slice (some ⟨g3, 0, none⟩) 3 c3)) rfl rfl (bl_inf _ _ _ _) (by kernel_rfl) (blk_one _ _ _ _ rfl) ?_); clear Hn; intro w15 Hn; simp only [Act.put, List.setIfInBounds_toArray, List.set_cons_succ, List.set_cons_zero]))
  have r3 : w15.heap[w14.heap.size]? = some (.cells (blA 64 1 0 (.slice (some ⟨g3, 0, none⟩) 3 c3)) 25) := Hn.get List.mem_cons_self
  have hb15 := below_then (below_then hb13 (Nat.le_refl _) B14) (Nat.le_refl _) Hn.below
  replace A3 := A3.grow Hn.below
  replace A1 := A1.grow hb15
  replace A4 := A4.grow hb15
  replace A5 := A5.grow hb15
  replace r1 := keepRow r1 hb15
  replace r2 := keepRow r2 hb15
  replace hB := below_then hB (Nat.le_refl _) hb15
  clear Hn B14 hb13 hb15
  generalize w14.heap.size = t3 at *
  clear w14
  have z1 : w15.cell? ⟨t1, 3, none⟩ = some (.slice (some ⟨g1, 0, none⟩) 8 c1) := by rw [cell_of_row _ _ _ _ _ _ r1]; rfl
  have z2 : w15.cell? ⟨t2, 3, none⟩ = some (.slice (some ⟨g2, 0, none⟩) 9 c2) := by rw [cell_of_row _ _ _ _ _ _ r2]; rfl
  have z3 : w15.cell? ⟨t3, 3, none⟩ = some (.slice (some ⟨g3, 0, none⟩) 3 c3) := by rw [cell_of_row _ _ _ _ _ _ r3]; rfl
  have q4 := A4.c0
  have q5 := A5.c0
  rw [k4] at q4
  rw [k5] at q5
  clear r1 r2 r3 A4 A5 k4 k5
  go_upto_region 9 with fail
  go_wp2_with (first | ((with_reducible refine wpList_load42 rfl _ rfl _ rfl _ A1 ?_); simp only [Act.put, List.setIfInBounds_toArray, List.set_cons_succ, List.set_cons_zero]) | ((with_reducible refine wpList_load42 rfl _ rfl _ rfl _ A3 ?_); simp only [Act.put, List.setIfInBounds_toArray, List.set_cons_succ, List.set_cons_zero]) | ((with_reducible refine wpList_builtW rfl 40 #[(0, .const (.int .i64 3)), (2, .const (.int .i64 2))] rfl (opA ⟨3, 0, 2, 0, 0, 0⟩) (by kernel_rfl) ?_); simp only [Act.put, List.setIfInBounds_toArray, List.set_cons_succ, List.set_cons_zero]) | ((with_reducible refine wpList_builtW rfl 40 #[(0, .const (.int .i64 13)), (1, .const (.int .i64 15))] rfl (opA ⟨13, 15, 0, 0, 0, 0⟩) (by kernel_rfl) ?_); simp only [Act.put, List.setIfInBounds_toArray, List.set_cons_succ, List.set_cons_zero]) | ((with_reducible refine wpList_eqlO rfl _ _ rfl ⟨3, 0, 2, 0, 0, 0⟩ ⟨3, 0, 2, 0, 0, 0⟩ rfl rfl true (by decide) ?_); simp only [Act.put, List.setIfInBounds_toArray, List.set_cons_succ, List.set_cons_zero]) | ((with_reducible refine wpList_eqlO rfl _ _ rfl ⟨13, 15, 0, 0, 0, 0⟩ ⟨13, 15, 0, 0, 0, 0⟩ rfl rfl true (by decide) ?_); simp only [Act.put, List.setIfInBounds_toArray, List.set_cons_succ, List.set_cons_zero]))
  go_ret
  exact ⟨rfl, hB⟩
end Go.Proofs.Ytilbnjldfgofmaa
/- The document's questions. -/
namespace Go.Proofs.Ytilbnjldfgofmaa
open Go.RowKit
set_option linter.unusedVariables false
set_option linter.unusedSimpArgs false
set_option maxRecDepth 8000

theorem quietD_c (o : Opr) (hk : isK o.kind = true) (w : World) : Calls Try.prog 61 #[opV o] w fun e w' => e = .returned (.bool (!loudK o.kind)) ∧ Below w.heap.size w w' := by
  obtain ⟨k, r, a, b, order, imm⟩ := o
  dsimp only at hk ⊢
  rcases isK_cases hk with rfl | rfl | rfl | rfl | rfl | rfl | rfl | rfl | rfl | rfl | rfl | rfl | rfl | rfl | rfl | rfl | rfl | rfl
  all_goals
    go_enter Try.func61, Try.ntmps61
    go_wp2
    go_ret
    exact ⟨rfl, below_alloc _ _⟩
/-- An address as a value and a number. -/
def partD (l : List Opr) (x : Nat) : Int × Int × Bool := if (opAt l x).kind = 1 then (-1, (opAt l x).imm, true) else if (opAt l x).kind = 8 ∧ (opAt l x).r = 1 ∧ (opAt l (opAt l x).b.toNat).kind = 1 then ((opAt l x).a, (opAt l (opAt l x).b.toNat).imm, true) else (0, 0, false)
def difV (p n : Int) (one : Bool) (q m : Int) (two : Bool) (x y : Int) : Bool := if one = true ∧ two = true ∧ p = q then n != m else if one = true ∧ p = y then n != 0 else if two = true ∧ q = x then m != 0 else false
def difD (l : List Opr) (x y : Nat) : Bool := difV (partD l x).1 (partD l x).2.1 (partD l x).2.2 (partD l y).1 (partD l y).2.1 (partD l y).2.2 x y
theorem difx (kx rx ax kbx ibx ix ky ry ay kby iby iy X Y : Int) (hx : kx = 8 → ax < X ∧ 0 ≤ ax) (hy : ky = 8 → ay < Y ∧ 0 ≤ ay) (hX : 0 ≤ X) (hY : 0 ≤ Y) (P Q : Int × Int × Bool)
  (hP : P = if kx = 1 then (-1, ix, true) else if kx = 8 ∧ rx = 1 ∧ kbx = 1 then (ax, ibx, true) else (0, 0, false))
  (hQ : Q = if ky = 1 then (-1, iy, true) else if ky = 8 ∧ ry = 1 ∧ kby = 1 then (ay, iby, true) else (0, 0, false)) :
  (if P.2.2 = true ∧ Q.2.2 = true ∧ P.1 = Q.1 then P.2.1 != Q.2.1 else if P.2.2 = true ∧ P.1 = Y then P.2.1 != 0 else if Q.2.2 = true ∧ Q.1 = X then Q.2.1 != 0 else false)
  = (((kx == 1) && (ky == 1) && (ix != iy)) || ((kx == 8 && rx == 1) && (ky == 8 && ry == 1) && ax == ay && ((kbx == 1) && (kby == 1) && (ibx != iby))) || ((kx == 8 && rx == 1) && ax == Y && kbx == 1 && ibx != 0) || ((ky == 8 && ry == 1) && ay == X && kby == 1 && iby != 0)) := by
  by_cases x1 : kx = 1
  · by_cases y1 : ky = 1
    · rw [if_pos x1] at hP; rw [if_pos y1] at hQ; subst hP hQ; grind
    · by_cases y8 : ky = 8 ∧ ry = 1 ∧ kby = 1
      · rw [if_pos x1] at hP; rw [if_neg y1, if_pos y8] at hQ; subst hP hQ; grind
      · rw [if_pos x1] at hP; rw [if_neg y1, if_neg y8] at hQ; subst hP hQ; grind
  · by_cases x8 : kx = 8 ∧ rx = 1 ∧ kbx = 1
    · rw [if_neg x1, if_pos x8] at hP
      by_cases y1 : ky = 1
      · rw [if_pos y1] at hQ; subst hP hQ; grind
      · by_cases y8 : ky = 8 ∧ ry = 1 ∧ kby = 1
        · rw [if_neg y1, if_pos y8] at hQ; subst hP hQ; grind
        · rw [if_neg y1, if_neg y8] at hQ; subst hP hQ; grind
    · rw [if_neg x1, if_neg x8] at hP
      by_cases y1 : ky = 1
      · rw [if_pos y1] at hQ; subst hP hQ; grind
      · by_cases y8 : ky = 8 ∧ ry = 1 ∧ kby = 1
        · rw [if_neg y1, if_pos y8] at hQ; subst hP hQ; grind
        · rw [if_neg y1, if_neg y8] at hQ; subst hP hQ; grind
section
variable {pc words el : Int} {l : List Opr}
theorem difD_eq (h : rightB pc words el l = true) {x y : Nat} (hx : x < l.length) (hy : y < l.length) : difD l x y = differB l x y := by
  have sum_lt : ∀ k, k < l.length → (opAt l k).kind = 8 → (opAt l k).a < k ∧ 0 ≤ (opAt l k).a := fun k hk e => by
    have := use_lt h hk (uses_a (by rw [e]; decide +kernel))
    omega
  exact difx _ _ _ _ _ _ _ _ _ _ _ _ x y (sum_lt x hx) (sum_lt y hy) (by omega) (by omega) (partD l x) (partD l y) rfl rfl
variable {v : Value} {w : World}
/-- A block in a box of its own. -/
structure Bk (x : World) (b : Nat) (pc words el : Int) (v : Value) (l : List Opr) : Prop where
  r : x.heap[b]? = some (.cells (blA pc words el v) 25)
  ops : Ops x v l
theorem Bk.grow {x y : World} {b : Nat} (h : Bk x b pc words el v l) (hb : Below x.heap.size x y) : Bk y b pc words el v l := ⟨keepRow h.r hb, h.ops.grow hb⟩
theorem Bk.z {x : World} {b : Nat} (h : Bk x b pc words el v l) : x.cell? ⟨b, 3, none⟩ = some v := by rw [cell_of_row _ _ _ _ _ _ h.r]; rfl
theorem Bk.new (O : Ops w v l) : Bk (w.alloc (.cells (blA pc words el v) 25)) w.heap.size pc words el v l := ⟨heap_alloc_new _ _, O.grow (below_alloc _ _)⟩
set_option maxHeartbeats 1000000 in
theorem nextD_c (h : rightB pc words el l = true) (O : Ops w v l) {k : Nat} (hk : k + 1 < l.length) : Calls Try.prog 33 #[blV pc words el v, vI k] w fun e w' => e = .returned (vI (nextK loudK l k)) ∧ Below w.heap.size w w' := by
  obtain ⟨n1, n2, n3, n4⟩ := next_at (P := loudK) h (fun k a b => by have := k128 a b; first | exact this.2.1 | exact this.2.2) hk
  have h512 := (right_lens h).2.1
  generalize nextK loudK l k = j at *
  have hb := below_alloc w (.cells (blA pc words el v) 25)
  have B1 := Bk.new (pc := pc) (words := words) (el := el) O
  obtain ⟨ra, cap, rfl, -⟩ := O.cell (by omega)
  go_enter Try.func33, Try.ntmps33
  go_upto_region 1 with fail
  generalize w.alloc (.cells (blA pc words el (.slice (some ra) l.length cap)) 25) = w1 at *
  generalize w.heap.size = b1 at B1 ⊢
  go_upto_region 2 with fail
  go_loopw [5] (fun s5 wr => ∃ m : Nat, s5 = vI m ∧ k < m ∧ m ≤ j ∧ Bk wr b1 pc words el (.slice (some ra) l.length cap) l ∧ Below w.heap.size w wr) (fun s5 _ => ((j : Int) - intOf s5).toNat)
  case atStart => exact ⟨k + 1, by first | go_num | (simp; done) | rfl, by omega, by omega, B1, hb⟩
  case round =>
    clear B1 hb
    obtain ⟨m, rfl, hm1, hm2, K, hb⟩ := hrel
    have hml : m < l.length := by omega
    have z := K.z
    obtain ⟨ra', cap', e', hc⟩ := K.ops.cell (by omega)
    cases e'
    have A := hc m _ (opAt_some hml)
    clear hc
    have hi : (m : Int) < l.length := by omega
    have kf := quietD_c (opAt l m) (kind_at (right_at h hml)) wr
    by_cases hlt : m < j
    · rw [n4 m hm1 hlt] at kf
      go_wp2_with (first | ((with_reducible refine wpList_load42 rfl _ rfl _ rfl _ A ?_); simp only [Act.put, List.setIfInBounds_toArray, List.set_cons_succ, List.set_cons_zero]) | (go_at_call 61; (with_reducible refine kf.mono ?_); clear kf; rintro e w2 ⟨rfl, B⟩; dsimp only))
      go_roundw
      case rel => exact ⟨m + 1, by go_num, by omega, by omega, K.grow B, below_then hb (Nat.le_refl _) B⟩
      case measure => simp [intOf]; omega
    · obtain rfl : m = j := by omega
      rw [n3] at kf
      go_wp2_with (first | ((with_reducible refine wpList_load42 rfl _ rfl _ rfl _ A ?_); simp only [Act.put, List.setIfInBounds_toArray, List.set_cons_succ, List.set_cons_zero]) | (go_at_call 61; (with_reducible refine kf.mono ?_); clear kf; rintro e w2 ⟨rfl, B⟩; dsimp only))
      go_ret
      exact ⟨rfl, below_then hb (Nat.le_refl _) B⟩
end
end Go.Proofs.Ytilbnjldfgofmaa
/- The document's parted. -/
namespace Go.Proofs.Ytilbnjldfgofmaa
open Go.RowKit
set_option linter.unusedVariables false
set_option linter.unusedSimpArgs false
set_option maxRecDepth 8000

section
variable {pc words el : Int} {l : List Opr} {v : Value} {w : World}
set_option maxHeartbeats 4000000 in
theorem partedD_c (h : rightB pc words el l = true) (O : Ops w v l) {x : Nat} (hx : x < l.length) : Calls Try.prog 66 #[blV pc words el v, vI x] w fun e w' => e = .returned (.tuple #[vI (partD l x).1, vU (partD l x).2.1, .bool (partD l x).2.2]) ∧ Below w.heap.size w w' := by
  have hb := below_alloc w (.cells (blA pc words el v) 25)
  have K := Bk.new (pc := pc) (words := words) (el := el) O
  obtain ⟨ra, cap, rfl, hc⟩ := K.ops.cell (by omega)
  have A := hc x _ (opAt_some hx)
  have hbx := ab_lt h hx
  have A2 := hc (opAt l x).b.toNat _ (opAt_some hbx.2.2.2)
  have z3 := K.z
  clear hc
  have hi : (x : Int) < l.length := by omega
  obtain ⟨res, hres⟩ : ∃ r, r = partD l x := ⟨_, rfl⟩
  rw [← hres]
  unfold partD at hres
  generalize opAt l x = o at *
  obtain ⟨bn, hbn⟩ : ∃ bn : Nat, o.b = bn := ⟨o.b.toNat, by omega⟩
  rw [hbn, Int.toNat_natCast] at A2 hres
  have hbl : (bn : Int) < l.length := by omega
  generalize opAt l bn = u at *
  obtain ⟨k, r, a, b, order, imm⟩ := o
  dsimp only at hbn hres hbx A
  subst hbn
  go_enter Try.func66, Try.ntmps66
  go_upto_region 1 with fail
  clear O
  generalize w.alloc (.cells (blA pc words el (.slice (some ra) l.length cap)) 25) = w1 at *
  generalize w.heap.size = b1 at K z3 ⊢
  have Hn := has_none w1
  go_upto_region 2 with (first | ((with_reducible refine wpList_load42 rfl _ rfl _ rfl _ A ?_); simp only [Act.put, List.setIfInBounds_toArray, List.set_cons_succ, List.set_cons_zero]) | ((with_reducible refine wpList_store_new Hn rfl 40 _ _ rfl (opA ⟨k, r, a, bn, order, imm⟩) rfl rfl (op_inf _) (by kernel_rfl) (op_one _) ?_); clear Hn; intro w3 Hn; simp only [Act.put, List.setIfInBounds_toArray, List.set_cons_succ, List.set_cons_zero]))
  have L : LocO w1.heap.size ⟨k, r, a, bn, order, imm⟩ w3 := Hn.get List.mem_cons_self
  have K3 := K.grow Hn.below
  have A3 := A2.grow Hn.below
  have hb3 := below_then hb (Nat.le_refl _) Hn.below
  clear Hn hb K A A2 z3
  generalize w1.heap.size = b3 at *
  clear w1
  have z3 := K3.z
  have c0 := L.c0
  have c1 := L.c1
  have c2 := L.c2
  have c3 := L.c3
  have c5 := L.c5
  have d0 := A3.c0
  have d5 := A3.c5
  dsimp only at c0 c1 c2 c3 c5
  clear K3 L A3
  replace hb3 := show Hid _ from hb3
  by_cases h1 : k = 1
  · rw [if_pos h1] at hres
    subst hres
    go_upto_region 3 with fail
    go_quiet (fail)
    go_wp2
    refine bodyPost_ret (results_tmp3 rfl _ _ _) rfl ?_
    exact ⟨rfl, below_then hb3.out (Nat.le_refl _) (below_drewN (Below.refl _ w3))⟩
  · rw [if_neg h1] at hres
    by_cases h8 : k = 8
    · by_cases hr : r = 1
      · by_cases hu : u.kind = 1
        · rw [if_pos ⟨h8, hr, hu⟩] at hres
          subst hres
          go_upto_region 5 with fail
          go_quiet (fail)
          go_wp2
          refine bodyPost_ret (results_tmp3 rfl _ _ _) rfl ?_
          exact ⟨rfl, below_then hb3.out (Nat.le_refl _) (below_drewN (Below.refl _ w3))⟩
        · rw [if_neg (fun q => hu q.2.2)] at hres
          subst hres
          go_wp2
          refine bodyPost_ret (results_tmp3 rfl _ _ _) rfl ?_
          exact ⟨rfl, hb3.out⟩
      · rw [if_neg (fun q => hr q.2.1)] at hres
        subst hres
        go_wp2
        refine bodyPost_ret (results_tmp3 rfl _ _ _) rfl ?_
        exact ⟨rfl, hb3.out⟩
    · rw [if_neg (fun q => h8 q.1)] at hres
      subst hres
      go_wp2
      refine bodyPost_ret (results_tmp3 rfl _ _ _) rfl ?_
      exact ⟨rfl, hb3.out⟩
end
end Go.Proofs.Ytilbnjldfgofmaa
/- The document's differ. -/
namespace Go.Proofs.Ytilbnjldfgofmaa
open Go.RowKit
set_option linter.unusedVariables false
set_option linter.unusedSimpArgs false
set_option maxRecDepth 8000

section
variable {pc words el : Int} {l : List Opr} {v : Value} {w : World}
set_option maxHeartbeats 4000000 in
theorem differD_c (h : rightB pc words el l = true) (O : Ops w v l) {x y : Nat} (hx : x < l.length) (hy : y < l.length) : Calls Try.prog 37 #[blV pc words el v, vI x, vI y] w fun e w' => e = .returned (.bool (differB l x y)) ∧ Below w.heap.size w w' := by
  rw [← difD_eq h hx hy]
  unfold difD
  obtain ⟨⟨p, n, one⟩, hP⟩ : ∃ P, P = partD l x := ⟨_, rfl⟩
  obtain ⟨⟨q, m, two⟩, hQ⟩ : ∃ P, P = partD l y := ⟨_, rfl⟩
  rw [← hP, ← hQ]
  dsimp only
  have hb := below_alloc w (.cells (blA pc words el v) 25)
  have K := Bk.new (pc := pc) (words := words) (el := el) O
  obtain ⟨ao, cap, rfl⟩ := O.len
  go_enter Try.func37, Try.ntmps37
  go_upto_region 1 with fail
  clear O
  generalize w.alloc (.cells (blA pc words el (.slice ao l.length cap)) 25) = w1 at *
  generalize w.heap.size = b1 at K ⊢
  have r1 := K.r
  have k1 := partedD_c (pc := pc) (words := words) (el := el) h K.ops hx
  rw [← hP] at k1
  dsimp only at k1
  replace hP := show Hid _ from hP
  replace hQ := show Hid _ from hQ
  go_upto_region 2 with (first | ((with_reducible refine wpList_load_if rfl 25 _ rfl _ rfl 25 _ (0, 0) _ r1 Try.underlying25 rfl (bl_inf _ _ _ _) ?_); simp only [Act.put, List.setIfInBounds_toArray, List.set_cons_succ, List.set_cons_zero]) | (go_at_call 66; (with_reducible refine k1.mono ?_); clear k1; rintro e w2 ⟨rfl, B⟩; dsimp only))
  replace K := K.grow B
  replace hb := below_then hb (Nat.le_refl _) B
  clear B r1 w1
  have r1 := K.r
  have k1 := partedD_c (pc := pc) (words := words) (el := el) h K.ops hy
  rw [← hQ.out] at k1
  dsimp only at k1
  go_upto_region 3 with (first | ((with_reducible refine wpList_load_if rfl 25 _ rfl _ rfl 25 _ (0, 0) _ r1 Try.underlying25 rfl (bl_inf _ _ _ _) ?_); simp only [Act.put, List.setIfInBounds_toArray, List.set_cons_succ, List.set_cons_zero]) | (go_at_call 66; (with_reducible refine k1.mono ?_); clear k1; rintro e w3 ⟨rfl, B⟩; dsimp only))
  replace hb := below_then hb (Nat.le_refl _) B
  clear B r1 w2 K hP hQ
  cases one with
  | true =>
    cases two with
    | true =>
      by_cases h1 : p = q
      · by_cases h2 : n = m
        · go_wp2
          go_ret
          exact ⟨by simp [difV, h1, h2], hb⟩
        · go_wp2
          go_ret
          exact ⟨by simp [difV, h1, h2], hb⟩
      · by_cases h3 : p = y
        · by_cases h4 : n = 0
          · go_wp2
            go_ret
            exact ⟨by first | (simp [difV, h1, h3, h4]; done) | (have h5 : ¬ (y : Int) = q := (fun e => h1 (h3.trans e)); simp [difV, h3, h4, h5]), hb⟩
          · go_wp2
            go_ret
            exact ⟨by first | (simp [difV, h1, h3, h4]; done) | (have h5 : ¬ (y : Int) = q := (fun e => h1 (h3.trans e)); simp [difV, h3, h4, h5]), hb⟩
        · by_cases h5 : q = x
          · by_cases h4 : m = 0
            · go_wp2
              go_ret
              exact ⟨by first | (simp [difV, h1, h3, h4, h5]; done) | (have h6 : ¬ p = (x : Int) := (fun e => h1 (e.trans h5.symm)); simp [difV, h3, h4, h5, h6]), hb⟩
            · go_wp2
              go_ret
              exact ⟨by first | (simp [difV, h1, h3, h4, h5]; done) | (have h6 : ¬ p = (x : Int) := (fun e => h1 (e.trans h5.symm)); simp [difV, h3, h4, h5, h6]), hb⟩
          · go_wp2
            go_ret
            exact ⟨by simp [difV, h1, h3, h5], hb⟩
    | false =>
      by_cases h3 : p = y
      · by_cases h4 : n = 0
        · go_wp2
          go_ret
          exact ⟨by simp [difV, h3, h4], hb⟩
        · go_wp2
          go_ret
          exact ⟨by simp [difV, h3, h4], hb⟩
      · go_wp2
        go_ret
        exact ⟨by simp [difV, h3], hb⟩
  | false =>
    cases two with
    | true =>
      by_cases h5 : q = x
      · by_cases h4 : m = 0
        · go_wp2
          go_ret
          exact ⟨by simp [difV, h5, h4], hb⟩
        · go_wp2
          go_ret
          exact ⟨by simp [difV, h5, h4], hb⟩
      · go_wp2
        go_ret
        exact ⟨by simp [difV, h5], hb⟩
    | false =>
      go_wp2
      go_ret
      exact ⟨by simp [difV], hb⟩

end
end Go.Proofs.Ytilbnjldfgofmaa
/- The document's May. -/
namespace Go.Proofs.Ytilbnjldfgofmaa
open Go.RowKit
set_option linter.unusedVariables false
set_option linter.unusedSimpArgs false
set_option maxRecDepth 8000

theorem rel_loadB {E : World → World → Prop} {w : World} {b : Nat} {pc words el : Int} {v : Value} (H : w.heap[b]? = some (.cells (blA pc words el v) 25)) : (loadVar 25 ⟨b, 0, none⟩).run Try.prog w = .ok (blV pc words el v) w := run_loadVar_row w b 25 25 (blA pc words el v) (0, 0) _ H Try.underlying25 rfl (bl_inf _ _ _ _)
section
variable {pc words el : Int} {l : List Opr} {v : Value} {w : World}
theorem bk_up {w0 : World} {b : Nat} : Rel.Up Rel.Grows (fun x => Bk x b pc words el v l ∧ Below w0.heap.size w0 x) := fun x y h hb => ⟨h.1.grow hb, below_then h.2 (Nat.le_refl _) hb⟩
set_option maxHeartbeats 4000000 in
theorem mayD_c (h : rightB pc words el l = true) (O : Ops w v l) {k : Nat} (hk : k < l.length) : Calls Try.prog 18 #[blV pc words el v, vI k] w fun e w' => e = .returned (.bool (aheadR l k).isSome) ∧ Below w.heap.size w w' := by
  have hb := below_alloc w (.cells (blA pc words el v) 25)
  have K := Bk.new (pc := pc) (words := words) (el := el) O
  obtain ⟨ra, cap, rfl, hc⟩ := K.ops.cell (by omega)
  have A := hc k _ (opAt_some hk)
  have z3 := K.z
  have c0 := A.c0
  have c4 := A.c4
  clear A hc
  have hi : (k : Int) < l.length := by omega
  have hm : (aheadR l k).isSome = (aheadAt l k).isSome := by unfold aheadR; rw [Option.isSome_map]
  rw [hm]
  clear hm
  go_enter Try.func18, Try.ntmps18
  go_upto_region 1 with fail
  clear O
  generalize w.alloc (.cells (blA pc words el (.slice (some ra) l.length cap)) 25) = w1 at *
  generalize w.heap.size = b1 at K z3 ⊢
  by_cases h10 : (opAt l k).kind = 10
  · by_cases hO : (opAt l k).order = 0
    · have hp : plainB (opAt l k) 10 = true := by unfold plainB; rw [h10, hO]; rfl
      have hin := inner_k h hk (by simp [h10])
      obtain ⟨n1, n2, n3, n4⟩ := next_at (P := loudK) h (fun k a b => by have := k128 a b; first | exact this.2.1 | exact this.2.2) hin.2
      have hm : (aheadAt l k).isSome = (plainB (opAt l (nextK loudK l k)) 9 && differB l (opAt l k).a (opAt l (nextK loudK l k)).a) := by
        unfold aheadAt
        cases q1 : plainB (opAt l (nextK loudK l k)) 9 <;> cases q2 : differB l (opAt l k).a (opAt l (nextK loudK l k)).a <;> simp [hp]
      have r1 := K.r
      have k1 := nextD_c (pc := pc) (words := words) (el := el) h K.ops hin.2
      replace hm := show Hid _ from hm
      replace h10 := show Hid _ from h10
      replace hO := show Hid _ from hO
      rw [h10.out] at c0
      rw [hO.out] at c4
      go_upto_region 3 with fail
      clear c0 c4 z3
      go_upto_region 4 with (first | ((with_reducible refine wpList_load_if rfl 25 _ rfl _ rfl 25 _ (0, 0) _ r1 Try.underlying25 rfl (bl_inf _ _ _ _) ?_); simp only [Act.put, List.setIfInBounds_toArray, List.set_cons_succ, List.set_cons_zero]) | (go_at_call 33; (with_reducible refine k1.mono ?_); clear k1; rintro e w2 ⟨rfl, B⟩; dsimp only))
      replace K := K.grow B
      replace hb := below_then hb (Nat.le_refl _) B
      clear B r1 w1
      generalize nextK loudK l k = j at *
      obtain ⟨ra', cap', e', hc⟩ := K.ops.cell (by omega)
      cases e'
      have A := hc k _ (opAt_some hk)
      have A' := hc j _ (opAt_some n2)
      have z3 := K.z
      have c0 := A'.c0
      have c4 := A'.c4
      have hij : (j : Int) < l.length := by omega
      have hm2 := hm.out
      by_cases g9 : (opAt l j).kind = 9
      · by_cases gO : (opAt l j).order = 0
        · have hp9 : plainB (opAt l j) 9 = true := by unfold plainB; rw [g9, gO]; rfl
          rw [hp9, Bool.true_and] at hm2
          have hab := ab_lt h hk
          have haj := ab_lt h n2
          have kd : ∀ x, Bk x b1 pc words el (.slice (some ra) l.length cap) l → _ := fun x hx => differD_c (pc := pc) (words := words) (el := el) h hx.ops hab.2.1 haj.2.1
          rw [Int.toNat_of_nonneg hab.1, Int.toNat_of_nonneg haj.1] at kd
          rw [← hm2] at kd
          clear hm hm2
          rw [g9] at c0
          rw [gO] at c4
          go_upto_region 6 with fail
          have e2 := A.c2
          have e2' := A'.c2
          have q2 : ∀ x, Below w2.heap.size w2 x → x.cell? ⟨(ra.add (k * 6)).block, (ra.add (k * 6)).off + 2, none⟩ = some (vI (opAt l k).a) := fun x hx => (A.grow hx).c2
          have q2' : ∀ x, Below w2.heap.size w2 x → x.cell? ⟨(ra.add (j * 6)).block, (ra.add (j * 6)).off + 2, none⟩ = some (vI (opAt l j).a) := fun x hx => (A'.grow hx).c2
          have hst : Bk { w2 with drawn := w2.drawn + 1 } b1 pc words el (.slice (some ra) l.length cap) l ∧ Below w2.heap.size w2 { w2 with drawn := w2.drawn + 1 } := ⟨K.grow (below_dr w2), below_dr w2⟩
          clear A A' hc c0 c4 z3 e2 e2'
          generalize (opAt l k).a = ak at *
          generalize (opAt l j).a = aj at *
          refine Rel.wp_region_tail 14 Rel.Grows (fun x => Bk x b1 pc words el (.slice (some ra) l.length cap) l ∧ Below w2.heap.size w2 x) [.inl (blV pc words el (.slice (some ra) l.length cap)), .inl (ptr b1 3), .inl (.slice (some ra) l.length cap), .inl (vI k), .inl (.pointer (some (ra.add (k * 6)))), .inl (.pointer (some ((ra.add (k * 6)).add 2))), .inl (vI ak), .inl (ptr b1 3), .inl (.slice (some ra) l.length cap), .inl (vI j), .inl (.pointer (some (ra.add (j * 6)))), .inl (.pointer (some ((ra.add (j * 6)).add 2))), .inl (vI aj), .inl (.bool (aheadAt l k).isSome)] (by kernel_rfl) (by kernel_rfl) bk_up hst (by intro k hk; simp only [List.mem_cons, List.not_mem_nil, or_false] at hk; rcases hk with rfl | rfl | rfl | rfl | rfl | rfl | rfl | rfl | rfl | rfl | rfl | rfl | rfl | rfl <;> trivial) ?_
          clear hst
          refine ⟨fun w6 hC hF => by have y0 : w6.cell? ⟨b1, 0, none⟩ = some (vU pc) := (by rw [cell_of_row _ _ _ _ _ _ hC.1.r]; rfl); have y1 : w6.cell? ⟨b1, 1, none⟩ = some (vI words) := (by rw [cell_of_row _ _ _ _ _ _ hC.1.r]; rfl); have y2 : w6.cell? ⟨b1, 2, none⟩ = some (vI el) := (by rw [cell_of_row _ _ _ _ _ _ hC.1.r]; rfl); have y3 := hC.1.z; go_simp; exact Below.refl _ _, ?_⟩
          simp only [Act.put, List.setIfInBounds_toArray, List.set_cons_succ, List.set_cons_zero]
          refine ⟨fun w6 hC hF => by go_simp; exact Below.refl _ _, ?_⟩
          simp only [Act.put, List.setIfInBounds_toArray, List.set_cons_succ, List.set_cons_zero]
          refine ⟨fun w6 hC hF => by have zz := hC.1.z; go_simp; exact Below.refl _ _, ?_⟩
          simp only [Act.put, List.setIfInBounds_toArray, List.set_cons_succ, List.set_cons_zero]
          refine ⟨fun w6 hC hF => by go_simp; exact Below.refl _ _, ?_⟩
          simp only [Act.put, List.setIfInBounds_toArray, List.set_cons_succ, List.set_cons_zero]
          refine ⟨fun w6 hC hF => by go_simp; exact Below.refl _ _, ?_⟩
          simp only [Act.put, List.setIfInBounds_toArray, List.set_cons_succ, List.set_cons_zero]
          refine ⟨fun w6 hC hF => by go_simp; exact Below.refl _ _, ?_⟩
          simp only [Act.put, List.setIfInBounds_toArray, List.set_cons_succ, List.set_cons_zero]
          refine ⟨fun w6 hC hF => by have zz := q2 _ hC.2; go_simp; exact Below.refl _ _, ?_⟩
          simp only [Act.put, List.setIfInBounds_toArray, List.set_cons_succ, List.set_cons_zero]
          refine ⟨fun w6 hC hF => by go_simp; exact Below.refl _ _, ?_⟩
          simp only [Act.put, List.setIfInBounds_toArray, List.set_cons_succ, List.set_cons_zero]
          refine ⟨fun w6 hC hF => by have zz := hC.1.z; go_simp; exact Below.refl _ _, ?_⟩
          simp only [Act.put, List.setIfInBounds_toArray, List.set_cons_succ, List.set_cons_zero]
          refine ⟨fun w6 hC hF => by go_simp; exact Below.refl _ _, ?_⟩
          simp only [Act.put, List.setIfInBounds_toArray, List.set_cons_succ, List.set_cons_zero]
          refine ⟨fun w6 hC hF => by go_simp; exact Below.refl _ _, ?_⟩
          simp only [Act.put, List.setIfInBounds_toArray, List.set_cons_succ, List.set_cons_zero]
          refine ⟨fun w6 hC hF => by go_simp; exact Below.refl _ _, ?_⟩
          simp only [Act.put, List.setIfInBounds_toArray, List.set_cons_succ, List.set_cons_zero]
          refine ⟨fun w6 hC hF => by have zz := q2' _ hC.2; go_simp; exact Below.refl _ _, ?_⟩
          simp only [Act.put, List.setIfInBounds_toArray, List.set_cons_succ, List.set_cons_zero]
          refine ⟨fun w6 hC hF => by (go_simp; refine (kd w6 hC.1).mono ?_; rintro e w7 ⟨rfl, B7⟩; first | exact ⟨_, rfl, B7, rfl⟩ | exact ⟨rfl, B7⟩ | exact ⟨B7, rfl⟩), ?_⟩
          simp only [Act.put, List.setIfInBounds_toArray, List.set_cons_succ, List.set_cons_zero]
          intro w5 hC hF
          clear hF
          simp only [List.drop_succ_cons, List.drop_zero]
          go_wp2
          go_ret
          exact ⟨rfl, below_then hb (Nat.le_refl _) hC.2⟩
        · have hp9 : plainB (opAt l j) 9 = false := by unfold plainB; simp [gO]
          rw [hp9, Bool.false_and] at hm2
          rw [g9] at c0
          go_wp2
          go_ret
          exact ⟨by rw [hm2]; rfl, hb⟩
      · have hp9 : plainB (opAt l j) 9 = false := by unfold plainB; simp [g9]
        rw [hp9, Bool.false_and] at hm2
        go_wp2
        go_ret
        exact ⟨by rw [hm2]; rfl, hb⟩
    · have hm : (aheadAt l k).isSome = false := by unfold aheadAt plainB; simp [hO]
      rw [h10] at c0
      go_wp2
      go_ret
      exact ⟨by rw [hm]; rfl, hb⟩
  · have hm : (aheadAt l k).isSome = false := by unfold aheadAt plainB; simp [h10]
    go_wp2
    go_ret
    exact ⟨by rw [hm]; rfl, hb⟩
end
end Go.Proofs.Ytilbnjldfgofmaa
/- OrderMays: the walk. -/
namespace Go.Proofs.Ytilbnjldfgofmaa
open Go.RowKit
set_option linter.unusedVariables false
set_option linter.unusedSimpArgs false
set_option maxRecDepth 8000

section
variable {pc words el i : Int} {l : List Opr} {v : Value} {w : World}
set_option maxHeartbeats 8000000 in
theorem mays_walk (hpc : 0 ≤ pc) (O : Ops w v l) (himm : ∀ k, 0 ≤ (opAt l k).imm) (hcap : ∀ ao n cap, v = .slice ao n cap → n ≤ cap) : Calls Try.prog 4 #[blV pc words el v, vI i] w fun e w' => e = .returned (.bool true) ∧ Below w.heap.size w w' := by
  have hb := below_alloc w (.cells (blA pc words el v) 25)
  have K := Bk.new (pc := pc) (words := words) (el := el) O
  go_enter Try.func4, Try.ntmps4
  go_upto_region 1 with fail
  clear O
  generalize w.alloc (.cells (blA pc words el v) 25) = w1 at *
  generalize w.heap.size = b1 at K ⊢
  go_upto_region 2 with (first | (go_at_call 7; (with_reducible refine (examples_c _).mono ?_); rintro e w2 ⟨rfl, B⟩; dsimp only))
  replace K := K.grow B
  replace hb := below_then hb (Nat.le_refl _) B
  clear B
  have r1 := K.r
  have km := may_c (pc := pc) (words := words) (el := el) (i := i) hpc K.ops himm hcap
  obtain ⟨res, hres⟩ : ∃ r, r = mayL pc words el l i := ⟨_, rfl⟩
  rw [← hres] at km
  obtain ⟨m, er⟩ := res
  dsimp only at km
  replace hres := show Hid _ from hres
  go_upto_region 3 with (first | ((with_reducible refine wpList_load_if rfl 25 _ rfl _ rfl 25 _ (0, 0) _ r1 Try.underlying25 rfl (bl_inf _ _ _ _) ?_); simp only [Act.put, List.setIfInBounds_toArray, List.set_cons_succ, List.set_cons_zero]) | (go_at_call 17; (with_reducible refine km.mono ?_); clear km; rintro e w3 ⟨rfl, B⟩; dsimp only))
  replace K := K.grow B
  replace hb := below_then hb (Nat.le_refl _) B
  clear B r1
  have r1 := K.r
  have kr := dRight_c (words := words) (el := el) hpc K.ops himm hcap
  go_upto_region 4 with (first | ((with_reducible refine wpList_load_if rfl 25 _ rfl _ rfl 25 _ (0, 0) _ r1 Try.underlying25 rfl (bl_inf _ _ _ _) ?_); simp only [Act.put, List.setIfInBounds_toArray, List.set_cons_succ, List.set_cons_zero]) | (go_at_call 8; (with_reducible refine kr.mono ?_); clear kr; rintro e w4 ⟨rfl, B⟩; dsimp only))
  replace K := K.grow B
  replace hb := below_then hb (Nat.le_refl _) B
  clear B r1
  replace hres := hres.out
  unfold mayL at hres
  cases hR : rightB pc words el l with
  | false =>
    rw [hR] at hres
    cases hres
    go_wp2
    go_ret
    exact ⟨rfl, hb⟩
  | true =>
    rw [if_pos hR] at hres
    obtain ⟨ao, cap, rfl⟩ := K.ops.len
    have z3 := K.z
    by_cases hi : i < 0
    · rw [if_pos (.inl hi)] at hres
      cases hres
      replace hR := show Hid _ from hR
      go_wp2
      go_ret
      exact ⟨rfl, hb⟩
    · by_cases hj : (l.length : Int) ≤ i
      · rw [if_pos (.inr hj)] at hres
        cases hres
        replace hR := show Hid _ from hR
        go_wp2
        go_ret
        exact ⟨rfl, hb⟩
      · rw [if_neg (fun q => q.elim hi hj)] at hres
        obtain ⟨k, rfl⟩ : ∃ k : Nat, i = k := ⟨i.toNat, by omega⟩
        rw [Int.toNat_natCast] at hres
        have hk : k < l.length := by omega
        have r1 := K.r
        have kd := mayD_c (pc := pc) (words := words) (el := el) hR K.ops hk
        cases hA : (aheadR l k).isSome with
        | false =>
          rw [hA] at kd hres
          cases hres
          replace hR := show Hid _ from hR
          replace hA := show Hid _ from hA
          go_wp2_with (first | ((with_reducible refine wpList_load_if rfl 25 _ rfl _ rfl 25 _ (0, 0) _ r1 Try.underlying25 rfl (bl_inf _ _ _ _) ?_); simp only [Act.put, List.setIfInBounds_toArray, List.set_cons_succ, List.set_cons_zero]) | (go_at_call 18; (with_reducible refine kd.mono ?_); clear kd; rintro e w5 ⟨rfl, B⟩; dsimp only; replace hb := below_then hb (Nat.le_refl _) B))
          go_ret
          exact ⟨rfl, hb⟩
        | true =>
          rw [hA] at kd hres
          cases hres
          replace hR := show Hid _ from hR
          replace hA := show Hid _ from hA
          go_wp2_with (first | ((with_reducible refine wpList_load_if rfl 25 _ rfl _ rfl 25 _ (0, 0) _ r1 Try.underlying25 rfl (bl_inf _ _ _ _) ?_); simp only [Act.put, List.setIfInBounds_toArray, List.set_cons_succ, List.set_cons_zero]) | (go_at_call 18; (with_reducible refine kd.mono ?_); clear kd; rintro e w5 ⟨rfl, B⟩; dsimp only; replace hb := below_then hb (Nat.le_refl _) B))
          go_ret
          exact ⟨rfl, hb⟩
end
end Go.Proofs.Ytilbnjldfgofmaa
