/- The examples. -/
import Derived.Test.YtilhjbhhgpoajaaDoorUo
namespace Go.Proofs.YtilhjbhhgpoajaaDoor
open Go.RowKit
set_option linter.unusedVariables false
set_option linter.unusedSimpArgs false
set_option maxRecDepth 8000

def sumL : List Opr := [⟨14, 0, 0, 0, 0, 64⟩, ⟨1, 0, 0, 0, 0, 2⟩, ⟨1, 0, 0, 0, 0, 3⟩, ⟨8, 1, 1, 2, 0, 0⟩, ⟨3, 0, 3, 0, 0, 0⟩, ⟨16, 0, 0, 0, 0, 68⟩]
def sumM : List Opr := [⟨14, 0, 0, 0, 0, 64⟩, ⟨1, 0, 0, 0, 0, 2⟩, ⟨1, 0, 0, 0, 0, 3⟩, ⟨1, 0, 0, 0, 0, 5⟩, ⟨3, 0, 3, 0, 0, 0⟩, ⟨16, 0, 0, 0, 0, 68⟩]
def sumA : Array Value := #[vI 14, vI 0, vI 0, vI 0, vI 0, vU 64, vI 1, vI 0, vI 0, vI 0, vI 0, vU 2, vI 1, vI 0, vI 0, vI 0, vI 0, vU 3, vI 8, vI 1, vI 1, vI 2, vI 0, vU 0, vI 3, vI 0, vI 3, vI 0, vI 0, vU 0, vI 16, vI 0, vI 0, vI 0, vI 0, vU 68]
theorem sum_lay : layAll sumL = sumM := by kernel_rfl
theorem sum_right : rightB 64 1 1 sumL = true := by kernel_rfl
theorem sum_u (k : Nat) : U64 (opAt sumL k).imm := by
  match k with
  | 0 => exact ⟨by decide, by decide⟩
  | 1 => exact ⟨by decide, by decide⟩
  | 2 => exact ⟨by decide, by decide⟩
  | 3 => exact ⟨by decide, by decide⟩
  | 4 => exact ⟨by decide, by decide⟩
  | 5 => exact ⟨by decide, by decide⟩
  | k + 6 => exact ⟨by show (0 : Int) ≤ 0; decide, by show (0 : Int) < _; decide⟩
theorem run_sum23 (w : World) : (Instr.buildSlice 23 6 #[(0, .agg #[vI 14, vI 0, vI 0, vI 0, vI 0, vU 64]), (1, .agg #[vI 1, vI 0, vI 0, vI 0, vI 0, vU 2]), (2, .agg #[vI 1, vI 0, vI 0, vI 0, vI 0, vU 3]), (3, .agg #[vI 8, vI 1, vI 1, vI 2, vI 0, vU 0]), (4, .agg #[vI 3, vI 0, vI 3, vI 0, vI 0, vU 0]), (5, .agg #[vI 16, vI 0, vI 0, vI 0, vI 0, vU 68])]).run Tryd.prog w = .ok (.slice (some ⟨w.heap.size, 0, none⟩) 6 6) (w.alloc (.cells sumA 37)) := by
  obtain ⟨i, hi, hz, hs, hby⟩ := info_parts info42
  exact run_buildSlice (P := Tryd.prog) w 23 37 6 _ _ i (opV nilO) Tryd.underlying23 hi hz (by rw [hs]; decide) (by rw [hs]; decide) (by rw [hs]; kernel_rfl)
theorem wpList_sum23 {ops : Array Oper} {rest : List Oper} {p : Oper} {a : Act} {w : World} {Q : Exit → Act → World → Prop} (hg : p.guard = none) (x0 x1 x2 x3 x4 x5 : Operand) (ho : p.op = .buildSlice 23 6 #[(0, x0), (1, x1), (2, x2), (3, x3), (4, x4), (5, x5)])
    (h0 : a.eval x0 = .agg #[vI 14, vI 0, vI 0, vI 0, vI 0, vU 64])
    (h1 : a.eval x1 = .agg #[vI 1, vI 0, vI 0, vI 0, vI 0, vU 2])
    (h2 : a.eval x2 = .agg #[vI 1, vI 0, vI 0, vI 0, vI 0, vU 3])
    (h3 : a.eval x3 = .agg #[vI 8, vI 1, vI 1, vI 2, vI 0, vU 0])
    (h4 : a.eval x4 = .agg #[vI 3, vI 0, vI 3, vI 0, vI 0, vU 0])
    (h5 : a.eval x5 = .agg #[vI 16, vI 0, vI 0, vI 0, vI 0, vU 68])
    (h : wpList Tryd.prog ops Q rest (a.put p.dst (.slice (some ⟨w.heap.size, 0, none⟩) 6 6)) (w.alloc (.cells sumA 37))) : wpList Tryd.prog ops Q (p :: rest) a w :=
  wpList_plain hg fun _ hK => by
    unfold Oper.wp execOp
    simp only [ho, Sem.run_bind, List.map_toArray, List.map_cons, List.map_nil, h0, h1, h2, h3, h4, h5, run_sum23, Result.andThen_ok]
    exact hK _ _ h
theorem sum_ops {w : World} {b : Nat} (h : w.heap[b]? = some (.cells sumA 37)) : Ops w (.slice (some ⟨b, 0, none⟩) 6 6) sumL := by
  have hc : ∀ j, w.cell? ⟨b, j, none⟩ = sumA[j]? := fun j => by rw [cell_of_row _ _ _ _ _ _ h]
  refine ⟨⟨_, _, rfl⟩, by decide, fun _ => ⟨_, _, rfl, fun i o ho => ?_⟩⟩
  rw [Addr.add_mid, Nat.zero_add]
  match i, ho with
  | 0, ho => cases ho; exact ⟨lt_of_some h, hc 0, hc 1, hc 2, hc 3, hc 4, hc 5⟩
  | 1, ho => cases ho; exact ⟨lt_of_some h, hc 6, hc 7, hc 8, hc 9, hc 10, hc 11⟩
  | 2, ho => cases ho; exact ⟨lt_of_some h, hc 12, hc 13, hc 14, hc 15, hc 16, hc 17⟩
  | 3, ho => cases ho; exact ⟨lt_of_some h, hc 18, hc 19, hc 20, hc 21, hc 22, hc 23⟩
  | 4, ho => cases ho; exact ⟨lt_of_some h, hc 24, hc 25, hc 26, hc 27, hc 28, hc 29⟩
  | 5, ho => cases ho; exact ⟨lt_of_some h, hc 30, hc 31, hc 32, hc 33, hc 34, hc 35⟩
  | i + 6, ho => simp [sumL] at ho
theorem back25 {fn : Func} {p : Tmp} {pc words el : Int} {v : Value} (h : fn.results = #[.cell p 25]) (tmps : Array Value) (w : World) (g : Nat) (hp : tmps.getD p undef = ptr g 0) (H : w.heap[g]? = some (.cells (blA pc words el v) 25)) : (results fn tmps).run Tryd.prog w = .ok (blV pc words el v) w :=
  results_cell_row h tmps w g 25 (blA pc words el v) (0, 0) _ hp H Tryd.underlying25 rfl (bl_inf _ _ _ _)
theorem bl_sz (v u : Value) : (blA 0 0 0 v).size = (blA 64 1 1 u).size := rfl
theorem sl_one (b n m : Nat) : (Value.slice (some ⟨b, 0, none⟩) n m).oneCell' = true := rfl
set_option maxHeartbeats 2000000 in
theorem sum_c (w : World) : Calls Tryd.prog 9 #[] w fun e w' => ∃ b, e = .returned (blV 64 1 1 (.slice (some ⟨b, 0, none⟩) 6 6)) ∧ w'.heap[b]? = some (.cells sumA 37) ∧ w.heap.size ≤ b ∧ Below w.heap.size w w' := by
  have hrow : (w.alloc (.cells (blA 0 0 0 (.slice none 0 0)) 25)).heap[w.heap.size]? = some (.cells (blA 0 0 0 (.slice none 0 0)) 25) := heap_alloc_new _ _
  have hb := below_alloc w (.cells (blA 0 0 0 (.slice none 0 0)) 25)
  go_enter Tryd.func9, Tryd.ntmps9
  go_upto_region 1 with fail
  generalize w.alloc (.cells (blA 0 0 0 (.slice none 0 0)) 25) = w1 at *
  have hr2 : (w1.alloc (.cells sumA 37)).heap[w.heap.size]? = some (.cells (blA 0 0 0 (.slice none 0 0)) 25) := by rw [Below.heap_alloc _ _ _ (lt_of_some hrow)]; exact hrow
  have hx : (w1.alloc (.cells sumA 37)).heap[w1.heap.size]? = some (.cells sumA 37) := heap_alloc_new _ _
  have hb2 := below_then hb (Nat.le_refl _) (below_alloc w1 (.cells sumA 37))
  have hne : w.heap.size ≠ w1.heap.size := Nat.ne_of_lt (lt_of_some hrow)
  have hle := hb.size
  go_wp2_with (first | ((with_reducible refine wpList_sum23 rfl _ _ _ _ _ _ rfl rfl rfl rfl rfl rfl rfl ?_); simp only [Act.put, List.setIfInBounds_toArray, List.set_cons_succ, List.set_cons_zero]; generalize w1.alloc (.cells sumA 37) = w2 at *) | ((with_reducible refine wpList_store_row rfl 25 _ _ rfl w.heap.size (blA 64 1 1 (.slice (some ⟨w1.heap.size, 0, none⟩) 6 6)) rfl rfl 25 _ hr2 (bl_inf _ _ _ _) (bl_sz _ _) (blk_one _ _ _ _ (sl_one _ _ _)) ?_); simp only [Act.put, List.setIfInBounds_toArray, List.set_cons_succ, List.set_cons_zero]))
  refine bodyPost_ret (back25 rfl _ _ w.heap.size rfl (setRow_heap _ _ _ _ _ _ hr2)) rfl ?_
  refine ⟨w1.heap.size, rfl, ?_, hle, below_setRow hb2 (Nat.le_refl _)⟩
  rw [setRow_other _ _ _ _ (Ne.symm hne)]; exact hx
theorem sl6_cap (b : Nat) : ∀ ao n cap, Value.slice (some ⟨b, 0, none⟩) 6 6 = .slice ao n cap → n ≤ cap := fun _ _ _ e => by cases e; exact Nat.le_refl _
theorem sumBlock_c {w : World} {b : Nat} (h : w.heap[b]? = some (.cells sumA 37)) : Calls Tryd.prog 5 #[blV 64 1 1 (.slice (some ⟨b, 0, none⟩) 6 6)] w fun e w' => ∃ u, e = .returned (.tuple #[blV 64 1 1 u, vI 0]) ∧ w'.ownsRow w.heap.size 37 6 u sumM.length (opF sumM) ∧ Below w.heap.size w w' := by
  refine (block_c (pc := 64) (words := 1) (el := 1) (by decide) (sum_ops h) sum_u (sl6_cap b) (fun ra n cap e => by cases e; exact lt_of_some h)).mono ?_
  rintro e w' ⟨B, ⟨hr, _⟩ | ⟨_, u, rfl, ho⟩⟩
  · rw [sum_right] at hr; cases hr
  · rw [sum_lay] at ho
    exact ⟨u, rfl, ho, B⟩
theorem sumStep_c {w : World} {b : Nat} (h : w.heap[b]? = some (.cells sumA 37)) : Calls Tryd.prog 7 #[blV 64 1 1 (.slice (some ⟨b, 0, none⟩) 6 6)] w fun e w' => ∃ u, e = .returned (.tuple #[blV 64 1 1 u, .bool true, vI 0]) ∧ u.oneCell' = true ∧ Below w.heap.size w w' := by
  refine (step_c (pc := 64) (words := 1) (el := 1) (by decide) (sum_ops h) sum_u (sl6_cap b) (fun ra n cap e => by cases e; exact lt_of_some h)).mono ?_
  rintro e w' ⟨B, ⟨hr, _⟩ | ⟨_, u, rfl, ho⟩⟩
  · rw [sum_right] at hr; cases hr
  · have e1 : (!(decide (layAll sumL = sumL))) = true := by rw [sum_lay]; decide
    rw [e1]
    rw [sum_lay] at ho
    exact ⟨u, rfl, (opsC_of ho (by decide)).one, B⟩
theorem nilBlock_c (w : World) : Calls Tryd.prog 5 #[blV 0 0 0 (.slice none 0 0)] w fun e w' => e = .returned (.tuple #[blV 0 0 0 (.slice none 0 0), vI 4]) ∧ Below w.heap.size w w' := by
  refine (block_c (l := []) (pc := 0) (words := 0) (el := 0) (by decide) ⟨⟨none, 0, rfl⟩, Nat.zero_le _, fun h => absurd h (by decide)⟩ (fun k => by rw [opAt_out (Nat.zero_le _)]; exact u_nil) (fun ao n cap e => by cases e; exact Nat.le_refl _) (fun ra n cap e => by cases e)).mono ?_
  rintro e w' ⟨B, ⟨_, rfl⟩ | ⟨hr, _⟩⟩
  · exact ⟨rfl, B⟩
  · exact absurd hr (by decide)
theorem still_eqlO {ops : Array Oper} {rest : List Oper} {o : Oper} {a : Act} {w : World} {Q : Act → Prop} (hg : Region.wanted o (yielded ops a.tmps) = true) (x y : Operand) (ho : o.op = .binOp .eql 37 x y 37) (c d : Opr) (hx : a.eval x = opV c) (hy : a.eval y = opV d)
    (h : wpStill Tryd.prog ops w Q rest (a.put o.dst (.bool (decide (c = d))))) : wpStill Tryd.prog ops w Q (o :: rest) a := by
  refine wpStill_step fun K hK => ?_
  rw [if_pos hg]
  have he := op_eq c d w
  unfold Oper.still execOp
  simp only [ho, hx, hy, Sem.run_bind, run_eqGuard_agg w _ _ _ _ _ _ guard42, Result.andThen_ok, run_eql_struct, he, Sem.run_pure, Oper.stillUpon_value]
  exact hK _ h
set_option maxHeartbeats 8000000 in
theorem examples_c (w : World) : Calls Tryd.prog 4 #[] w fun e w' => e = .returned (.bool true) ∧ Below w.heap.size w w' := by
  have ks := fun x => sum_c x
  have kn := fun x => nilBlock_c x
  go_enter Tryd.func4, Tryd.ntmps4
  go_upto_region 2 with (first | (go_at_call 9; (with_reducible refine (ks _).mono ?_); rintro e w1 ⟨b1, rfl, hb1, hlo1, B1⟩; dsimp only; have kb := sumBlock_c hb1) | (go_at_call 5; (with_reducible refine kb.mono ?_); clear kb; rintro e w2 ⟨u2, rfl, hown, B2⟩; dsimp only; have Hn := has_none w2; have hone : u2.oneCell' = true := (opsC_of hown (by decide)).one) | ((with_reducible refine wpList_store_new Hn rfl 25 _ _ rfl (blA 64 1 1 u2) rfl rfl (bl_inf _ _ _ _) (by kernel_rfl) (blk_one _ _ _ _ hone) ?_); clear Hn; intro w3 Hn; simp only [Act.put, List.setIfInBounds_toArray, List.set_cons_succ, List.set_cons_zero]))
  have rb : w3.heap[w2.heap.size]? = some (.cells (blA 64 1 1 u2) 25) := Hn.get List.mem_cons_self
  have hown3 : w3.ownsRow w1.heap.size 37 6 u2 sumM.length (opF sumM) := own_of_block hown (fun k hk => Hn.below.block k (hown.lt k hk).2)
  have B3 := below_then (below_then B1 (Nat.le_refl _) B2) (Nat.le_refl _) Hn.below
  clear Hn B1 B2 hown hb1
  generalize w2.heap.size = t1 at *
  go_upto_region 3 with (first | ((with_reducible refine wpList_built rfl 25 _ rfl (blA 0 0 0 (.slice none 0 0)) (by kernel_rfl) ?_); simp only [Act.put, List.setIfInBounds_toArray, List.set_cons_succ, List.set_cons_zero]) | (go_at_call 5; (with_reducible refine (kn _).mono ?_); clear kn; rintro e w4 ⟨rfl, B4⟩; dsimp only; have Hn := has_none w4) | ((with_reducible refine wpList_store_new Hn rfl 25 _ _ rfl (blA 0 0 0 (.slice none 0 0)) rfl rfl (bl_inf _ _ _ _) (by kernel_rfl) (blk_one _ _ _ _ rfl) ?_); clear Hn; intro w5 Hn; simp only [Act.put, List.setIfInBounds_toArray, List.set_cons_succ, List.set_cons_zero]))
  replace rb := keepRow (keepRow rb B4) Hn.below
  have hown5 : w5.ownsRow w1.heap.size 37 6 u2 sumM.length (opF sumM) := own_of_block hown3 (fun k hk => (Hn.below.block k (Nat.lt_of_lt_of_le (hown3.lt k hk).2 B4.size)).trans (B4.block k (hown3.lt k hk).2))
  replace B3 := below_then (below_then B3 (Nat.le_refl _) B4) (Nat.le_refl _) Hn.below
  clear hown3 B4 Hn
  generalize w4.heap.size = t3 at *
  go_upto_region 4 with (first | (go_at_call 9; (with_reducible refine (ks _).mono ?_); clear ks; rintro e w6 ⟨b6, rfl, hb6, hlo6, B6⟩; dsimp only; have kb := sumStep_c hb6) | (go_at_call 7; (with_reducible refine kb.mono ?_); clear kb; rintro e w7 ⟨u7, rfl, hone7, B7⟩; dsimp only; have Hn := has_none w7) | ((with_reducible refine wpList_store_new Hn rfl 25 _ _ rfl (blA 64 1 1 u7) rfl rfl (bl_inf _ _ _ _) (by kernel_rfl) (blk_one _ _ _ _ hone7) ?_); clear Hn; intro w8 Hn; simp only [Act.put, List.setIfInBounds_toArray, List.set_cons_succ, List.set_cons_zero]))
  replace rb := keepRow (keepRow (keepRow rb B6) B7) Hn.below
  have BB := below_then (below_then B6 (Nat.le_refl _) B7) (Nat.le_refl _) Hn.below
  have hown8 : w8.ownsRow w1.heap.size 37 6 u2 sumM.length (opF sumM) := own_of_block hown5 (fun k hk => BB.block k (hown5.lt k hk).2)
  replace B3 := below_then B3 (Nat.le_refl _) BB
  clear hown5 B6 B7 Hn BB hb6 hlo6 hlo1
  generalize w7.heap.size = t7 at *
  obtain ⟨g, cap, rfl, hc1, hc2, hgl, hcell, -⟩ := own_addr hown8 (by decide)
  have A3 := (opsC_of hown8 (by decide)).ops.cell (by decide)
  obtain ⟨ra, cap', e', hops⟩ := A3
  cases e'
  have H3 : OpAt w8 ⟨g, 18, none⟩ ⟨1, 0, 0, 0, 0, 5⟩ := hops 3 ⟨1, 0, 0, 0, 0, 5⟩ rfl
  have A3 := run_load42 H3
  have zb : w8.cell? ⟨t1, 3, none⟩ = some (.slice (some ⟨g, 0, none⟩) 6 cap) := by rw [cell_of_row _ _ _ _ _ _ rb]; rfl
  have c0 : w8.cell? ⟨g, 0, none⟩ = some (vI 14) := hcell 0 (by decide)
  have c1 : w8.cell? ⟨g, 6, none⟩ = some (vI 1) := hcell 6 (by decide)
  have c2 : w8.cell? ⟨g, 12, none⟩ = some (vI 1) := hcell 12 (by decide)
  have c3 : w8.cell? ⟨g, 18, none⟩ = some (vI 1) := hcell 18 (by decide)
  have c4 : w8.cell? ⟨g, 24, none⟩ = some (vI 3) := hcell 24 (by decide)
  have c5 : w8.cell? ⟨g, 30, none⟩ = some (vI 16) := hcell 30 (by decide)
  have c26 : w8.cell? ⟨g, 26, none⟩ = some (vI 3) := hcell 26 (by decide)
  have A3 : (loadVar 37 ⟨g, 18, none⟩).run Tryd.prog w8 = .ok (opV ⟨1, 0, 0, 0, 0, 5⟩) w8 := A3
  clear hcell hops hgl hc1 hown8 rb
  go_wp2
  refine wp_loop_rounds 7 ?_
  rw [rounds_succ]; go_wp2
  rw [rounds_succ]; go_wp2
  rw [rounds_succ]; go_wp2
  rw [rounds_succ]; go_wp2
  rw [rounds_succ]
  go_upto_region 9 with fail
  refine wp_region_still_tail 12 (by kernel_rfl) (by kernel_rfl) ?_
  replace A3 : (loadVar 37 ⟨g, 18, none⟩).run Tryd.prog ({ w8 with drawn := w8.drawn + 1 } : World) = .ok (opV ⟨1, 0, 0, 0, 0, 5⟩) ({ w8 with drawn := w8.drawn + 1 } : World) := run_load42 (H3.grow (below_dr w8))
  replace zb : ({ w8 with drawn := w8.drawn + 1 } : World).cell? ⟨t1, 3, none⟩ = some (.slice (some ⟨g, 0, none⟩) 6 cap) := zb
  replace c26 : ({ w8 with drawn := w8.drawn + 1 } : World).cell? ⟨g, 26, none⟩ = some (vI 3) := c26
  replace c5 : ({ w8 with drawn := w8.drawn + 1 } : World).cell? ⟨g, 30, none⟩ = some (vI 16) := c5
  replace B3 := below_dr' B3
  clear c0 c1 c2 c3 c4 H3
  generalize ({ w8 with drawn := w8.drawn + 1 } : World) = w9 at *
  simp only [List.take_succ_cons, List.take_zero, List.drop_succ_cons, List.drop_zero]
  repeat (first | still_step | ((with_reducible refine still_row rfl _ _ rfl rfl A3 ?_); simp only [Act.put, List.setIfInBounds_toArray, List.set_cons_succ, List.set_cons_zero]) | ((with_reducible refine still_built rfl _ _ rfl (opA ⟨1, 0, 0, 0, 0, 5⟩) (by kernel_rfl) ?_); simp only [Act.put, List.setIfInBounds_toArray, List.set_cons_succ, List.set_cons_zero]) | ((with_reducible refine still_eqlO rfl _ _ rfl ⟨1, 0, 0, 0, 0, 5⟩ ⟨1, 0, 0, 0, 0, 5⟩ rfl rfl ?_); simp only [Act.put, List.setIfInBounds_toArray, List.set_cons_succ, List.set_cons_zero]))
  refine wpStill_nil ?_
  try rw [show decide ((⟨1, 0, 0, 0, 0, 5⟩ : Opr) = ⟨1, 0, 0, 0, 0, 5⟩) = true from by decide]
  go_wp2
  rw [rounds_succ]; go_wp2
  rw [rounds_succ]; go_wp2
  go_ret
  exact ⟨rfl, B3⟩
end Go.Proofs.YtilhjbhhgpoajaaDoor
