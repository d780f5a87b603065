/- Block. -/
import Derived.Test.YtejlmggfeejgpaaDoorLh
import Derived.Test.YtejlmggfeejgpaaDoorTail
namespace Go.Proofs.YtejlmggfeejgpaaDoor
open Go.RowKit
set_option linter.unusedVariables false
set_option linter.unusedSimpArgs false
set_option maxRecDepth 8000

theorem upon_of_call {P : Program} {w : World} {F : Value → World → Prop} {r : Result Next} {f : FuncId} {args : Array Value} {R : Ending → World → Prop} (hc : Calls P f args w R) (hR : ∀ e w', R e w' → ∃ v, e = .returned v ∧ F v w')
    (h : ∀ F : Value → World → Prop, Calls P f args w (fun e w'' => ∃ v, e = .returned v ∧ F v w'') → Chn.upon P F w r) : Chn.upon P F w r := h F (hc.mono hR)
theorem back_block {tmps : Array Value} {w : World} {rb : Nat} {pc words el : Int} {v : Value} (hp : tmps.getD 2 undef = ptr rb 0) (hg : w.heap[rb]? = some (.cells (blA pc words el v) 25)) : (results Tryd.f5 tmps).run Tryd.prog w = .ok (.tuple #[blV pc words el v, tmps.getD 3 undef]) w := by
  rw [results_cell_tmp rfl]
  simp [hp, asAddr, run_loadVar_row w rb 25 25 (blA pc words el v) (0, 0) _ hg Tryd.underlying25 rfl (bl_inf _ _ _ _)]
/-- While a block is laid down. -/
def BkC (w : World) (b1 b2 : Nat) (pc words el : Int) (v : Value) (l : List Opr) (x : World) : Prop := x.heap[b1]? = some (.cells (blA pc words el v) 25) ∧ x.heap[b2]? = some (.cells (blA 0 0 0 (.slice none 0 0)) 25) ∧ Ops x v l ∧ Below w.heap.size w x
theorem bkC_up {w : World} {b1 b2 : Nat} {pc words el : Int} {v : Value} {l : List Opr} : Rel.Up Rel.Grows (BkC w b1 b2 pc words el v l) := fun x y h hb => ⟨keepRow h.1 hb, keepRow h.2.1 hb, h.2.2.1.grow hb, below_then h.2.2.2 (Nat.le_refl _) hb⟩
def OwD (w : World) (l : List Opr) (u : Value) (x : World) : Prop := x.ownsRow w.heap.size 33 6 u (deadL l).length (opF (deadL l))
theorem owD_up {w : World} {l : List Opr} : Rel.upK Rel.Grows (.inr (OwD w l)) := fun u x y h hb => own_grow6 h hb
section
variable {w : World} {pc words el : Int} {v : Value} {l : List Opr}
set_option maxHeartbeats 8000000 in
theorem block_c (hpc : 0 ≤ pc) (O : Ops w v l) (hu : ∀ k, U64 (opAt l k).imm) (hcap : ∀ ao n cap, v = .slice ao n cap → n ≤ cap) : Calls Tryd.prog 5 #[blV pc words el v] w fun e w' => Below w.heap.size w w' ∧
    ((rightB pc words el l = false ∧ e = .returned (.tuple #[blV 0 0 0 (.slice none 0 0), vI 4])) ∨
     (rightB pc words el l = true ∧ ∃ u, e = .returned (.tuple #[blV pc words el u, vI 0]) ∧ w'.ownsRow w.heap.size 33 6 u (deadL l).length (opF (deadL l)))) := by
  have hb1 := below_alloc w (.cells (blA pc words el v) 25)
  have hb2 := below_alloc (w.alloc (.cells (blA pc words el v) 25)) (.cells #[vU 0, vI 0, vI 0, .slice none 0 0] 25)
  have hB := below_then hb1 (Nat.le_refl _) hb2
  have r1 : ((w.alloc (.cells (blA pc words el v) 25)).alloc (.cells #[vU 0, vI 0, vI 0, .slice none 0 0] 25)).heap[w.heap.size]? = some (.cells (blA pc words el v) 25) := keepRow (heap_alloc_new _ _) hb2
  have r2 : ((w.alloc (.cells (blA pc words el v) 25)).alloc (.cells #[vU 0, vI 0, vI 0, .slice none 0 0] 25)).heap[w.heap.size + 1]? = some (.cells (blA 0 0 0 (.slice none 0 0)) 25) := by
    have := heap_alloc_new (w.alloc (.cells (blA pc words el v) 25)) (.cells #[vU 0, vI 0, vI 0, .slice none 0 0] 25)
    rw [World.size_alloc] at this
    exact this
  have O1 := O.grow hB
  have kr := right_c (words := words) (el := el) hpc O1 (fun k => (hu k).1) hcap
  clear hb1 hb2
  go_enter Tryd.func5, Tryd.ntmps5
  go_upto_region 1 with fail
  generalize (w.alloc (.cells (blA pc words el v) 25)).alloc (.cells #[vU 0, vI 0, vI 0, .slice none 0 0] 25) = w1 at *
  obtain ⟨b1, hw1⟩ : ∃ b1, b1 = w.heap.size := ⟨_, rfl⟩
  obtain ⟨b2, hw2⟩ : ∃ b2, b2 = w.heap.size + 1 := ⟨_, rfl⟩
  rw [← hw2] at r2 ⊢
  rw [← hw1] at r1 ⊢
  have hn12 : b1 ≠ b2 := by omega
  have hlo2 : w.heap.size ≤ b2 := by omega
  clear hw1 hw2
  cases hR : rightB pc words el l with
  | false =>
    rw [hR] at kr
    go_wp2_with (first | ((with_reducible refine wpList_load_if rfl 25 _ rfl _ rfl 25 _ (0, 0) _ r1 Tryd.underlying25 rfl (bl_inf _ _ _ _) ?_); simp only [Act.put, List.setIfInBounds_toArray, List.set_cons_succ, List.set_cons_zero]) | (go_at_call 6; (with_reducible refine kr.mono ?_); clear kr; rintro e w2 ⟨rfl, B⟩; dsimp only; replace r2 := keepRow r2 B; replace hB := below_then hB (Nat.le_refl _) B) | ((with_reducible refine wpList_built rfl 25 _ rfl (blA 0 0 0 (.slice none 0 0)) (by kernel_rfl) ?_); simp only [Act.put, List.setIfInBounds_toArray, List.set_cons_succ, List.set_cons_zero]) | ((with_reducible refine wpList_store_row rfl 25 _ _ rfl b2 (blA 0 0 0 (.slice none 0 0)) rfl rfl 25 _ r2 (bl_inf _ _ _ _) rfl (blk_one _ _ _ _ rfl) ?_); simp only [Act.put, List.setIfInBounds_toArray, List.set_cons_succ, List.set_cons_zero]))
    refine bodyPost_ret (back_block rfl (setRow_heap _ _ _ _ _ _ r2)) rfl ?_
    exact ⟨below_setRow hB hlo2, .inl ⟨by first | rfl | exact hR, rfl⟩⟩
  | true =>
    rw [hR] at kr
    obtain ⟨h0, h512, -⟩ := right_lens hR
    go_upto_region 3 with (first | ((with_reducible refine wpList_load_if rfl 25 _ rfl _ rfl 25 _ (0, 0) _ r1 Tryd.underlying25 rfl (bl_inf _ _ _ _) ?_); simp only [Act.put, List.setIfInBounds_toArray, List.set_cons_succ, List.set_cons_zero]) | (go_at_call 6; (with_reducible refine kr.mono ?_); clear kr; rintro e w2 ⟨rfl, B⟩; dsimp only))
    have hst : BkC w b1 b2 pc words el v l { w2 with drawn := w2.drawn + 1 } := ⟨keepRow (keepRow r1 B) (below_dr w2), keepRow (keepRow r2 B) (below_dr w2), (O1.grow B).grow (below_dr w2), below_then (below_then hB (Nat.le_refl _) B) (Nat.le_refl _) (below_dr w2)⟩
    clear r1 r2 O1 hB B O
    refine Rel.wp_region_tail 9 Rel.Grows (BkC w b1 b2 pc words el v l) [.inl (ptr b1 0), .inl (vU pc), .inl (ptr b1 1), .inl (vI words), .inl (ptr b1 2), .inl (vI el), .inl (ptr b1 3), .inl v, .inr (OwD w l)] (by kernel_rfl) (by kernel_rfl) bkC_up hst (by intro k hk; simp only [List.mem_cons, List.not_mem_nil, or_false] at hk; rcases hk with rfl | rfl | rfl | rfl | rfl | rfl | rfl | rfl | rfl <;> first | trivial | exact owD_up) ?_
    clear hst
    refine ⟨fun w6 hC hF => by go_simp; exact Below.refl _ _, ?_⟩
    simp only [Act.put, List.setIfInBounds_toArray, List.set_cons_succ, List.set_cons_zero]
    refine ⟨fun w6 hC hF => by have zz : w6.cell? ⟨b1, 0, none⟩ = some (vU pc) := (by rw [cell_of_row _ _ _ _ _ _ hC.1]; rfl); go_simp; exact Below.refl _ _, ?_⟩
    simp only [Act.put, List.setIfInBounds_toArray, List.set_cons_succ, List.set_cons_zero]
    refine ⟨fun w6 hC hF => by go_simp; exact Below.refl _ _, ?_⟩
    simp only [Act.put, List.setIfInBounds_toArray, List.set_cons_succ, List.set_cons_zero]
    refine ⟨fun w6 hC hF => by have zz : w6.cell? ⟨b1, 1, none⟩ = some (vI words) := (by rw [cell_of_row _ _ _ _ _ _ hC.1]; rfl); go_simp; exact Below.refl _ _, ?_⟩
    simp only [Act.put, List.setIfInBounds_toArray, List.set_cons_succ, List.set_cons_zero]
    refine ⟨fun w6 hC hF => by go_simp; exact Below.refl _ _, ?_⟩
    simp only [Act.put, List.setIfInBounds_toArray, List.set_cons_succ, List.set_cons_zero]
    refine ⟨fun w6 hC hF => by have zz : w6.cell? ⟨b1, 2, none⟩ = some (vI el) := (by rw [cell_of_row _ _ _ _ _ _ hC.1]; rfl); go_simp; exact Below.refl _ _, ?_⟩
    simp only [Act.put, List.setIfInBounds_toArray, List.set_cons_succ, List.set_cons_zero]
    refine ⟨fun w6 hC hF => by go_simp; exact Below.refl _ _, ?_⟩
    simp only [Act.put, List.setIfInBounds_toArray, List.set_cons_succ, List.set_cons_zero]
    refine ⟨fun w6 hC hF => by have zz : w6.cell? ⟨b1, 3, none⟩ = some v := (by rw [cell_of_row _ _ _ _ _ _ hC.1]; rfl); go_simp; exact Below.refl _ _, ?_⟩
    simp only [Act.put, List.setIfInBounds_toArray, List.set_cons_succ, List.set_cons_zero]
    refine ⟨fun w6 hC hF => by (go_simp; refine (until_c hR hu hC.2.2.1).mono ?_; rintro e w7 ⟨u, rfl, hown, B7⟩; first | exact ⟨u, rfl, B7, own_mono hown hC.2.2.2.size⟩ | exact ⟨u, rfl, own_mono hown hC.2.2.2.size, B7⟩), fun u => ?_⟩
    simp only [Act.put, List.setIfInBounds_toArray, List.set_cons_succ, List.set_cons_zero]
    intro w3 hC hF
    have hown : OwD w l u w3 := (hF 8).1 rfl
    obtain ⟨r1, r2, O3, hB⟩ := hC
    simp only [List.drop_succ_cons, List.drop_zero]
    obtain ⟨uo, uc, eu, -, -⟩ := own_len hown
    subst eu
    have hone : (Value.slice uo (deadL l).length uc).oneCell' = true := (opsC_of hown (by have := (dead_right hR hu).2.2.1; simp only [maxLen]; omega)).one
    clear hF
    (with_reducible refine wpList_built rfl 25 _ rfl (blA pc words el (.slice uo (deadL l).length uc)) (by kernel_rfl) ?_)
    simp only [Act.put, List.setIfInBounds_toArray, List.set_cons_succ, List.set_cons_zero]
    (with_reducible refine wpList_store_row rfl 25 _ _ rfl b2 (blA pc words el (.slice uo (deadL l).length uc)) rfl rfl 25 _ r2 (bl_inf _ _ _ _) rfl (blk_one _ _ _ _ hone) ?_)
    simp only [Act.put, List.setIfInBounds_toArray, List.set_cons_succ, List.set_cons_zero]
    have z2 := setRow_heap w3 b2 _ (blA pc words el (.slice uo (deadL l).length uc)) _ _ r2
    have hown2 : (w3.setRow b2 (blA pc words el (.slice uo (deadL l).length uc))).ownsRow w.heap.size 33 6 (.slice uo (deadL l).length uc) (deadL l).length (opF (deadL l)) := own_of_block hown (fun k hk => setRow_other _ _ _ _ (fun e => own_ne r2 hown (by decide) (by rw [hk, e])))
    have hB2 := below_setRow (cs := blA pc words el (.slice uo (deadL l).length uc)) hB hlo2
    generalize w3.setRow b2 (blA pc words el (.slice uo (deadL l).length uc)) = w4 at *
    clear r1 r2 O3 hB hown
    go_wp2
    refine bodyPost_ret (back_block rfl z2) rfl ?_
    exact ⟨hB2, .inr ⟨by first | rfl | exact hR, _, rfl, hown2⟩⟩
end
end Go.Proofs.YtejlmggfeejgpaaDoor
