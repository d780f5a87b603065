/- Block. -/
import Derived.Test.YtilhjbhhgpoajaaDoorUn
import Derived.Test.YtilhjbhhgpoajaaDoorVb
namespace Go.Proofs.YtilhjbhhgpoajaaDoor
open Go.RowKit
set_option linter.unusedVariables false
set_option linter.unusedSimpArgs false
set_option maxRecDepth 8000

theorem back_block {tmps : Array Value} {w : World} {rb : Nat} {pc words el : Int} {v : Value} (hp : tmps.getD 2 undef = ptr rb 0) (hg : w.heap[rb]? = some (.cells (blA pc words el v) 25)) : (results Tryd.f5 tmps).run Tryd.prog w = .ok (.tuple #[blV pc words el v, tmps.getD 3 undef]) w := by
  rw [results_cell_tmp rfl]
  simp [hp, asAddr, run_loadVar_row w rb 25 25 (blA pc words el v) (0, 0) _ hg Tryd.underlying25 rfl (bl_inf _ _ _ _)]
section
variable {w : World} {pc words el : Int} {v : Value} {l : List Opr}
set_option maxHeartbeats 4000000 in
theorem block_c_all (hpc : 0 ≤ pc) (O : Ops w v l) (hu : ∀ k, U64 (opAt l k).imm) (hcap : ∀ ao n cap, v = .slice ao n cap → n ≤ cap) : Calls Tryd.prog 5 #[blV pc words el v] w fun e w' => Below w.heap.size w w' ∧
    ((rightB pc words el l = false ∧ e = .returned (.tuple #[blV 0 0 0 (.slice none 0 0), vI 4])) ∨
     (rightB pc words el l = true ∧ ∃ u, e = .returned (.tuple #[blV pc words el u, vI 0]) ∧ w'.ownsRow w.heap.size 37 6 u (layAll l).length (opF (layAll l)))) := by
  have hb1 := below_alloc w (.cells (blA pc words el v) 25)
  have hb2 := below_alloc (w.alloc (.cells (blA pc words el v) 25)) (.cells #[vU 0, vI 0, vI 0, .slice none 0 0] 25)
  have hB := below_then hb1 (Nat.le_refl _) hb2
  have r1 : ((w.alloc (.cells (blA pc words el v) 25)).alloc (.cells #[vU 0, vI 0, vI 0, .slice none 0 0] 25)).heap[w.heap.size]? = some (.cells (blA pc words el v) 25) := keepRow (heap_alloc_new _ _) hb2
  have r2 : ((w.alloc (.cells (blA pc words el v) 25)).alloc (.cells #[vU 0, vI 0, vI 0, .slice none 0 0] 25)).heap[w.heap.size + 1]? = some (.cells #[vU 0, vI 0, vI 0, .slice none 0 0] 25) := by
    have := heap_alloc_new (w.alloc (.cells (blA pc words el v) 25)) (.cells #[vU 0, vI 0, vI 0, .slice none 0 0] 25)
    rw [World.size_alloc] at this
    exact this
  have O1 := O.grow hB
  have ks := step_c_all (words := words) (el := el) hpc O1 hu hcap
  obtain ⟨ao, cap, rfl⟩ := O.len
  clear hb1 hb2
  go_enter Tryd.func5, Tryd.ntmps5
  go_upto_region 1 with fail
  generalize (w.alloc (.cells (blA pc words el (.slice ao l.length cap)) 25)).alloc (.cells #[vU 0, vI 0, vI 0, .slice none 0 0] 25) = w1 at *
  generalize ht : w.heap.size = t at r1 r2
  have hlt1 : t + 1 < w1.heap.size := lt_of_some r2
  replace ht := show Hid _ from ht
  cases hR : rightB pc words el l with
  | false =>
    replace hR := show Hid _ from hR
    go_upto_region 2 with (first | ((with_reducible refine wpList_load_if rfl 25 _ rfl _ rfl 25 _ (0, 0) _ r1 Tryd.underlying25 rfl (bl_inf _ _ _ _) ?_); simp only [Act.put, List.setIfInBounds_toArray, List.set_cons_succ, List.set_cons_zero]) | (go_at_call 7; (with_reducible refine ks.mono ?_); clear ks; rintro e w2 ⟨B2, ⟨hr, rfl⟩ | ⟨hr, _⟩⟩; rotate_left; (exfalso; rw [hR.out] at hr; cases hr); dsimp only; have Hn := has_none w2) | ((with_reducible refine wpList_store_new Hn rfl 25 _ _ rfl (blA 0 0 0 (.slice none 0 0)) rfl rfl (bl_inf _ _ _ _) (by kernel_rfl) (blk_one _ _ _ _ rfl) ?_); clear Hn; intro w3 Hn; simp only [Act.put, List.setIfInBounds_toArray, List.set_cons_succ, List.set_cons_zero]))
    have zb : w3.heap[w2.heap.size]? = some (.cells (blA 0 0 0 (.slice none 0 0)) 25) := Hn.get List.mem_cons_self
    replace r1 := keepRow (keepRow r1 B2) Hn.below
    replace r2 := keepRow (keepRow r2 B2) Hn.below
    replace hB := below_then (below_then hB (Nat.le_refl _) B2) (Nat.le_refl _) Hn.below
    clear Hn B2 O1 O hr
    generalize w2.heap.size = t4 at *
    have z3 : w3.cell? ⟨t, 3, none⟩ = some (.slice ao l.length cap) := by rw [cell_of_row _ _ _ _ _ _ r1]; rfl
    go_wp2
    refine wp_loop_rounds 2 ?_
    rw [rounds_succ]
    rcases Decidable.em ((0 : Int) < l.length) with h | h
    all_goals
      go_wp2_with (first | ((with_reducible refine wpList_load_if rfl 25 _ rfl _ rfl 25 _ (0, 0) _ zb Tryd.underlying25 rfl (bl_inf _ _ _ _) ?_); simp only [Act.put, List.setIfInBounds_toArray, List.set_cons_succ, List.set_cons_zero]) | ((with_reducible refine wpList_store_row rfl 25 _ _ rfl (t + 1) (blA 0 0 0 (.slice none 0 0)) rfl rfl 25 _ r2 (bl_inf _ _ _ _) rfl (blk_one _ _ _ _ rfl) ?_); simp only [Act.put, List.setIfInBounds_toArray, List.set_cons_succ, List.set_cons_zero]))
      refine bodyPost_ret (back_block rfl (setRow_heap _ _ _ _ _ _ r2)) rfl ?_
      exact ⟨below_setRow hB (by have := ht.out; omega), .inl ⟨hR.out, rfl⟩⟩
  | true =>
    obtain ⟨rm, hlm, hum⟩ := right_layAll hR hu
    obtain ⟨h0, h512, -⟩ := right_first hR
    obtain ⟨hm0, hm512, -⟩ := right_first rm
    have hidem := layAll_idem hR hu
    replace hR := show Hid _ from hR
    go_upto_region 2 with (first | ((with_reducible refine wpList_load_if rfl 25 _ rfl _ rfl 25 _ (0, 0) _ r1 Tryd.underlying25 rfl (bl_inf _ _ _ _) ?_); simp only [Act.put, List.setIfInBounds_toArray, List.set_cons_succ, List.set_cons_zero]) | (go_at_call 7; (with_reducible refine ks.mono ?_); clear ks; rintro e w2 ⟨B2, ⟨hr, _⟩ | ⟨hr, u, rfl, hown⟩⟩; (exfalso; rw [hR.out] at hr; cases hr); dsimp only; have Hn := has_none w2; have hone : u.oneCell' = true := (opsC_of hown (by simp only [maxLen]; omega)).one) | ((with_reducible refine wpList_store_new Hn rfl 25 _ _ rfl (blA pc words el u) rfl rfl (bl_inf _ _ _ _) (by kernel_rfl) (blk_one _ _ _ _ hone) ?_); clear Hn; intro w3 Hn; simp only [Act.put, List.setIfInBounds_toArray, List.set_cons_succ, List.set_cons_zero]))
    have zb : w3.heap[w2.heap.size]? = some (.cells (blA pc words el u) 25) := Hn.get List.mem_cons_self
    replace r1 := keepRow (keepRow r1 B2) Hn.below
    replace r2 := keepRow (keepRow r2 B2) Hn.below
    have hown3 : w3.ownsRow w1.heap.size 37 6 u (layAll l).length (opF (layAll l)) := own_of_block hown (fun k hk => Hn.below.block k (hown.lt k hk).2)
    have hlow : w.heap.size ≤ w1.heap.size := hB.size
    replace hB := below_then (below_then hB (Nat.le_refl _) B2) (Nat.le_refl _) Hn.below
    have hne2 : w2.heap.size ≠ t + 1 := fun e => by have := B2.size; omega
    have ht4lo : w.heap.size ≤ w2.heap.size := Nat.le_trans hlow B2.size
    clear Hn B2 O1 O hown hr
    generalize w2.heap.size = t4 at *
    have z3 : w3.cell? ⟨t, 3, none⟩ = some (.slice ao l.length cap) := by rw [cell_of_row _ _ _ _ _ _ r1]; rfl
    have hl0 : (0 : Int) < l.length := by omega
    cases hch : decide (layAll l = l) with
    | true =>
      go_wp2
      refine wp_loop_rounds 2 ?_
      rw [rounds_succ]
      go_wp2_with (first | ((with_reducible refine wpList_load_if rfl 25 _ rfl _ rfl 25 _ (0, 0) _ zb Tryd.underlying25 rfl (bl_inf _ _ _ _) ?_); simp only [Act.put, List.setIfInBounds_toArray, List.set_cons_succ, List.set_cons_zero]) | ((with_reducible refine wpList_store_row rfl 25 _ _ rfl (t + 1) (blA pc words el u) rfl rfl 25 _ r2 (bl_inf _ _ _ _) rfl (blk_one _ _ _ _ hone) ?_); simp only [Act.put, List.setIfInBounds_toArray, List.set_cons_succ, List.set_cons_zero]))
      refine bodyPost_ret (back_block rfl (setRow_heap _ _ _ _ _ _ r2)) rfl ?_
      have hn : ∀ k, u.ownBlock = some k → k ≠ t + 1 := fun k hk e => own_ne r2 hown3 (by decide) (e ▸ hk)
      exact ⟨below_setRow hB (by have := ht.out; omega), .inr ⟨hR.out, u, rfl, own_mono (own_of_block hown3 (fun k hk => setRow_other _ _ _ _ (hn k hk))) hlow⟩⟩
    | false =>
      have OC := opsC_of hown3 (by simp only [maxLen]; omega)
      have ks := step_c (words := words) (el := el) hpc OC.ops hum OC.cap (fun ra n c e => (hown3.lt ra.block (by rw [e]; rfl)).2)
      rw [hidem, show (!(decide (layAll l = layAll l))) = false by simp] at ks
      go_wp2
      refine wp_loop_rounds 2 ?_
      rw [rounds_succ]
      go_upto_region 6 with (first | ((with_reducible refine wpList_load_if rfl 25 _ rfl _ rfl 25 _ (0, 0) _ zb Tryd.underlying25 rfl (bl_inf _ _ _ _) ?_); simp only [Act.put, List.setIfInBounds_toArray, List.set_cons_succ, List.set_cons_zero]) | (go_at_call 7; (with_reducible refine ks.mono ?_); clear ks; rintro e w5 ⟨B5, ⟨hr, _⟩ | ⟨hr, u2, rfl, hown5⟩⟩; (exfalso; rw [rm] at hr; cases hr); dsimp only; clear hr; have zb5 := keepRow zb B5; have hone5 : u2.oneCell' = true := (opsC_of hown5 (by simp only [maxLen]; omega)).one) | ((with_reducible refine wpList_store_row rfl 25 _ _ rfl t4 (blA pc words el u2) rfl rfl 25 _ zb5 (bl_inf _ _ _ _) rfl (blk_one _ _ _ _ hone5) ?_); simp only [Act.put, List.setIfInBounds_toArray, List.set_cons_succ, List.set_cons_zero]))
      have hn4 : ∀ k, u2.ownBlock = some k → k ≠ t4 := fun k hk e => own_ne zb5 hown5 (by decide) (e ▸ hk)
      have hlow5 : w.heap.size ≤ w3.heap.size := hB.size
      have ht4 : w.heap.size ≤ t4 := ht4lo
      have hown6 : (w5.setRow t4 (blA pc words el u2)).ownsRow w3.heap.size 37 6 u2 (layAll l).length (opF (layAll l)) := own_of_block hown5 (fun k hk => setRow_other _ _ _ _ (hn4 k hk))
      have z6 : (w5.setRow t4 (blA pc words el u2)).heap[t4]? = some (.cells (blA pc words el u2) 25) := setRow_heap _ _ _ _ _ _ zb5
      have r6 : (w5.setRow t4 (blA pc words el u2)).heap[t + 1]? = some (.cells #[vU 0, vI 0, vI 0, .slice none 0 0] 25) := by rw [setRow_other _ _ _ _ (Ne.symm hne2)]; exact keepRow r2 B5
      have hB6 : Below w.heap.size w (w5.setRow t4 (blA pc words el u2)) := below_setRow (below_then hB (Nat.le_refl _) B5) ht4
      clear zb5 B5 hown5 hn4 zb r1 r2 z3 hown3 hone hB OC
      generalize w5.setRow t4 (blA pc words el u2) = w6 at *
      go_wp2
      rw [rounds_succ]
      rcases Decidable.em ((1 : Int) < l.length) with h | h
      all_goals
        go_wp2_with (first | ((with_reducible refine wpList_load_if rfl 25 _ rfl _ rfl 25 _ (0, 0) _ z6 Tryd.underlying25 rfl (bl_inf _ _ _ _) ?_); simp only [Act.put, List.setIfInBounds_toArray, List.set_cons_succ, List.set_cons_zero]) | ((with_reducible refine wpList_store_row rfl 25 _ _ rfl (t + 1) (blA pc words el u2) rfl rfl 25 _ r6 (bl_inf _ _ _ _) rfl (blk_one _ _ _ _ hone5) ?_); simp only [Act.put, List.setIfInBounds_toArray, List.set_cons_succ, List.set_cons_zero]))
        refine bodyPost_ret (back_block rfl (setRow_heap _ _ _ _ _ _ r6)) rfl ?_
        have hn : ∀ k, u2.ownBlock = some k → k ≠ t + 1 := fun k hk e => own_ne r6 hown6 (by decide) (e ▸ hk)
        exact ⟨below_setRow hB6 (by have := ht.out; omega), .inr ⟨hR.out, u2, rfl, own_mono (own_of_block hown6 (fun k hk => setRow_other _ _ _ _ (hn k hk))) hlow5⟩⟩
theorem block_c (hpc : 0 ≤ pc) (O : Ops w v l) (hu : ∀ k, U64 (opAt l k).imm) (hcap : ∀ ao n cap, v = .slice ao n cap → n ≤ cap) (hfar : ∀ ra n cap, v = .slice (some ra) n cap → ra.block < w.heap.size) : Calls Tryd.prog 5 #[blV pc words el v] w fun e w' => Below w.heap.size w w' ∧
    ((rightB pc words el l = false ∧ e = .returned (.tuple #[blV 0 0 0 (.slice none 0 0), vI 4])) ∨
     (rightB pc words el l = true ∧ ∃ u, e = .returned (.tuple #[blV pc words el u, vI 0]) ∧ w'.ownsRow w.heap.size 37 6 u (layAll l).length (opF (layAll l)))) := block_c_all hpc O hu hcap
end
end Go.Proofs.YtilhjbhhgpoajaaDoor
