/- Step. -/
import Derived.Test.YtilhjbhhgpoajaaDoorUm
namespace Go.Proofs.YtilhjbhhgpoajaaDoor
open Go.RowKit
set_option linter.unusedVariables false
set_option linter.unusedSimpArgs false
set_option maxRecDepth 8000

theorem Ops.keepF {w w' : World} {v : Value} {l : List Opr} (h : Ops w v l) (hs : ∀ k, k < w.heap.size → k < w'.heap.size) (hb : ∀ ra n cap, v = .slice (some ra) n cap → ra.block < w.heap.size → w'.heap[ra.block]? = w.heap[ra.block]?) : Ops w' v l :=
  ⟨h.len, h.max, fun h0 => by
    obtain ⟨ra, cap, e, hc⟩ := h.cell h0
    refine ⟨ra, cap, e, fun i o ho => ?_⟩
    have A := hc i o ho
    have eb : (ra.add (i * 6)).block = ra.block := by unfold Addr.add; split <;> rfl
    have lt := A.lt
    exact A.keep (hs _ lt) (by rw [eb] at lt ⊢; exact hb ra _ cap e lt)⟩
theorem results_cell_tmp2 {fn : Func} {p u z : Tmp} {ty : TypeId} (h : fn.results = #[.cell p ty, .tmp u, .tmp z]) (tmps : Array Value) (P : Program) (w : World) :
    (results fn tmps).run P w =
      ((asAddr (tmps.getD p undef)).run P w).andThen fun a w₁ => ((loadVar ty a).run P w₁).andThen fun v w₂ => .ok (.tuple #[v, tmps.getD u undef, tmps.getD z undef]) w₂ := by
  simp only [results, h]
  simp [Sem.run_bind, Result.andThen]
theorem back_step {tmps : Array Value} {w : World} {rb : Nat} {pc words el : Int} {v : Value} (hp : tmps.getD 2 undef = ptr rb 0) (hg : w.heap[rb]? = some (.cells (blA pc words el v) 25)) : (results Tryd.f7 tmps).run Tryd.prog w = .ok (.tuple #[blV pc words el v, tmps.getD 3 undef, tmps.getD 4 undef]) w := by
  rw [results_cell_tmp2 rfl]
  simp [hp, asAddr, run_loadVar_row w rb 25 25 (blA pc words el v) (0, 0) _ hg Tryd.underlying25 rfl (bl_inf _ _ _ _)]
/-- What Step holds in its last row. -/
structure StB (w : World) (pc words el : Int) (v : Value) (l : List Opr) (u : Value) (m : List Opr) (t : Nat) (x : World) : Prop where
  below : Below w.heap.size w x
  lo : w.heap.size ≤ t
  row : x.heap[t]? = some (.cells (blA pc words el v) 25)
  ops : Ops x v l
  own : x.ownsRow w.heap.size 37 6 u m.length (opF m)
  max : m.length ≤ maxLen
  far : ∀ ra n cap, v = .slice (some ra) n cap → ra.block < w.heap.size
theorem StB.grow {w : World} {pc words el : Int} {v : Value} {l : List Opr} {u : Value} {m : List Opr} {t : Nat} {x y : World} (h : StB w pc words el v l u m t x) (hb : Below x.heap.size x y) : StB w pc words el v l u m t y :=
  ⟨below_then h.below (Nat.le_refl _) hb, h.lo, keepRow h.row hb, h.ops.grow hb, own_of_block h.own (fun k hk => hb.block k (h.own.lt k hk).2), h.max, h.far⟩
theorem StB.new {w : World} {pc words el : Int} {v : Value} {l : List Opr} {u : Value} {m : List Opr} {t : Nat} {x : World} (h : StB w pc words el v l u m t x) : Ops x u m := (opsC_of h.own h.max).ops
theorem StB.one {w : World} {pc words el : Int} {v : Value} {l : List Opr} {u : Value} {m : List Opr} {t : Nat} {x : World} (h : StB w pc words el v l u m t x) : u.oneCell' = true := (opsC_of h.own h.max).one
def StC (w : World) (pc words el : Int) (v : Value) (l : List Opr) (u : Value) (m : List Opr) (t : Nat) : Nat → World → Prop
  | 0, x => StB w pc words el v l u m t x ∧ x.heap[t + 1]? = some (.cells #[vU 0, vI 0, vI 0, .slice none 0 0] 25)
  | 1, x => StB w pc words el v l u m t x ∧ x.heap[t + 1]? = some (.cells #[vU 0, vI 0, vI 0, .slice none 0 0] 25)
  | _, x => StB w pc words el v l u m t x ∧ x.heap[t + 1]? = some (.cells (blA pc words el u) 25)
section
variable {w x y : World} {pc words el : Int} {v u : Value} {l m : List Opr} {t : Nat}
theorem stC_base {j : Nat} (h : StC w pc words el v l u m t j x) : StB w pc words el v l u m t x := match j, h with
  | 0, h => h.1
  | 1, h => h.1
  | _ + 2, h => h.1
theorem stC_grow (h : StC w pc words el v l u m t 0 x) (hb : Below x.heap.size x y) : StC w pc words el v l u m t 1 y := ⟨h.1.grow hb, keepRow h.2 hb⟩
theorem stC_end (h : StC w pc words el v l u m t 1 x) : StC w pc words el v l u m t 2 (x.setRow (t + 1) (blA pc words el u)) := by
  obtain ⟨h1, h2⟩ := h
  have hn : ∀ k, u.ownBlock = some k → k ≠ t + 1 := fun k hk e => own_ne h2 h1.own (by decide) (e ▸ hk)
  have hb : Below w.heap.size w (x.setRow (t + 1) (blA pc words el u)) := below_setRow h1.below (by have := h1.lo; omega)
  refine ⟨⟨hb, h1.lo, ?_, h1.ops.keepF (fun k hk => by simpa using hk) (fun ra n cap e hk => setRow_other _ _ _ _ (by have := h1.far ra n cap e; have := h1.lo; omega)), own_of_block h1.own (fun k hk => setRow_other _ _ _ _ (hn k hk)), h1.max, h1.far⟩, setRow_heap _ _ _ _ _ _ h2⟩
  rw [setRow_other _ _ _ _ (by omega)]; exact h1.row
theorem upon_builtB {j : Nat} {ao : Option Addr} {n cap : Nat} {o : Oper} {a : Act} (hC : StC w pc words el v l (.slice ao n cap) m t j x) {p q r s : Operand} (ho : o.op = .build 25 #[(0, p), (1, q), (2, r), (3, s)] := by rfl) (hp : a.eval p = vU pc := by rfl) (hq : a.eval q = vI words := by rfl) (hr : a.eval r = vI el := by rfl) (hs : a.eval s = .slice ao n cap := by rfl) : Chn.upon Tryd.prog (fun z w' => z = blV pc words el (.slice ao n cap) ∧ StC w pc words el v l (.slice ao n cap) m t j w') x ((execOp a.eval o).run Tryd.prog x) := by
  have hb := run_build (P := Tryd.prog) x 25 #[(0, vU pc), (1, vI words), (2, vI el), (3, .slice ao n cap)] (blA pc words el (.slice ao n cap)) (by kernel_rfl)
  unfold execOp
  simp only [ho, Sem.run_bind, List.map_toArray, List.map_cons, List.map_nil, hp, hq, hr, hs, hb, Result.andThen_ok]
  exact ⟨rfl, hC⟩
theorem ops_lt {w : World} {u : Value} {m : List Opr} (h : Ops w u m) (h0 : 0 < m.length) : ∀ ra n cap, u = .slice (some ra) n cap → ra.block < w.heap.size := by
  intro ra n cap e
  obtain ⟨ra', cap', e', hc⟩ := h.cell h0
  rw [e] at e'
  cases e'
  have := (hc 0 _ (opAt_some h0)).lt
  have eb : (ra.add (0 * 6)).block = ra.block := by unfold Addr.add; split <;> rfl
  rwa [eb] at this
set_option maxHeartbeats 4000000 in
theorem step_c_all (hpc : 0 ≤ pc) (O : Ops w v l) (hu : ∀ k, U64 (opAt l k).imm) (hcap : ∀ ao n cap, v = .slice ao n cap → n ≤ cap) : Calls Tryd.prog 7 #[blV pc words el v] w fun e w' => Below w.heap.size w w' ∧
    ((rightB pc words el l = false ∧ e = .returned (.tuple #[blV 0 0 0 (.slice none 0 0), .bool false, vI 4])) ∨
     (rightB pc words el l = true ∧ ∃ u, e = .returned (.tuple #[blV pc words el u, .bool (!(decide (layAll l = l))), vI 0]) ∧ w'.ownsRow w.heap.size 37 6 u (layAll l).length (opF (layAll l)))) := by
  have hb1 := below_alloc w (.cells (blA pc words el v) 25)
  have hb2 := below_alloc (w.alloc (.cells (blA pc words el v) 25)) (.cells #[vU 0, vI 0, vI 0, .slice none 0 0] 25)
  have hB := below_then hb1 (Nat.le_refl _) hb2
  have r1 : ((w.alloc (.cells (blA pc words el v) 25)).alloc (.cells #[vU 0, vI 0, vI 0, .slice none 0 0] 25)).heap[w.heap.size]? = some (.cells (blA pc words el v) 25) := keepRow (heap_alloc_new _ _) hb2
  have r2 : ((w.alloc (.cells (blA pc words el v) 25)).alloc (.cells #[vU 0, vI 0, vI 0, .slice none 0 0] 25)).heap[w.heap.size + 1]? = some (.cells #[vU 0, vI 0, vI 0, .slice none 0 0] 25) := by
    have := heap_alloc_new (w.alloc (.cells (blA pc words el v) 25)) (.cells #[vU 0, vI 0, vI 0, .slice none 0 0] 25)
    rw [World.size_alloc] at this
    exact this
  have O1 := O.grow hB
  have kr := right_c (words := words) (el := el) hpc O1 (fun k => (hu k).1) hcap
  clear hb1 hb2
  go_enter Tryd.func7, Tryd.ntmps7
  go_upto_region 1 with fail
  generalize (w.alloc (.cells (blA pc words el v) 25)).alloc (.cells #[vU 0, vI 0, vI 0, .slice none 0 0] 25) = w1 at *
  generalize ht : w.heap.size = t at r1 r2
  cases hR : rightB pc words el l with
  | false =>
    rw [hR] at kr
    go_wp2_with (first | ((with_reducible refine wpList_load_if rfl 25 _ rfl _ rfl 25 _ (0, 0) _ r1 Tryd.underlying25 rfl (bl_inf _ _ _ _) ?_); simp only [Act.put, List.setIfInBounds_toArray, List.set_cons_succ, List.set_cons_zero]) | (go_at_call 6; (with_reducible refine kr.mono ?_); clear kr; rintro e w2 ⟨rfl, B2⟩; dsimp only; replace r2 := keepRow r2 B2; replace hB := below_then hB (Nat.le_refl _) B2) | ((with_reducible refine wpList_built rfl 25 _ rfl (blA 0 0 0 (.slice none 0 0)) (by kernel_rfl) ?_); simp only [Act.put, List.setIfInBounds_toArray, List.set_cons_succ, List.set_cons_zero]) | ((with_reducible refine wpList_store_row rfl 25 _ _ rfl (t + 1) (blA 0 0 0 (.slice none 0 0)) rfl rfl 25 _ r2 (bl_inf _ _ _ _) rfl (blk_one _ _ _ _ rfl) ?_); simp only [Act.put, List.setIfInBounds_toArray, List.set_cons_succ, List.set_cons_zero]))
    refine bodyPost_ret (back_step rfl (setRow_heap _ _ _ _ _ _ r2)) rfl ?_
    exact ⟨below_setRow hB (by omega), .inl ⟨hR, rfl⟩⟩
  | true =>
    have hfar := ops_lt O (right_first hR).1
    rw [hR] at kr
    go_upto_region 3 with (first | ((with_reducible refine wpList_load_if rfl 25 _ rfl _ rfl 25 _ (0, 0) _ r1 Tryd.underlying25 rfl (bl_inf _ _ _ _) ?_); simp only [Act.put, List.setIfInBounds_toArray, List.set_cons_succ, List.set_cons_zero]) | (go_at_call 6; (with_reducible refine kr.mono ?_); clear kr; rintro e w2 ⟨rfl, B2⟩; dsimp only))
    replace r1 := keepRow r1 B2
    replace r2 := keepRow r2 B2
    replace O1 := O1.grow B2
    replace hB := below_then hB (Nat.le_refl _) B2
    clear B2
    have z3 : w2.cell? ⟨t, 3, none⟩ = some v := by rw [cell_of_row _ _ _ _ _ _ r1]; rfl
    have ka := layAnew_c O1 hR hu
    go_upto_region 4 with (go_at_call 14; (with_reducible refine ka.mono ?_); clear ka; rintro e w3 ⟨u, rfl, hown, B3⟩; dsimp only)
    have hml : (layAll l).length ≤ maxLen := by
      obtain ⟨_, _, e, h1, h2⟩ := own_len hown
      omega
    have hBase : StB w pc words el v l u (layAll l) t w3 := ⟨below_then hB (Nat.le_refl _) B3, by omega, keepRow r1 B3, O1.grow B3, own_mono hown hB.size, hml, hfar⟩
    have hZ : w3.heap[t + 1]? = some (.cells #[vU 0, vI 0, vI 0, .slice none 0 0] 25) := keepRow r2 B3
    obtain ⟨ao, cap, rfl⟩ := own_slice hown
    clear r1 r2 O1 hB z3 B3 hown O
    have hst0 : StC w pc words el v l (.slice ao (layAll l).length cap) (layAll l) t 0 ({ w3 with drawn := w3.drawn + 1 } : World) := ⟨hBase.grow (below_dr w3), keepRow hZ (below_dr w3)⟩
    have hst : (StC w pc words el v l (.slice ao (layAll l).length cap) (layAll l) t) 0 _ := hst0
    refine Chn.wp_region_chainL (StC w pc words el v l (.slice ao (layAll l).length cap) (layAll l) t) [11, 13] [2, 2, 2, 2, 2, 2, 2, 2, 2, 2, 2, 2, 2, 2, 2, 2] [ptr t 0, vU pc, ptr t 1, vI words, ptr t 2, vI el, .slice ao (layAll l).length cap, blV pc words el (.slice ao (layAll l).length cap), .slice ao (layAll l).length cap, ptr t 3, v, .bool (decide (layAll l = l)), .bool (!(decide (layAll l = l))), undef, .bool (!(decide (layAll l = l))), vI 0] (by kernel_rfl) (by kernel_rfl) (by kernel_rfl) (by kernel_rfl) (by kernel_rfl) hst ?_
    clear hst
    refine ⟨fun j w1 hj hC => by exact Chn.upon_pure hC (fun F hF => by (go_simp <;> exact hF)), ?_⟩
    simp only [Act.put, List.setIfInBounds_toArray, List.set_cons_succ, List.set_cons_zero]
    refine ⟨fun j w1 hj hC => by
      have z := (show w1.cell? ⟨t, 0, none⟩ = some (vU pc) by rw [cell_of_row _ _ _ _ _ _ (stC_base hC).row]; rfl)
      exact Chn.upon_pure hC (fun F hF => by (go_simp <;> exact hF)), ?_⟩
    simp only [Act.put, List.setIfInBounds_toArray, List.set_cons_succ, List.set_cons_zero]
    refine ⟨fun j w1 hj hC => by exact Chn.upon_pure hC (fun F hF => by (go_simp <;> exact hF)), ?_⟩
    simp only [Act.put, List.setIfInBounds_toArray, List.set_cons_succ, List.set_cons_zero]
    refine ⟨fun j w1 hj hC => by
      have z := (show w1.cell? ⟨t, 1, none⟩ = some (vI words) by rw [cell_of_row _ _ _ _ _ _ (stC_base hC).row]; rfl)
      exact Chn.upon_pure hC (fun F hF => by (go_simp <;> exact hF)), ?_⟩
    simp only [Act.put, List.setIfInBounds_toArray, List.set_cons_succ, List.set_cons_zero]
    refine ⟨fun j w1 hj hC => by exact Chn.upon_pure hC (fun F hF => by (go_simp <;> exact hF)), ?_⟩
    simp only [Act.put, List.setIfInBounds_toArray, List.set_cons_succ, List.set_cons_zero]
    refine ⟨fun j w1 hj hC => by
      have z := (show w1.cell? ⟨t, 2, none⟩ = some (vI el) by rw [cell_of_row _ _ _ _ _ _ (stC_base hC).row]; rfl)
      exact Chn.upon_pure hC (fun F hF => by (go_simp <;> exact hF)), ?_⟩
    simp only [Act.put, List.setIfInBounds_toArray, List.set_cons_succ, List.set_cons_zero]
    refine ⟨fun j w1 hj hC => by exact Chn.upon_pure hC (fun F hF => by (go_simp <;> exact hF)), ?_⟩
    simp only [Act.put, List.setIfInBounds_toArray, List.set_cons_succ, List.set_cons_zero]
    refine ⟨fun j w1 hj hC => by
      exact upon_builtB hC, ?_⟩
    simp only [Act.put, List.setIfInBounds_toArray, List.set_cons_succ, List.set_cons_zero]
    refine ⟨fun j w1 hj hC => by exact Chn.upon_pure hC (fun F hF => by (go_simp <;> exact hF)), ?_⟩
    simp only [Act.put, List.setIfInBounds_toArray, List.set_cons_succ, List.set_cons_zero]
    refine ⟨fun j w1 hj hC => by exact Chn.upon_pure hC (fun F hF => by (go_simp <;> exact hF)), ?_⟩
    simp only [Act.put, List.setIfInBounds_toArray, List.set_cons_succ, List.set_cons_zero]
    refine ⟨fun j w1 hj hC => by
      have z := (show w1.cell? ⟨t, 3, none⟩ = some (v) by rw [cell_of_row _ _ _ _ _ _ (stC_base hC).row]; rfl)
      exact Chn.upon_pure hC (fun F hF => by (go_simp <;> exact hF)), ?_⟩
    simp only [Act.put, List.setIfInBounds_toArray, List.set_cons_succ, List.set_cons_zero]
    refine ⟨fun w1 hC => by
      exact Chn.upon_call (C := (StC w pc words el v l (.slice ao (layAll l).length cap) (layAll l) t) 1) (equal_c (stC_base hC).new (stC_base hC).ops) (fun e2 w2 hh => ⟨hh.1, stC_grow hC hh.2⟩) (fun F hF => by (go_simp <;> exact hF)), ?_⟩
    simp only [Act.put, List.setIfInBounds_toArray, List.set_cons_succ, List.set_cons_zero]
    refine ⟨fun j w1 hj hC => by exact Chn.upon_pure hC (fun F hF => by (go_simp <;> exact hF)), ?_⟩
    simp only [Act.put, List.setIfInBounds_toArray, List.set_cons_succ, List.set_cons_zero]
    refine ⟨fun w1 hC => by
      exact chn_store 25 _ _ rfl (t + 1) 0 rfl _ rfl (run_storeVar_row w1 (t + 1) 25 25 _ (blA pc words el (.slice ao (layAll l).length cap)) hC.2 (bl_inf _ _ _ _) rfl (blk_one _ _ _ _ (stC_base hC).one)) (stC_end hC), ?_⟩
    simp only [Act.put, List.setIfInBounds_toArray, List.set_cons_succ, List.set_cons_zero]
    refine ⟨fun j w1 hj hC => by exact Chn.upon_pure hC (fun F hF => by (go_simp <;> exact hF)), ?_⟩
    simp only [Act.put, List.setIfInBounds_toArray, List.set_cons_succ, List.set_cons_zero]
    refine ⟨fun j w1 hj hC => by exact Chn.upon_pure hC (fun F hF => by (go_simp <;> exact hF)), ?_⟩
    simp only [Act.put, List.setIfInBounds_toArray, List.set_cons_succ, List.set_cons_zero]
    intro w5 hC
    refine Rel.then_normal ?_
    obtain ⟨hb5, hz5⟩ : StC w pc words el v l (.slice ao (layAll l).length cap) (layAll l) t 2 w5 := hC
    go_wp2
    refine bodyPost_ret (back_step rfl hz5) rfl ?_
    exact ⟨hb5.below, .inr ⟨hR, _, rfl, hb5.own⟩⟩
theorem step_c (hpc : 0 ≤ pc) (O : Ops w v l) (hu : ∀ k, U64 (opAt l k).imm) (hcap : ∀ ao n cap, v = .slice ao n cap → n ≤ cap) (hfar : ∀ ra n cap, v = .slice (some ra) n cap → ra.block < w.heap.size) : Calls Tryd.prog 7 #[blV pc words el v] w fun e w' => Below w.heap.size w w' ∧
    ((rightB pc words el l = false ∧ e = .returned (.tuple #[blV 0 0 0 (.slice none 0 0), .bool false, vI 4])) ∨
     (rightB pc words el l = true ∧ ∃ u, e = .returned (.tuple #[blV pc words el u, .bool (!(decide (layAll l = l))), vI 0]) ∧ w'.ownsRow w.heap.size 37 6 u (layAll l).length (opF (layAll l)))) := step_c_all hpc O hu hcap
end
end Go.Proofs.YtilhjbhhgpoajaaDoor
