/- An operation told anew. -/
import Derived.Test.YtilhjbhhgpoajaaDoorUh
namespace Go.Proofs.YtilhjbhhgpoajaaDoor
open Go.RowKit
set_option linter.unusedVariables false
set_option linter.unusedSimpArgs false
set_option maxRecDepth 8000

/-- The places so far, in a row of n. -/
def prow (ps : List Nat) (n : Nat) : Array Value := ((List.range n).map fun i => vI ((ps.getD i 0 : Nat) : Int)).toArray
theorem prow_at {ps : List Nat} {n i : Nat} (h : i < n) : (prow ps n)[i]? = some (vI ((ps.getD i 0 : Nat) : Int)) := by unfold prow; simp [h]
theorem prow_set (ps : List Nat) (n v : Nat) : (prow ps n).setIfInBounds ps.length (vI (v : Int)) = prow (ps ++ [v]) n := by
  apply Array.ext
  · simp [prow]
  · intro i h1 h2
    have hi : i < n := by simpa [prow] using h1
    have e : ∀ qs : List Nat, (prow qs n)[i]? = some (vI ((qs.getD i 0 : Nat) : Int)) := fun qs => prow_at hi
    apply Option.some.inj
    rw [← Array.getElem?_eq_getElem h1, ← Array.getElem?_eq_getElem h2, e, Array.getElem?_setIfInBounds]
    by_cases hl : ps.length = i
    · subst hl
      rw [if_pos rfl, if_pos (by simpa [prow] using hi)]
      simp
    · rw [if_neg hl, e]
      congr 3
      rcases Nat.lt_or_ge i ps.length with h | h
      · simp [List.getD_eq_getElem?_getD, List.getElem?_append_left h]
      · have h3 : ps.length + 1 ≤ i := by omega
        rw [List.getD_eq_getElem?_getD, List.getD_eq_getElem?_getD, List.getElem?_eq_none h, List.getElem?_eq_none (by simpa using h3)]
/-- While an operation is told anew. -/
def TolC (pb n : Nat) (ps : List Nat) (w : World) (t : Nat) (o : Opr) : Nat → World → Prop
  | 0, x => LocO t o x ∧ Below w.heap.size w x ∧ w.heap.size ≤ t ∧ x.heap[pb]? = some (.cells (prow ps n) 3) ∧ pb < w.heap.size ∧ x.heap[t + 1]? = some (.cells #[vI 0, vI 0, vI 0, vI 0, vI 0, vU 0] 37)
  | 1, x => LocO t { o with a := (ps.getD o.a.toNat 0 : Nat) } x ∧ Below w.heap.size w x ∧ w.heap.size ≤ t ∧ x.heap[pb]? = some (.cells (prow ps n) 3) ∧ pb < w.heap.size ∧ x.heap[t + 1]? = some (.cells #[vI 0, vI 0, vI 0, vI 0, vI 0, vU 0] 37)
  | _, x => LocO t (toldO o ps) x ∧ Below w.heap.size w x ∧ w.heap.size ≤ t ∧ x.heap[pb]? = some (.cells (prow ps n) 3) ∧ pb < w.heap.size ∧ x.heap[t + 1]? = some (.cells #[vI 0, vI 0, vI 0, vI 0, vI 0, vU 0] 37)
section
variable {pb n t : Nat} {ps : List Nat} {w x : World} {o : Opr}
theorem tol_row {j : Nat} (h : TolC pb n ps w t o j x) : x.heap[pb]? = some (.cells (prow ps n) 3) := match j, h with
  | 0, h => h.2.2.2.1
  | 1, h => h.2.2.2.1
  | _ + 2, h => h.2.2.2.1
theorem tol_cell {j : Nat} (h : TolC pb n ps w t o j x) {q : Nat} (hq : q < n) : x.cell? ⟨pb, q, none⟩ = some (vI ((ps.getD q 0 : Nat) : Int)) := by rw [cell_of_row _ _ _ _ _ _ (tol_row h), prow_at hq]
theorem tol_rest {o' : Opr} {v : Value} {k : Nat} (h : Below w.heap.size w x ∧ w.heap.size ≤ t ∧ x.heap[pb]? = some (.cells (prow ps n) 3) ∧ pb < w.heap.size ∧ x.heap[t + 1]? = some (.cells #[vI 0, vI 0, vI 0, vI 0, vI 0, vU 0] 37)) : Below w.heap.size w (x.setCell ⟨t, k, none⟩ v) ∧ w.heap.size ≤ t ∧ (x.setCell ⟨t, k, none⟩ v).heap[pb]? = some (.cells (prow ps n) 3) ∧ pb < w.heap.size ∧ (x.setCell ⟨t, k, none⟩ v).heap[t + 1]? = some (.cells #[vI 0, vI 0, vI 0, vI 0, vI 0, vU 0] 37) := by
  obtain ⟨h1, h2, h3, h4, h5⟩ := h
  refine ⟨h1.trans ⟨rfl, rfl, rfl, by simp [World.setCell], fun k hk => Below.heap_setCell _ _ _ _ (by show k ≠ t; omega)⟩, h2, ?_, h4, ?_⟩
  · rw [Below.heap_setCell _ _ _ _ (by show pb ≠ t; omega)]; exact h3
  · rw [Below.heap_setCell _ _ _ _ (by show t + 1 ≠ t; omega)]; exact h5
theorem tol_a {qa : Nat} (h : TolC pb n ps w t o 0 x) (ha : o.a = qa) : TolC pb n ps w t o 1 (x.setCell ⟨t, 2, none⟩ (vI ((ps.getD qa 0 : Nat) : Int))) := by
  refine ⟨?_, tol_rest (o' := o) h.2⟩
  have := heap_setCell_same x t 2 _ 37 (vI ((ps.getD qa 0 : Nat) : Int)) h.1
  unfold LocO
  rw [this, ha, Int.toNat_natCast]
  rfl
theorem tol_b {qb : Nat} (h : TolC pb n ps w t o 1 x) (hb : o.b = qb) : TolC pb n ps w t o 2 (x.setCell ⟨t, 3, none⟩ (vI ((ps.getD qb 0 : Nat) : Int))) := by
  refine ⟨?_, tol_rest (o' := o) h.2⟩
  have := heap_setCell_same x t 3 _ 37 (vI ((ps.getD qb 0 : Nat) : Int)) h.1
  unfold LocO toldO
  rw [this, hb, Int.toNat_natCast]
  rfl
set_option maxHeartbeats 2000000 in
theorem told_c (hp : w.heap[pb]? = some (.cells (prow ps n) 3)) {qa qb : Nat} (ha : o.a = qa) (hb : o.b = qb) (hqa : qa < n) (hqb : qb < n) : Calls Tryd.prog 29 #[opV o, .slice (some ⟨pb, 0, none⟩) n n] w fun e w' => e = .returned (opV (toldO o ps)) ∧ Below w.heap.size w w' := by
  have hia : (qa : Int) < n := by omega
  have hib : (qb : Int) < n := by omega
  have hb1 := below_alloc w (.cells (opA o) 37)
  have hb2 := below_alloc (w.alloc (.cells (opA o) 37)) (.cells #[vI 0, vI 0, vI 0, vI 0, vI 0, vU 0] 37)
  have hB := below_then hb1 (Nat.le_refl _) hb2
  have st : TolC pb n ps w w.heap.size o 0 ((w.alloc (.cells (opA o) 37)).alloc (.cells #[vI 0, vI 0, vI 0, vI 0, vI 0, vU 0] 37)) := by
    refine ⟨(LocO.new w o).grow hb2, hB, Nat.le_refl _, keepRow hp hB, lt_of_some hp, ?_⟩
    have := heap_alloc_new (w.alloc (.cells (opA o) 37)) (.cells #[vI 0, vI 0, vI 0, vI 0, vI 0, vU 0] 37)
    rw [World.size_alloc] at this
    exact this
  clear hb1 hb2 hB hp
  go_enter Tryd.func29, Tryd.ntmps29
  go_upto_region 1 with fail
  generalize (w.alloc (.cells (opA o) 37)).alloc (.cells #[vI 0, vI 0, vI 0, vI 0, vI 0, vU 0] 37) = w2 at *
  generalize ht : w.heap.size = t at st
  have hst0 : TolC pb n ps w t o 0 ({ w2 with drawn := w2.drawn + 1 } : World) := ⟨st.1.grow (below_dr w2), st.2.1.trans ((below_dr w2).mono st.2.1.size), st.2.2.1, keepRow st.2.2.2.1 (below_dr w2), st.2.2.2.2.1, keepRow st.2.2.2.2.2 (below_dr w2)⟩
  have hst : (TolC pb n ps w t o) 0 _ := hst0
  refine Chn.wp_region_chainL (TolC pb n ps w t o) [11, 13] [2, 2, 0, 2, 2, 2, 2, 0, 2, 2, 2, 2, 2, 2] [.slice (some ⟨pb, 0, none⟩) n n, ptr t 2, vI qa, ptr pb qa, vI ((ps.getD qa 0 : Nat) : Int), .slice (some ⟨pb, 0, none⟩) n n, ptr t 3, vI qb, ptr pb qb, vI ((ps.getD qb 0 : Nat) : Int), ptr t 2, undef, ptr t 3, undef] (by kernel_rfl) (by kernel_rfl) (by kernel_rfl) (by kernel_rfl) (by kernel_rfl) hst ?_
  clear hst
  refine ⟨fun j w1 hj hC => by exact Chn.upon_pure hC (fun F hF => by (go_simp <;> exact hF)), ?_⟩
  simp only [Act.put, List.setIfInBounds_toArray, List.set_cons_succ, List.set_cons_zero]
  refine ⟨fun j w1 hj hC => by exact Chn.upon_pure hC (fun F hF => by (go_simp <;> exact hF)), ?_⟩
  simp only [Act.put, List.setIfInBounds_toArray, List.set_cons_succ, List.set_cons_zero]
  refine ⟨fun j w1 hj hC => by
    have z := (show w1.cell? ⟨t, 2, none⟩ = some (vI qa) by (obtain rfl : j = 0 := Nat.le_zero.1 hj); rw [hC.1.c2, ha])
    exact Chn.upon_pure hC (fun F hF => by (go_simp <;> exact hF)), ?_⟩
  simp only [Act.put, List.setIfInBounds_toArray, List.set_cons_succ, List.set_cons_zero]
  refine ⟨fun j w1 hj hC => by exact Chn.upon_pure hC (fun F hF => by (go_simp <;> exact hF)), ?_⟩
  simp only [Act.put, List.setIfInBounds_toArray, List.set_cons_succ, List.set_cons_zero]
  refine ⟨fun j w1 hj hC => by
    have z := tol_cell hC hqa
    exact Chn.upon_pure hC (fun F hF => by (go_simp <;> exact hF)), ?_⟩
  simp only [Act.put, List.setIfInBounds_toArray, List.set_cons_succ, List.set_cons_zero]
  refine ⟨fun j w1 hj hC => by exact Chn.upon_pure hC (fun F hF => by (go_simp <;> exact hF)), ?_⟩
  simp only [Act.put, List.setIfInBounds_toArray, List.set_cons_succ, List.set_cons_zero]
  refine ⟨fun j w1 hj hC => by exact Chn.upon_pure hC (fun F hF => by (go_simp <;> exact hF)), ?_⟩
  simp only [Act.put, List.setIfInBounds_toArray, List.set_cons_succ, List.set_cons_zero]
  refine ⟨fun j w1 hj hC => by
    have z := (show w1.cell? ⟨t, 3, none⟩ = some (vI qb) by (obtain rfl : j = 0 := Nat.le_zero.1 hj); rw [hC.1.c3, hb])
    exact Chn.upon_pure hC (fun F hF => by (go_simp <;> exact hF)), ?_⟩
  simp only [Act.put, List.setIfInBounds_toArray, List.set_cons_succ, List.set_cons_zero]
  refine ⟨fun j w1 hj hC => by exact Chn.upon_pure hC (fun F hF => by (go_simp <;> exact hF)), ?_⟩
  simp only [Act.put, List.setIfInBounds_toArray, List.set_cons_succ, List.set_cons_zero]
  refine ⟨fun j w1 hj hC => by
    have z := tol_cell hC hqb
    exact Chn.upon_pure hC (fun F hF => by (go_simp <;> exact hF)), ?_⟩
  simp only [Act.put, List.setIfInBounds_toArray, List.set_cons_succ, List.set_cons_zero]
  refine ⟨fun j w1 hj hC => by exact Chn.upon_pure hC (fun F hF => by (go_simp <;> exact hF)), ?_⟩
  simp only [Act.put, List.setIfInBounds_toArray, List.set_cons_succ, List.set_cons_zero]
  refine ⟨fun w1 hC => by
    exact chn_store 3 _ _ rfl t 2 rfl _ rfl (run_cell w1 3 t 2 _ _ inf3 rfl rfl hC.1.c2 (frozen_of_row _ _ _ _ _ hC.1)) (tol_a hC ha), ?_⟩
  simp only [Act.put, List.setIfInBounds_toArray, List.set_cons_succ, List.set_cons_zero]
  refine ⟨fun j w1 hj hC => by exact Chn.upon_pure hC (fun F hF => by (go_simp <;> exact hF)), ?_⟩
  simp only [Act.put, List.setIfInBounds_toArray, List.set_cons_succ, List.set_cons_zero]
  refine ⟨fun w1 hC => by
    exact chn_store 3 _ _ rfl t 3 rfl _ rfl (run_cell w1 3 t 3 _ _ inf3 rfl rfl hC.1.c3 (frozen_of_row _ _ _ _ _ hC.1)) (tol_b hC hb), ?_⟩
  simp only [Act.put, List.setIfInBounds_toArray, List.set_cons_succ, List.set_cons_zero]
  intro w5 hC
  refine Rel.then_normal ?_
  obtain ⟨L5, B5, htw, -, -, z5⟩ : TolC pb n ps w t o 2 w5 := hC
  have A5 := L5.at_
  go_upto_region 3 with (first | ((with_reducible refine wpList_load42 rfl _ rfl _ rfl _ A5 ?_); simp only [Act.put, List.setIfInBounds_toArray, List.set_cons_succ, List.set_cons_zero]) | ((with_reducible refine wpList_store_row rfl 37 _ _ rfl (t + 1) (opA (toldO o ps)) rfl rfl 37 _ z5 (op_inf _) rfl (op_one _) ?_); simp only [Act.put, List.setIfInBounds_toArray, List.set_cons_succ, List.set_cons_zero]))
  refine bodyPost_ret (results_cell_row rfl _ _ _ 37 (opA (toldO o ps)) (0, 0) _ rfl (setRow_heap _ _ _ _ _ _ z5) Tryd.underlying37 rfl (op_inf _)) rfl ?_
  exact ⟨rfl, below_setRow B5 (by omega)⟩
end
end Go.Proofs.YtilhjbhhgpoajaaDoor
