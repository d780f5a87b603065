/- A copy of a block. -/
import Derived.Test.YtioeiogcejikbaaDoorEc
import Derived.Test.YtioeiogcejikbaaDoorFa
import Derived.Test.YtioeiogcejikbaaDoorFr
namespace Go.Proofs.YtioeiogcejikbaaDoor
open Go.RowKit
set_option linter.unusedVariables false
set_option linter.unusedSimpArgs false
set_option maxRecDepth 8000

theorem gt_one (t : Gt) : (gtA t).all (·.oneCell') = true := by simp [Value.oneCell']
theorem run_load44 {w : World} {p : Addr} {t : Gt} (A : GtAt w p t) : (loadVar 44 p).run Tryd.prog w = .ok (gtV t) w := by
  have h1 := run_loadCells_list (P := Tryd.prog) w p (gtA t).toList (fun j v hv => by
    match j, hv with
    | 0, hv => cases hv; exact A.c0
    | 1, hv => cases hv; exact A.c1
    | 2, hv => cases hv; exact A.c2
    | j + 3, hv => simp at hv)
  have hi : (Tryd.prog.info? 44).map (·.size) = some 3 := by kernel_rfl
  have hagg : (isAgg 44).run Tryd.prog w = .ok true w := by
    unfold isAgg
    rw [Sem.run_bind, run_underlying Tryd.underlying44 w]
    rfl
  cases hq : Tryd.prog.info? 44 with
  | none => simp [hq] at hi
  | some i =>
    have hs : i.size = 3 := by simpa [hq] using hi
    have h1 : (loadCells p 3).run Tryd.prog w = _ := h1
    simp [loadVar, Sem.run_bind, hagg, sizeOf, typeInfo, hq, hs, h1]
theorem wpList_load44 {ops : Array Oper} {rest : List Oper} {o : Oper} {a : Act} {w : World} {Q : Exit → Act → World → Prop} (hw : Region.wanted o (yielded ops a.tmps) = true) (x : Operand) (ho : o.op = .load 44 x)
    (p : Addr) (hx : a.eval x = .pointer (some p)) (t : Gt) (A : GtAt w p t)
    (h : wpList Tryd.prog ops Q rest (a.put o.dst (gtV t)) w) : wpList Tryd.prog ops Q (o :: rest) a w := by
  refine BigFrame.wpList_want hw fun K hK => ?_
  unfold Oper.wp execOp
  simp only [ho, hx, Instr.loadAt, Instr.sureAddr, Sem.run_bind, Sem.run_pure, Result.andThen_ok, run_load44 A]
  exact hK _ _ h
theorem own_of {w w' : World} {base n size : Nat} {e : TypeId} {v : Value} {xs : List Value} (h : w.ownsRow base e size v n xs) (hk : ∀ g, base ≤ g → w'.heap[g]? = w.heap[g]?) : w'.ownsRow base e size v n xs :=
  ⟨h.1, h.2.imp id fun ⟨g, cap, cur, e, hb, hg, r⟩ => ⟨g, cap, cur, e, hb, by rw [hk g hb]; exact hg, r⟩⟩
/-- A copy of a block's operations. -/
structure OpsC (w : World) (v : Value) (l : List Opr) : Prop where
  ops : Ops w v l
  cap : ∀ ao n c, v = .slice ao n c → n ≤ c
  one : v.oneCell' = true
theorem OpsC.grow {w w' : World} {v : Value} {l : List Opr} (h : OpsC w v l) (hb : Below w.heap.size w w') : OpsC w' v l := ⟨h.ops.grow hb, h.cap, h.one⟩
theorem opsC_of {w : World} {base : Nat} {v : Value} {l : List Opr} (h : w.ownsRow base 42 6 v l.length (opF l)) (hm : l.length ≤ maxLen) : OpsC w v l := by
  rcases h.2 with ⟨rfl, h0⟩ | ⟨g, cap, cur, rfl, _, hg, h1, h2, h3, h4⟩
  · obtain rfl : l = [] := List.length_eq_zero_iff.1 h0
    exact ⟨⟨⟨none, 0, rfl⟩, Nat.zero_le _, fun h => absurd h (by simp)⟩, fun ao n c e => (by cases e; exact Nat.le_refl _), rfl⟩
  · refine ⟨⟨⟨_, _, rfl⟩, hm, fun _ => ⟨_, _, rfl, fun k o ho => ?_⟩⟩, fun ao n c e => (by cases e; exact h1), rfl⟩
    have hk : k < l.length := (List.getElem?_eq_some_iff.1 ho).1
    have g1 : ∀ j, j < 6 → w.cell? ⟨g, k * 6 + j, none⟩ = (opA o)[j]? := fun j hj => by
      rw [h.cellAt _ (by omega)]; exact opF_get ho j hj
    have e : (⟨g, 0, none⟩ : Addr).add (k * 6) = ⟨g, k * 6, none⟩ := by unfold Addr.add; simp; intro h; exact h.symm
    rw [e]
    exact ⟨lt_of_some hg, g1 0 (by decide), g1 1 (by decide), g1 2 (by decide), g1 3 (by decide), g1 4 (by decide), g1 5 (by decide)⟩
theorem wpList_copy {ops : Array Oper} {rest : List Oper} {o : Oper} {a : Act} {w : World} {Q : Exit → Act → World → Prop} (hgd : o.guard = none) (s x : Operand) (ho : o.op = .call { callee := .builtin .append, args := #[s, x], argTypes := #[23, 23] }) {v : Value} {l : List Opr} (hs : a.eval s = .slice none 0 0) (hx : a.eval x = v) (O : Ops w v l) (hl : l.length * 48 ≤ 140737488351232)
    (h : ∀ v' w', w'.ownsRow w.heap.size 42 6 v' l.length (opF l) → Below w.heap.size w w' → wpList Tryd.prog ops Q rest (a.put o.dst v') w') : wpList Tryd.prog ops Q (o :: rest) a w :=
  wpList_plain hgd fun _ hK => by
    obtain ⟨v', w', hr, q1, q2⟩ := run_copyO O hl o.type
    unfold Oper.wp execOp
    simp only [ho, resolve, invoke, builtin, Sem.run_bind, Sem.run_pure, Result.andThen_ok, List.map_toArray, List.map_cons, List.map_nil, hs, hx, hr]
    exact hK _ _ (h v' w' q1 q2)
theorem bl_set3 (pc words el : Int) (v u : Value) : (blA pc words el v).setIfInBounds 3 u = blA pc words el u := rfl
set_option maxHeartbeats 2000000 in
theorem copied_c {w : World} {pc words el : Int} {v : Value} {l : List Opr} (O : Ops w v l) (hl : l.length * 48 ≤ 140737488351232) : Calls Tryd.prog 11 #[blV pc words el v] w fun e w' => ∃ v', e = .returned (blV pc words el v') ∧ OpsC w' v' l ∧ Below w.heap.size w w' := by
  have hb := below_alloc w (.cells (blA pc words el v) 25)
  have hb2 := below_then hb (Nat.le_refl _) (below_alloc (w.alloc (.cells (blA pc words el v) 25)) (.cells (blA 0 0 0 (.slice none 0 0)) 25))
  have r1 : ((w.alloc (.cells (blA pc words el v) 25)).alloc (.cells (blA 0 0 0 (.slice none 0 0)) 25)).heap[w.heap.size]? = some (.cells (blA pc words el v) 25) := by
    rw [Below.heap_alloc _ _ _ (by simp)]; exact heap_alloc_new _ _
  have r2 : ((w.alloc (.cells (blA pc words el v) 25)).alloc (.cells (blA 0 0 0 (.slice none 0 0)) 25)).heap[w.heap.size + 1]? = some (.cells (blA 0 0 0 (.slice none 0 0)) 25) := by
    have := heap_alloc_new (w.alloc (.cells (blA pc words el v) 25)) (.cells (blA 0 0 0 (.slice none 0 0)) 25)
    rw [World.size_alloc] at this; exact this
  have O1 := O.grow hb2
  obtain ⟨ao, cap, ev⟩ := O.len
  subst ev
  go_enter Tryd.func11, Tryd.ntmps11
  go_upto_region 1 with fail
  generalize (w.alloc (.cells (blA pc words el (.slice ao l.length cap)) 25)).alloc (.cells (blA 0 0 0 (.slice none 0 0)) 25) = w1 at *
  have hne : w.heap.size ≠ w.heap.size + 1 := by omega
  generalize hq2 : w.heap.size + 1 = b2 at r2 hne ⊢
  have hle2 : w.heap.size ≤ b2 := by omega
  clear hq2
  have z3 : w1.cell? ⟨w.heap.size, 3, none⟩ = some (.slice ao l.length cap) := by rw [cell_of_row _ _ _ _ _ _ r1]; rfl
  go_upto_region 2 with (first | (at_builtin; (refine wpList_copy rfl _ _ rfl rfl rfl O1 hl ?_); intro v' w2 q1 q2; obtain ⟨ao', cap', ev'⟩ := (opsC_of q1 O1.max).ops.len; subst ev'; simp only [Act.put, List.setIfInBounds_toArray, List.set_cons_succ, List.set_cons_zero]; have r1' := keepRow r1 q2; have r2' := keepRow r2 q2; have z3' : w2.cell? ⟨w.heap.size, 3, none⟩ = some (.slice ao l.length cap) := (by rw [cell_of_row _ _ _ _ _ _ r1']; rfl); have f3 : w2.frozen? ⟨w.heap.size, 3, none⟩ = false := frozen_of_row _ _ _ _ _ r1'))
  have r3 := heap_setCell_same w2 w.heap.size 3 _ 25 (.slice ao' l.length cap') r1'
  rw [bl_set3] at r3
  have r4 : (w2.setCell ⟨w.heap.size, 3, none⟩ (.slice ao' l.length cap')).heap[b2]? = some (.cells (blA 0 0 0 (.slice none 0 0)) 25) := by
    rw [heap_setCell_other _ _ _ _ (Ne.symm hne)]; exact r2'
  have hlt1 : w.heap.size < w1.heap.size := lt_of_some r1
  have hlt2 : b2 < w1.heap.size := lt_of_some r2
  have q3 : (w2.setCell ⟨w.heap.size, 3, none⟩ (.slice ao' l.length cap')).ownsRow w1.heap.size 42 6 (.slice ao' l.length cap') l.length (opF l) := own_of q1 (fun g hg => heap_setCell_other _ _ _ _ (by show g ≠ w.heap.size; omega))
  have hb3 : Below w.heap.size w (w2.setCell ⟨w.heap.size, 3, none⟩ (.slice ao' l.length cap')) := below_cell (below_then hb2 (Nat.le_refl _) q2) (Nat.le_refl _)
  generalize w2.setCell ⟨w.heap.size, 3, none⟩ (.slice ao' l.length cap') = w3 at *
  go_wp2_with (first | ((with_reducible refine wpList_load_if rfl 25 _ rfl _ rfl 25 _ (0, 0) _ r3 Tryd.underlying25 rfl (bl_inf _ _ _ _) ?_); simp only [Act.put, List.setIfInBounds_toArray, List.set_cons_succ, List.set_cons_zero]) | ((with_reducible refine wpList_store_row rfl 25 _ _ rfl b2 (blA pc words el (.slice ao' l.length cap')) rfl rfl 25 _ r4 (bl_inf _ _ _ _) rfl (blk_one _ _ _ _ rfl) ?_); try simp only [Act.put]))
  refine bodyPost_ret (back25 rfl _ _ b2 rfl (setRow_heap _ _ _ _ _ _ r4)) rfl ?_
  exact ⟨_, rfl, opsC_of (own_of q3 (fun g hg => setRow_other _ _ _ _ (by omega))) O.max, below_setRow hb3 hle2⟩
end Go.Proofs.YtioeiogcejikbaaDoor
