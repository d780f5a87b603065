/- Worlds that hold some blocks of a call's own. -/
import Derived.Test.YtilbnjldfgofmaaCb
namespace Go.Proofs.Ytilbnjldfgofmaa
open Go.RowKit
set_option linter.unusedVariables false
set_option linter.unusedSimpArgs false
set_option maxRecDepth 8000

structure Has (w0 : World) (L : List (Nat × Array Value × TypeId)) (w : World) : Prop where
  below : Below w0.heap.size w0 w
  box : ∀ p ∈ L, w0.heap.size ≤ p.1 ∧ w.heap[p.1]? = some (.cells p.2.1 p.2.2)
theorem has_none (w : World) : Has w [] w := ⟨Below.refl _ _, fun _ h => by cases h⟩
theorem Has.grow {w0 w w' : World} {L : List (Nat × Array Value × TypeId)} (h : Has w0 L w) (hb : Below w.heap.size w w') : Has w0 L w' := by
  refine ⟨below_then h.below (Nat.le_refl _) hb, fun p hp => ?_⟩
  obtain ⟨h1, h2⟩ := h.box p hp
  exact ⟨h1, by rw [hb.block _ (Array.getElem?_eq_some_iff.1 h2).1]; exact h2⟩
theorem Has.new {w0 w : World} {L : List (Nat × Array Value × TypeId)} (h : Has w0 L w) (t : TypeId) (Z : Array Value) : Has w0 ((w.heap.size, Z, t) :: L) (w.alloc (.cells Z t)) := by
  refine ⟨below_then h.below (Nat.le_refl _) (below_alloc _ _), fun p hp => ?_⟩
  rcases List.mem_cons.1 hp with rfl | hp
  · exact ⟨h.below.size, heap_alloc_new _ _⟩
  · obtain ⟨h1, h2⟩ := h.box p hp
    have := (Array.getElem?_eq_some_iff.1 h2).1
    exact ⟨h1, by rw [Below.heap_alloc _ _ _ this]; exact h2⟩
theorem Has.add {w0 w : World} {L : List (Nat × Array Value × TypeId)} (h : Has w0 L w) (t : TypeId) (d Z : Array Value) : Has w0 ((w.heap.size, d, t) :: L) ((w.alloc (.cells Z t)).setRow w.heap.size d) := by
  refine ⟨below_setRow (below_then h.below (Nat.le_refl _) (below_alloc _ _)) h.below.size, fun p hp => ?_⟩
  rcases List.mem_cons.1 hp with rfl | hp
  · exact ⟨h.below.size, setRow_heap _ _ _ _ _ _ (heap_alloc_new _ _)⟩
  · obtain ⟨h1, h2⟩ := h.box p hp
    have := (Array.getElem?_eq_some_iff.1 h2).1
    exact ⟨h1, by rw [setRow_other _ _ _ _ (by omega), Below.heap_alloc _ _ _ this]; exact h2⟩
/-- The block that was laid last, laid anew. -/
theorem Has.over {w0 w : World} {L : List (Nat × Array Value × TypeId)} {b : Nat} {t : TypeId} {d Z : Array Value} (h : Has w0 ((b, Z, t) :: L) w) (hL : ∀ p ∈ L, p.1 ≠ b) : Has w0 ((b, d, t) :: L) (w.setRow b d) := by
  obtain ⟨h1, h2⟩ := h.box (b, Z, t) List.mem_cons_self
  refine ⟨below_setRow h.below h1, fun p hp => ?_⟩
  rcases List.mem_cons.1 hp with rfl | hp
  · exact ⟨h1, setRow_heap _ _ _ _ _ _ h2⟩
  · obtain ⟨h3, h4⟩ := h.box p (List.mem_cons_of_mem _ hp)
    exact ⟨h3, by rw [setRow_other _ _ _ _ (hL p hp)]; exact h4⟩
theorem Has.get {w0 w : World} {L : List (Nat × Array Value × TypeId)} (h : Has w0 L w) {b : Nat} {t : TypeId} {c : Array Value} (hp : (b, c, t) ∈ L) : w.heap[b]? = some (.cells c t) := (h.box _ hp).2
theorem Has.at {w0 w : World} {L : List (Nat × Array Value × TypeId)} (h : Has w0 L w) {b : Nat} {t : TypeId} {c : Array Value} (hp : (b, c, t) ∈ L) (k : Nat) (v : Value) (hv : c[k]? = some v) : w.cell? ⟨b, k, none⟩ = some v := by
  rw [cell_of_row _ _ _ _ _ _ (h.get hp), hv]
/-- One cell read. -/
theorem wpList_load_cell {ops : Array Oper} {rest : List Oper} {o : Oper} {a : Act} {w : World} {Q : Exit → Act → World → Prop} (hw : Region.wanted o (yielded ops a.tmps) = true) (ty : TypeId) (x : Operand) (ho : o.op = .load ty x)
    (g j : Nat) (hx : a.eval x = .pointer (some ⟨g, j, none⟩)) (v : Value) (hc : w.cell? ⟨g, j, none⟩ = some v) (ha : (isAgg ty).run Try.prog w = .ok false w)
    (h : wpList Try.prog ops Q rest (a.put o.dst v) w) : wpList Try.prog ops Q (o :: rest) a w := by
  refine BigFrame.wpList_want hw fun K hK => ?_
  unfold Oper.wp execOp
  have hl : (loadVar ty ⟨g, j, none⟩).run Try.prog w = .ok v w := by
    go_simp
  simp only [ho, hx, Instr.loadAt, Instr.sureAddr, Sem.run_bind, Sem.run_pure, Result.andThen_ok, hl]
  exact hK _ _ h
theorem agg4 (w : World) : (isAgg 4).run Try.prog w = .ok false w := by simp [isAgg, run_underlying Try.underlying4]
theorem agg3 (w : World) : (isAgg 3).run Try.prog w = .ok false w := by simp [isAgg, run_underlying Try.underlying3]
/-- A new variable of the call's own, behind the store of a whole row into it. -/
theorem wpList_store_new {w0 : World} {L : List (Nat × Array Value × TypeId)} {ops : Array Oper} {rest : List Oper} {o : Oper} {a : Act} {w : World} {Z : Array Value} {Q : Exit → Act → World → Prop} (H : Has w0 L w) (hgd : o.guard = none) (t : TypeId) (x y : Operand) (ho : o.op = .store t x y)
    (d : Array Value) (hx : a.eval x = .pointer (some ⟨w.heap.size, 0, none⟩)) (hy : a.eval y = .agg d) (hi : (Try.prog.info? t).map (·.size) = some d.size) (hZ : Z.size = d.size) (h1 : d.all (·.oneCell') = true)
    (h : ∀ w2, Has w0 ((w.heap.size, d, t) :: L) w2 → wpList Try.prog ops Q rest (a.put o.dst undef) w2) : wpList Try.prog ops Q (o :: rest) a (w.alloc (.cells Z t)) :=
  wpList_store_row hgd t x y ho _ _ hx hy t _ (heap_alloc_new _ _) hi hZ h1 (h _ (H.add t d Z))
/-- A variable that was laid last, behind the store of a whole row into it. -/
theorem wpList_store_over {w0 : World} {L : List (Nat × Array Value × TypeId)} {ops : Array Oper} {rest : List Oper} {o : Oper} {a : Act} {w : World} {b : Nat} {Z : Array Value} {Q : Exit → Act → World → Prop} (hgd : o.guard = none) (t : TypeId) (H : Has w0 ((b, Z, t) :: L) w) (hL : ∀ p ∈ L, p.1 ≠ b) (x y : Operand) (ho : o.op = .store t x y)
    (d : Array Value) (hx : a.eval x = .pointer (some ⟨b, 0, none⟩)) (hy : a.eval y = .agg d) (hi : (Try.prog.info? t).map (·.size) = some d.size) (hZ : Z.size = d.size) (h1 : d.all (·.oneCell') = true)
    (h : ∀ w2, Has w0 ((b, d, t) :: L) w2 → wpList Try.prog ops Q rest (a.put o.dst undef) w2) : wpList Try.prog ops Q (o :: rest) a w :=
  wpList_store_row hgd t x y ho _ _ hx hy t _ (H.get List.mem_cons_self) hi hZ h1 (h _ (H.over hL))


theorem wpList_built {P : Program} {ops : Array Oper} {rest : List Oper} {o : Oper} {a : Act} {w : World} {Q : Exit → Act → World → Prop} (hg : o.guard = none) (t : TypeId) (parts : Array (Nat × Operand)) (ho : o.op = .build t parts)
    (cs : Array Value) (hf : P.built t (parts.map fun (i, x) => (i, a.eval x)).toList = some cs)
    (h : wpList P ops Q rest (a.put o.dst (.agg cs)) w) : wpList P ops Q (o :: rest) a w :=
  wpList_build hg t parts ho (by rw [hf]; rfl) (by rw [hf]; exact h)
end Go.Proofs.Ytilbnjldfgofmaa
