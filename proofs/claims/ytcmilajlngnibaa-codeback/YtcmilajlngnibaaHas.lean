/- Worlds that hold some instructions of a call's own, each in a block. -/
import Derived.Test.YtcmilajlngnibaaOpen
namespace Go.Proofs.Ytcmilajlngnibaa
open Go.RowKit

theorem below_on {w x y : World} (h : Below w.heap.size w x) (hb : Below x.heap.size x y) : Below w.heap.size w y := h.trans (hb.mono h.size)
structure Has (w0 : World) (L : List (Nat × Ins)) (w : World) : Prop where
  below : Below w0.heap.size w0 w
  box : ∀ p ∈ L, w0.heap.size ≤ p.1 ∧ w.heap[p.1]? = some (.cells p.2.cells 25)
theorem has_none (w : World) : Has w [] w := ⟨Below.refl _ _, fun _ h => by cases h⟩
theorem has_start (c : Ins) (w : World) : Has w [(w.heap.size, c)] (w.alloc (.cells c.cells 25)) := by
  refine ⟨Go.Proofs.Ytcmilajlngnibaa.below_alloc _ _, fun p hp => ?_⟩
  obtain rfl := List.mem_singleton.1 hp
  exact ⟨Nat.le_refl _, heap_alloc_new _ _⟩
theorem Has.grow {w0 w w' : World} {L : List (Nat × Ins)} (h : Has w0 L w) (hb : Below w.heap.size w w') : Has w0 L w' := by
  refine ⟨below_on h.below hb, fun p hp => ?_⟩
  obtain ⟨h1, h2⟩ := h.box p hp
  exact ⟨h1, by rw [hb.block _ (Array.getElem?_eq_some_iff.1 h2).1]; exact h2⟩
theorem Has.add {w0 w : World} {L : List (Nat × Ins)} (h : Has w0 L w) (d : Ins) (Z : Array Value) : Has w0 ((w.heap.size, d) :: L) ((w.alloc (.cells Z 25)).setRow w.heap.size d.cells) := by
  refine ⟨Go.Proofs.Ytcmilajlngnibaa.below_setRow (below_on h.below (Go.Proofs.Ytcmilajlngnibaa.below_alloc _ _)) h.below.size, fun p hp => ?_⟩
  rcases List.mem_cons.1 hp with rfl | hp
  · exact ⟨h.below.size, setRow_heap _ _ _ _ _ _ (heap_alloc_new _ _)⟩
  · obtain ⟨h1, h2⟩ := h.box p hp
    have := (Array.getElem?_eq_some_iff.1 h2).1
    exact ⟨h1, by rw [setRow_other _ _ _ _ (by omega), Below.heap_alloc _ _ _ this]; exact h2⟩
theorem Has.get {w0 w : World} {L : List (Nat × Ins)} (h : Has w0 L w) {b : Nat} {c : Ins} (hp : (b, c) ∈ L) : w.heap[b]? = some (.cells c.cells 25) := (h.box _ hp).2
theorem Has.at {w0 w : World} {L : List (Nat × Ins)} (h : Has w0 L w) {b : Nat} {c : Ins} (hp : (b, c) ∈ L) (k : Nat) (v : Value) (hv : c.cells[k]? = some v) : w.cell? ⟨b, k, none⟩ = some v := by
  rw [cell_of_row _ _ _ _ _ _ (h.get hp), hv]
/-- One number read. -/
theorem wpList_load_int {ops : Array Oper} {rest : List Oper} {o : Oper} {a : Act} {w : World} {Q : Exit → Act → World → Prop} (hw : Region.wanted o (yielded ops a.tmps) = true) (ty : TypeId) (x : Operand) (ho : o.op = .load ty x)
    (g j : Nat) (hx : a.eval x = .pointer (some ⟨g, j, none⟩)) (v : Value) (hc : w.cell? ⟨g, j, none⟩ = some v) (k : IntKind) (hu : Try.prog.underlying ty = some (.int k))
    (h : wpList Try.prog ops Q rest (a.put o.dst v) w) : wpList Try.prog ops Q (o :: rest) a w := by
  refine BigFrame.wpList_want hw fun K hK => ?_
  unfold Oper.wp execOp
  have hl : (loadVar ty ⟨g, j, none⟩).run Try.prog w = .ok v w := by
    have ha : (isAgg ty).run Try.prog w = .ok false w := by simp [isAgg, run_underlying hu]
    go_simp
  simp only [ho, hx, Instr.loadAt, Instr.sureAddr, Sem.run_bind, Sem.run_pure, Result.andThen_ok, hl]
  exact hK _ _ h
/-- A new variable of the call's own, behind the store of a state into it. -/
theorem wpList_store_new {w0 : World} {L : List (Nat × Ins)} {ops : Array Oper} {rest : List Oper} {o : Oper} {a : Act} {w : World} {Z : Array Value} {Q : Exit → Act → World → Prop} (H : Has w0 L w) (hgd : o.guard = none) (x y : Operand) (ho : o.op = .store 25 x y)
    (d : Ins) (hx : a.eval x = .pointer (some ⟨w.heap.size, 0, none⟩)) (hy : a.eval y = .agg d.cells) (hZ : Z.size = 16)
    (h : ∀ w2, Has w0 ((w.heap.size, d) :: L) w2 → wpList Try.prog ops Q rest (a.put o.dst undef) w2) : wpList Try.prog ops Q (o :: rest) a (w.alloc (.cells Z 25)) :=
  wpList_store_row hgd 25 x y ho _ _ hx hy 25 _ (heap_alloc_new _ _) (Ins.infoC _) hZ (Ins.oneC _) (h _ (H.add d Z))
end Go.Proofs.Ytcmilajlngnibaa
