/- Jk, Jl of the seat, joined. -/
import Derived.Test.YtejlmggfeejgpaaJj
/- New: what it answers, plainly. -/
namespace Go.Proofs.Ytejlmggfeejgpaa
open Go.RowKit
set_option linter.unusedVariables false
set_option linter.unusedSimpArgs false
set_option maxRecDepth 8000

section
variable {l : List Opr} {w w' : World}
/-- A run at its beginning. -/
def newS (n : Nat) (c : Cor) : Rn := ⟨0, c, nilW, 0, 0, false, false, List.replicate n 0⟩
/-- The numbers of a state are of their kinds. -/
structure CorOk (c : Cor) : Prop where
  x : ∀ i (h : i < 31), U64 c.x[i]
  sp0 : U64 c.sp0
  sp1 : U64 c.sp1
/-- A run whose blocks lie from B on. -/
structure NwC (w : World) (pc words el : Int) (v : Value) (l : List Opr) (c : Cor) (b1 b2 : Nat) (x : World) : Prop where
  r1 : x.heap[b1]? = some (.cells (blA pc words el v) 25)
  r2 : x.heap[b2]? = some (.cells c.cells 43)
  ops : Ops x v l
  below : Below w.heap.size w x
theorem NwC.grow {pc words el : Int} {v : Value} {c : Cor} {b1 b2 : Nat} {x y : World} (h : NwC w pc words el v l c b1 b2 x) (hb : Below x.heap.size x y) : NwC w pc words el v l c b1 b2 y :=
  ⟨by rw [hb.block _ (lt_of_some h.r1)]; exact h.r1, by rw [hb.block _ (lt_of_some h.r2)]; exact h.r2, h.ops.grow hb, below_then h.below (Nat.le_refl _) hb⟩
theorem NwC.c3 {pc words el : Int} {v : Value} {c : Cor} {b1 b2 : Nat} {x : World} (h : NwC w pc words el v l c b1 b2 x) : x.cell? ⟨b1, 3, none⟩ = some v := by rw [cell_of_row _ _ _ _ _ _ h.r1]; rfl
theorem NwC.c2 {pc words el : Int} {v : Value} {c : Cor} {b1 b2 : Nat} {x : World} (h : NwC w pc words el v l c b1 b2 x) : x.cell? ⟨b1, 2, none⟩ = some (vI el) := by rw [cell_of_row _ _ _ _ _ _ h.r1]; rfl
theorem NwC.ce {pc words el : Int} {v : Value} {c : Cor} {b1 b2 : Nat} {x : World} (h : NwC w pc words el v l c b1 b2 x) : x.cell? ⟨b2, 38, none⟩ = some (vI c.el) := by rw [cell_of_row _ _ _ _ _ _ h.r2, Cor.a38]
def rightC (c : Cor) : Bool := (c.el == 0 || c.el == 1) && decide (0 ≤ c.wait) && decide (c.wait ≤ 2) && decide (0 ≤ c.id) && decide (c.id ≤ 7)
set_option maxHeartbeats 1000000 in
/-- What New answers: the error. -/
def newE (pc words el : Int) (l : List Opr) (c : Cor) : Int := if rightB pc words el l = true then (if rightC c = true ∧ c.el = el then 0 else 1) else 4
theorem blk_one (pc words el : Int) (v : Value) (hv : v.oneCell' = true) : (blA pc words el v).all (·.oneCell') = true := by
  have hi : ∀ k n, (Value.int k n).oneCell' = true := fun _ _ => rfl
  simp [hv, hi]
end
end Go.Proofs.Ytejlmggfeejgpaa
/- New. -/
namespace Go.Proofs.Ytejlmggfeejgpaa
open Go.RowKit
set_option linter.unusedVariables false
set_option linter.unusedSimpArgs false
set_option maxRecDepth 8000

section
variable {l : List Opr} {w w' : World} {pc words el : Int} {v : Value} {c : Cor} {b1 b2 : Nat}
theorem own_grow6 {w w' : World} {base : Nat} {v : Value} {n : Nat} {xs : List Value} (h : w.ownsRow base 39 6 v n xs) (hb : Below w.heap.size w w') : w'.ownsRow base 39 6 v n xs :=
  own_of_block h (fun k hk => hb.block k (h.lt k hk).2)
theorem rel_mk {E : List PanicEntry → World → Prop} {F : Value → World → Prop} {o : Oper} {a : Act} {x : Operand} {n : Nat} (hn : n ≤ 512) (hF : F (.slice (some ⟨w.heap.size, 0, none⟩) n n) (w.alloc (.cells ((List.replicate n (0 : Int)).map vU).toArray 22))) (ho : o.op = .makeSlice 52 x x := by rfl) (hx : a.eval x = vI n := by rfl) : RelQ.relUpon Try.prog RelQ.Grows E F w ((execOp a.eval o).run Try.prog w) := by
  unfold execOp
  simp only [ho, hx, Sem.run_bind, run_mk w n hn, Result.andThen_ok, Sem.run_pure]
  exact ⟨below_alloc _ _, hF⟩
theorem rel_load29 {E : List PanicEntry → World → Prop} {o : Oper} {a : Act} {x : Operand} {b : Nat} (hr : w.heap[b]? = some (.cells c.cells 43)) (ho : o.op = .load 43 x := by rfl) (hx : a.eval x = ptr b 0 := by rfl) : RelQ.relUpon Try.prog RelQ.Grows E (fun v _ => v = c.val) w ((execOp a.eval o).run Try.prog w) := by
  have h := run_loadVar_row w b 43 43 c.cells (0, 0) _ hr Try.underlying43 rfl c.info
  unfold execOp
  simp only [ho, hx, Instr.loadAt, Instr.sureAddr, Sem.run_bind, Sem.run_pure, Result.andThen_ok, h]
  exact ⟨RelQ.grows_refl _, rfl⟩
theorem newS_ok (hok : CorOk c) (hel : c.el = 0 ∨ c.el = 1) (n : Nat) : (newS n c).Ok := ⟨hok.x, hok.sp0, hok.sp1, hel, fun v hv => by
  have := List.eq_of_mem_replicate (show v ∈ List.replicate n (0 : Int) from hv)
  rw [this]; exact ⟨by decide, by decide⟩⟩
end
end Go.Proofs.Ytejlmggfeejgpaa
