/- New. -/
import Derived.Test.YtilhjbhhgpoajaaJk
namespace Go.Proofs.Ytilhjbhhgpoajaa
open Go.RowKit
set_option linter.unusedVariables false
set_option linter.unusedSimpArgs false
set_option maxRecDepth 8000

section
variable {l : List Opr} {w w' : World} {pc words el : Int} {v : Value} {c : Cor} {b1 b2 : Nat}
theorem own_grow6 {w w' : World} {base : Nat} {v : Value} {n : Nat} {xs : List Value} (h : w.ownsRow base 45 6 v n xs) (hb : Below w.heap.size w w') : w'.ownsRow base 45 6 v n xs :=
  own_of_block h (fun k hk => hb.block k (h.lt k hk).2)
theorem rel_mk {E : List PanicEntry → World → Prop} {F : Value → World → Prop} {o : Oper} {a : Act} {x : Operand} {n : Nat} (hn : n ≤ 512) (hF : F (.slice (some ⟨w.heap.size, 0, none⟩) n n) (w.alloc (.cells ((List.replicate n (0 : Int)).map vU).toArray 22))) (ho : o.op = .makeSlice 63 x x := by rfl) (hx : a.eval x = vI n := by rfl) : RelQ.relUpon Try.prog RelQ.Grows E F w ((execOp a.eval o).run Try.prog w) := by
  unfold execOp
  simp only [ho, hx, Sem.run_bind, run_mk w n hn, Result.andThen_ok, Sem.run_pure]
  exact ⟨below_alloc _ _, hF⟩
theorem rel_load29 {E : List PanicEntry → World → Prop} {o : Oper} {a : Act} {x : Operand} {b : Nat} (hr : w.heap[b]? = some (.cells c.cells 29)) (ho : o.op = .load 29 x := by rfl) (hx : a.eval x = ptr b 0 := by rfl) : RelQ.relUpon Try.prog RelQ.Grows E (fun v _ => v = c.val) w ((execOp a.eval o).run Try.prog w) := by
  have h := run_loadVar_row w b 29 29 c.cells (0, 0) _ hr Try.underlying29 rfl c.info
  unfold execOp
  simp only [ho, hx, Instr.loadAt, Instr.sureAddr, Sem.run_bind, Sem.run_pure, Result.andThen_ok, h]
  exact ⟨RelQ.grows_refl _, rfl⟩
theorem newS_ok (hok : CorOk c) (hel : c.el = 0 ∨ c.el = 1) (n : Nat) : (newS n c).Ok := ⟨hok.x, hok.sp0, hok.sp1, hel, fun v hv => by
  have := List.eq_of_mem_replicate (show v ∈ List.replicate n (0 : Int) from hv)
  rw [this]; exact ⟨by decide, by decide⟩⟩
end
end Go.Proofs.Ytilhjbhhgpoajaa
