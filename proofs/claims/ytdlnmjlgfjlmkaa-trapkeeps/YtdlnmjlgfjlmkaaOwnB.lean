/- Worlds that hold some states of a call's own: states that lie further off; a state's arrays read and held against each other. -/
import Derived.Test.YtdlnmjlgfjlmkaaOwn
import Derived.Test.YtdlnmjlgfjlmkaaRelG
import Derived.Deep.MidRow
namespace Go.Proofs.Ytdlnmjlgfjlmkaa
open Go.RowKit
set_option linter.unusedVariables false

section
variable {w0 w : World} {L : List (Nat × Cor)} {ops : Array Oper} {rest : List Oper} {o : Oper} {a : Act} {Q : Exit → Act → World → Prop}
theorem wpList_get3 {p1 p2 p3 : Nat × Cor} {b : Nat} {c : Cor} (H : Own w0 (p1 :: p2 :: p3 :: (b, c) :: L) w) (hw : Region.wanted o (yielded ops a.tmps) = true) (ty : TypeId) (x : Operand) (ho : o.op = .load ty x) (k : Nat) (hx : a.eval x = .pointer (some ⟨b, k, none⟩)) (hty : ty = 22 ∨ ty = 3 ∨ ty = 4) (v : Value) (hc : c.cells[k]? = some v)
    (h : wpList Try.prog ops Q rest (a.put o.dst v) w) : wpList Try.prog ops Q (o :: rest) a w := wpList_get hw ty x ho hty b k hx v (H.at (List.mem_cons_of_mem _ (List.mem_cons_of_mem _ (List.mem_cons_of_mem _ (List.mem_cons_self)))) k v hc) h
theorem wpList_get4 {p1 p2 p3 p4 : Nat × Cor} {b : Nat} {c : Cor} (H : Own w0 (p1 :: p2 :: p3 :: p4 :: (b, c) :: L) w) (hw : Region.wanted o (yielded ops a.tmps) = true) (ty : TypeId) (x : Operand) (ho : o.op = .load ty x) (k : Nat) (hx : a.eval x = .pointer (some ⟨b, k, none⟩)) (hty : ty = 22 ∨ ty = 3 ∨ ty = 4) (v : Value) (hc : c.cells[k]? = some v)
    (h : wpList Try.prog ops Q rest (a.put o.dst v) w) : wpList Try.prog ops Q (o :: rest) a w := wpList_get hw ty x ho hty b k hx v (H.at (List.mem_cons_of_mem _ (List.mem_cons_of_mem _ (List.mem_cons_of_mem _ (List.mem_cons_of_mem _ (List.mem_cons_self))))) k v hc) h
theorem wpList_get5 {p1 p2 p3 p4 p5 : Nat × Cor} {b : Nat} {c : Cor} (H : Own w0 (p1 :: p2 :: p3 :: p4 :: p5 :: (b, c) :: L) w) (hw : Region.wanted o (yielded ops a.tmps) = true) (ty : TypeId) (x : Operand) (ho : o.op = .load ty x) (k : Nat) (hx : a.eval x = .pointer (some ⟨b, k, none⟩)) (hty : ty = 22 ∨ ty = 3 ∨ ty = 4) (v : Value) (hc : c.cells[k]? = some v)
    (h : wpList Try.prog ops Q rest (a.put o.dst v) w) : wpList Try.prog ops Q (o :: rest) a w := wpList_get hw ty x ho hty b k hx v (H.at (List.mem_cons_of_mem _ (List.mem_cons_of_mem _ (List.mem_cons_of_mem _ (List.mem_cons_of_mem _ (List.mem_cons_of_mem _ (List.mem_cons_self)))))) k v hc) h
def xA (c : Cor) : Array Value := c.x.toArray.map vU
def spA (c : Cor) : Array Value := #[vU c.sp0, vU c.sp1]
theorem xA_at (c : Cor) (i : Nat) (hi : i < 31) : (xA c)[i]? = some (vU (c.x.toArray.getD i 0)) := by simp [xA, hi]
theorem x_range {c : Cor} {b : Nat} (hg : w.heap[b]? = some (.cells c.cells 26)) : w.rangeAt b 0 (xA c).toList := fun j v hv => by
  have hv' : (xA c)[j]? = some v := by simpa using hv
  have hj : j < 31 := by
    have := (Array.getElem?_eq_some_iff.1 hv').1
    simpa [xA] using this
  rw [Nat.zero_add, cell_of_row _ _ _ _ _ _ hg, c.atX j hj]
  rw [xA_at c j hj] at hv'
  rw [← hv']
  simp [hj]
theorem sp_range {c : Cor} {b : Nat} (hg : w.heap[b]? = some (.cells c.cells 26)) : w.rangeAt b 31 (spA c).toList := fun j v hv => by
  have hv' : (spA c)[j]? = some v := by simpa using hv
  have hj : j < 2 := by
    have := (Array.getElem?_eq_some_iff.1 hv').1
    simpa [spA] using this
  rw [cell_of_row _ _ _ _ _ _ hg]
  rcases (by omega : j = 0 ∨ j = 1) with rfl | rfl
  · rw [show 31 + 0 = 31 from rfl, c.a31]; exact hv'
  · rw [show 31 + 1 = 32 from rfl, c.a32]; exact hv'
theorem wpList_loadX {b : Nat} {c : Cor} (H : Own w0 L w) (hw : Region.wanted o (yielded ops a.tmps) = true) (x : Operand) (ho : o.op = .load 23 x) (hx : a.eval x = .pointer (some ⟨b, 0, none⟩)) (hm : (b, c) ∈ L)
    (h : wpList Try.prog ops Q rest (a.put o.dst (.agg (xA c))) w) : wpList Try.prog ops Q (o :: rest) a w := by
  refine BigFrame.wpList_want hw fun K hK => ?_
  have := run_loadAt_mid (P := Try.prog) w b 0 23 (xA c).toList _ (x_range (H.get hm)) Try.underlying23 rfl (by rw [info23]; simp [xA])
  unfold Oper.wp execOp
  simp only [ho, hx, Sem.run_bind, this, Result.andThen_ok]
  exact hK _ _ h
theorem wpList_loadSP {b : Nat} {c : Cor} (H : Own w0 L w) (hw : Region.wanted o (yielded ops a.tmps) = true) (x : Operand) (ho : o.op = .load 24 x) (hx : a.eval x = .pointer (some ⟨b, 31, none⟩)) (hm : (b, c) ∈ L)
    (h : wpList Try.prog ops Q rest (a.put o.dst (.agg (spA c))) w) : wpList Try.prog ops Q (o :: rest) a w := by
  refine BigFrame.wpList_want hw fun K hK => ?_
  have := run_loadAt_mid (P := Try.prog) w b 31 24 (spA c).toList _ (sp_range (H.get hm)) Try.underlying24 rfl (by rw [info24]; simp [spA])
  unfold Oper.wp execOp
  simp only [ho, hx, Sem.run_bind, this, Result.andThen_ok]
  exact hK _ _ h
theorem guard23 : Try.prog.eqGuardType Try.prog.depth 23 = false := by kernel_rfl
theorem guard24 : Try.prog.eqGuardType Try.prog.depth 24 = false := by kernel_rfl
theorem wpList_eqlX {c : Cor} (hw : Region.wanted o (yielded ops a.tmps) = true) (x y : Operand) (ho : o.op = .binOp .eql 23 x y 23) (hx : a.eval x = .agg (xA c)) (hy : a.eval y = .agg (xA c))
    (h : wpList Try.prog ops Q rest (a.put o.dst (.bool true)) w) : wpList Try.prog ops Q (o :: rest) a w := by
  refine BigFrame.wpList_want hw fun K hK => ?_
  have he := arr_eq 31 9998 23 Try.underlying23 (xA c) (xA c) (fun i => c.x.toArray.getD i 0) (fun i => c.x.toArray.getD i 0) w (fun i hi => ⟨xA_at c i (List.mem_range.1 hi), xA_at c i (List.mem_range.1 hi)⟩)
  have ht : ((List.range 31).all fun i => c.x.toArray.getD i 0 == c.x.toArray.getD i 0) = true := by simp
  rw [ht] at he
  unfold Oper.wp execOp
  simp only [ho, hx, hy, Sem.run_bind, run_eqGuard_agg w _ _ _ _ _ _ guard23, Result.andThen_ok, run_eql_struct, he]
  exact hK _ _ h
theorem wpList_eqlSP {c : Cor} (hw : Region.wanted o (yielded ops a.tmps) = true) (x y : Operand) (ho : o.op = .binOp .eql 24 x y 24) (hx : a.eval x = .agg (spA c)) (hy : a.eval y = .agg (spA c))
    (h : wpList Try.prog ops Q rest (a.put o.dst (.bool true)) w) : wpList Try.prog ops Q (o :: rest) a w := by
  refine BigFrame.wpList_want hw fun K hK => ?_
  have he := arr_eq 2 9998 24 Try.underlying24 (spA c) (spA c) (fun i => (#[c.sp0, c.sp1] : Array Int).getD i 0) (fun i => (#[c.sp0, c.sp1] : Array Int).getD i 0) w (fun i hi => by
    have hi := List.mem_range.1 hi
    rcases (by omega : i = 0 ∨ i = 1) with rfl | rfl <;> exact ⟨rfl, rfl⟩)
  have ht : ((List.range 2).all fun i => (#[c.sp0, c.sp1] : Array Int).getD i 0 == (#[c.sp0, c.sp1] : Array Int).getD i 0) = true := by simp
  rw [ht] at he
  unfold Oper.wp execOp
  simp only [ho, hx, hy, Sem.run_bind, run_eqGuard_agg w _ _ _ _ _ _ guard24, Result.andThen_ok, run_eql_struct, he]
  exact hK _ _ h
theorem relg_all {b : Nat} {c : Cor} (H : Own w0 L w) (x : Operand) (ho : o.op = .load 26 x) (hx : a.eval x = .pointer (some ⟨b, 0, none⟩)) (hm : (b, c) ∈ L) :
    RelG.relUpon Try.prog RelG.Grows (fun v _ => v = c.val) w ((execOp a.eval o).run Try.prog w) := by
  unfold execOp
  simp only [ho, hx, Instr.loadAt, Instr.sureAddr, Sem.run_bind, Sem.run_pure, Result.andThen_ok, run_all H hm]
  exact ⟨Below.refl _ _, rfl⟩
theorem relg_eql {c : Cor} (x y : Operand) (ho : o.op = .binOp .eql 26 x y 26) (hx : a.eval x = .agg c.cells) (hy : a.eval y = .agg c.cells) :
    RelG.relUpon Try.prog RelG.Grows (fun v _ => v = .bool true) w ((execOp a.eval o).run Try.prog w) := by
  have he := core_eq c c w
  rw [eqC_refl] at he
  unfold execOp
  simp only [ho, hx, hy, Sem.run_bind, run_eqGuard_agg w _ _ _ _ _ _ guard26, Result.andThen_ok, run_eql_struct, he]
  exact ⟨Below.refl _ _, rfl⟩
end
end Go.Proofs.Ytdlnmjlgfjlmkaa
