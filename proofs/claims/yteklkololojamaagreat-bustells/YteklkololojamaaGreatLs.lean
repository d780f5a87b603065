/- A script walked; strings of bytes. -/
import Derived.Test.YteklkololojamaaGreatBo
import Derived.Test.YteklkololojamaaGreatBn
import Derived.Test.YteklkololojamaaGreatSc
namespace Go.Proofs.YteklkololojamaaGreat
open Go.RowKit
set_option linter.unusedVariables false
set_option linter.unusedSimpArgs false
set_option maxRecDepth 8000

def Ch2 (w : World) (R : World → Prop) : Nat → World → Prop
  | 0, w' => Below w.heap.size w w'
  | 1, w' => Below w.heap.size w w'
  | 2, w' => R w'
  | _, _ => False
theorem ch2_below {w w' : World} {R : World → Prop} {j : Nat} (hj : j ≤ 1) (h : Ch2 w R j w') : Below w.heap.size w w' := by
  match j, hj with
  | 0, _ => exact h
  | 1, _ => exact h
/-- An entry of the script in a block of one's own. -/
def StAt (q : Nat) (o : St5) (w : World) : Prop := w.heap[q]? = some (.cells o.row.toArray 32)
section
variable {q : Nat} {o : St5} {w w' : World}
theorem StAt.grow (h : StAt q o w) (hb : Below w.heap.size w w') : StAt q o w' := by
  unfold StAt
  rw [hb.block q (lt_of_some h)]
  exact h
theorem StAt.c0 (h : StAt q o w) : w.cell? ⟨q, 0, none⟩ = some (vI o.k) := by rw [cell_of_row _ _ _ _ _ _ h]; rfl
theorem StAt.c1 (h : StAt q o w) : w.cell? ⟨q, 1, none⟩ = some (vI o.c) := by rw [cell_of_row _ _ _ _ _ _ h]; rfl
theorem StAt.c2 (h : StAt q o w) : w.cell? ⟨q, 2, none⟩ = some (vI o.l) := by rw [cell_of_row _ _ _ _ _ _ h]; rfl
theorem StAt.c3 (h : StAt q o w) : w.cell? ⟨q, 3, none⟩ = some (vI o.s) := by rw [cell_of_row _ _ _ _ _ _ h]; rfl
theorem StAt.c4 (h : StAt q o w) : w.cell? ⟨q, 4, none⟩ = some (vU o.v) := by rw [cell_of_row _ _ _ _ _ _ h]; rfl
end
theorem inf32' : (Tryz.prog.info? 32).map (·.size) = some 5 := by kernel_rfl
theorem st32 {ops : Array Oper} {rest : List Oper} {o : Oper} {a : Act} {w : World} {Q : Exit → Act → World → Prop} (hgd : o.guard = none) (x y : Operand) (ho : o.op = .store 32 x y) (b : Nat) (hx : a.eval x = ptr b 0) (s : St5) (C : Array Value) (hC : C.size = 5) (hy : a.eval y = s.val) (hg : w.heap[b]? = some (.cells C 32))
    (h : wpList Tryz.prog ops Q rest (a.put o.dst undef) (w.setRow b s.row.toArray)) : wpList Tryz.prog ops Q (o :: rest) a w :=
  wpList_store_row hgd 32 x y ho b s.row.toArray hx hy 32 _ hg inf32' hC (by simp [Value.oneCell', St5.row]) h
theorem Scr.at {w0 w : World} {v : Value} {ss : List St5} (h : Scr w0 v ss) (hb : Below w0.heap.size w0 w) {i : Nat} {s : St5} (hs : ss[i]? = some s) : ∃ ra cap, v = .slice (some ra) ss.length cap ∧ ∀ (j : Nat) x, s.row[j]? = some x → w.cell? ((ra.add (i * 5)).add j) = some x := by
  have hi := (List.getElem?_eq_some_iff.1 hs).1
  obtain ⟨ra, cap, e, hc⟩ := h.cell (by omega)
  exact ⟨ra, cap, e, fun j x hx => by rw [hb.cell (hc i s hs j x hx).1]; exact (hc i s hs j x hx).2⟩
theorem str_cat (p q : List Int) : strOfNums p ++ strOfNums q = strOfNums (p ++ q) := by
  apply ByteArray.ext
  simp [strOfNums]
theorem wpList_catB {ops : Array Oper} {rest : List Oper} {o : Oper} {a : Act} {w : World} {Q : Exit → Act → World → Prop} (hw : o.guard = none) (x y : Operand) (ho : o.op = .binOp .add 9 x y 9)
    (p q : List Int) (hx : a.eval x = .string (strOfNums p)) (hy : a.eval y = .string (strOfNums q)) (hl : p.length + q.length ≤ 100000)
    (h : wpList Tryz.prog ops Q rest (a.put o.dst (.string (strOfNums (p ++ q)))) w) : wpList Tryz.prog ops Q (o :: rest) a w := by
  refine wpList_plain hw fun K hK => ?_
  have e : (execOp a.eval o).run Tryz.prog w = .ok (.value (.string (strOfNums (p ++ q)))) w := by
    unfold execOp
    simp only [ho, hx, hy]
    have hc := str_cat p q
    have h1 := strOfNums_size p
    have h2 := strOfNums_size q
    go_simp
    omega
  unfold Oper.wp
  rw [e]
  exact hK _ _ h
theorem wpList_toStr {ops : Array Oper} {rest : List Oper} {o : Oper} {a : Act} {w : World} {Q : Exit → Act → World → Prop} (hw : o.guard = none) (x : Operand) (ho : o.op = .convert 60 9 x)
    (b c : Nat) (n : Int) (hx : a.eval x = .slice (some ⟨b, 0, none⟩) 1 c) (hc : w.cell? ⟨b, 0, none⟩ = some (vB n))
    (h : wpList Tryz.prog ops Q rest (a.put o.dst (.string (strOfNums [n]))) w) : wpList Tryz.prog ops Q (o :: rest) a w := by
  have hr := run_convert_bytes_arg w 60 5 Tryz.underlying60 Tryz.underlying5 b 0 1 c [n] rfl (fun i hi => by
    have : i = 0 := by omega
    subst this
    exact hc) 9 Tryz.underlying9
  refine wpList_plain hw fun K hK => ?_
  unfold Oper.wp execOp
  simp only [ho, hx, Sem.run_bind, Result.andThen_ok, hr]
  exact hK _ _ h
/-- What only SysSet does, or a word of a device, does not reach the console. -/
theorem set_out (n : Nat) (S : Bs) (core el sys : Int) (v : Nat) : (bsetS n S core el sys v).O = S.O := by
  unfold bsetS
  split
  · rfl
  · split
    · rename_i k _ _
      unfold swS
      split <;> rfl
    · rfl
theorem find7 : findK 150994944 = some 7 := by kernel_rfl
end Go.Proofs.YteklkololojamaaGreat
