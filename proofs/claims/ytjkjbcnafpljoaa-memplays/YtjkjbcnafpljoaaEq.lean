/- Two stores held against each other. -/
import Derived.Test.YtjkjbcnafpljoaaLc
import Derived.Laws.StructEq
import Derived.ChangeKeysEq
namespace Go.Proofs.Ytjkjbcnafpljoaa
open Go.RowKit
set_option linter.unusedVariables false
set_option linter.unusedSimpArgs false

def eqL (c d : Lt) : Bool := c.a == d.a && (c.v == d.v && c.t == d.t)
theorem eqL_refl (c : Lt) : eqL c c = true := by simp [eqL]
theorem stood59 : Try.prog.stoodInHeld 59 = false := by kernel_rfl
theorem guard59 : Try.prog.eqGuardType Try.prog.depth 59 = false := by kernel_rfl
theorem fields59 : Try.prog.underlying 59 = some (.struct (Try.prog.fieldsOf 59)) := by rw [Program.fieldsOf, Try.underlying59]
theorem eqField {d : Nat} {xs ys : Array Value} {f : Field} {fs : List Field} {r s : Bool} (w : World) (hn : f.name ≠ "_")
    (h : ((part f.type xs f.offset).run Try.prog w).andThen (fun a w1 => ((part f.type ys f.offset).run Try.prog w1).andThen fun b w2 => (Op.equalIn d f.type a b).run Try.prog w2) = .ok r w)
    (hs : (Op.eqFields d xs ys fs).run Try.prog w = .ok s w) : (Op.eqFields d xs ys (f :: fs)).run Try.prog w = .ok (r && s) w := by
  simp only [Op.eqFields, if_pos hn, Sem.run_bind]
  generalize (part f.type xs f.offset).run Try.prog w = r1 at h ⊢
  cases r1 with
  | ok a w1 =>
    simp only [Result.andThen_ok] at h ⊢
    generalize (part f.type ys f.offset).run Try.prog w1 = r2 at h ⊢
    cases r2 with
    | ok b w2 =>
      simp only [Result.andThen_ok] at h ⊢
      rw [h]
      cases r
      · simp
      · simpa using hs
    | halt x w2 => simp [Result.andThen] at h
  | halt x w1 => simp [Result.andThen] at h
theorem part_u (xs : Array Value) (k : Nat) (v : Value) (w : World) (h : xs[k]? = some v) : (part 28 xs k).run Try.prog w = .ok v w := by
  simp [part, isAgg, run_underlying Try.underlying28, h]
theorem part_i (xs : Array Value) (k : Nat) (v : Value) (w : World) (h : xs[k]? = some v) : (part 3 xs k).run Try.prog w = .ok v w := by
  simp [part, isAgg, run_underlying Try.underlying3, h]
theorem lt_eq (c d : Lt) (w : World) : (Op.equalIn 10000 59 c.val d.val).run Try.prog w = .ok (eqL c d) w := by
  rw [run_equalIn_agg w 9999 59 _ _ fields59 stood59]
  rw [show (Try.prog.fieldsOf 59).toList = [⟨"Addr", 28, 0, false, "", "", 0⟩, ⟨"Value", 28, 1, false, "", "", 8⟩, ⟨"Ticket", 3, 2, false, "", "", 16⟩] by kernel_rfl]
  have e : eqL c d = (c.a == d.a && (c.v == d.v && (c.t == d.t && true))) := by simp [eqL]
  rw [e]
  refine eqField (r := c.a == d.a) w (by decide) ?_ (eqField (r := c.v == d.v) w (by decide) ?_ (eqField (r := c.t == d.t) w (by decide) ?_ ?_))
  · simp only [part_u c.cells 0 (vU c.a) _ rfl, part_u d.cells 0 (vU d.a) _ rfl, Result.andThen_ok, run_equalIn_int w 9998 28 .u64 .u64 _ _ Try.underlying28]
  · simp only [part_u c.cells 1 (vU c.v) _ rfl, part_u d.cells 1 (vU d.v) _ rfl, Result.andThen_ok, run_equalIn_int w 9998 28 .u64 .u64 _ _ Try.underlying28]
  · simp only [part_i c.cells 2 (vI c.t) _ rfl, part_i d.cells 2 (vI d.t) _ rfl, Result.andThen_ok, run_equalIn_int w 9998 3 .i64 .i64 _ _ Try.underlying3]
  · simp [Op.eqFields]
theorem wpList_eql_lt {ops : Array Oper} {rest : List Oper} {o : Oper} {a : Act} {w : World} {Q : Exit → Act → World → Prop} (hw : Region.wanted o (yielded ops a.tmps) = true) (x y : Operand) (ho : o.op = .binOp .eql 59 x y 59)
    (a1 v1 t1 a2 v2 t2 : Int) (hx : a.eval x = .agg #[vU a1, vU v1, vI t1]) (hy : a.eval y = .agg #[vU a2, vU v2, vI t2]) (h : wpList Try.prog ops Q rest (a.put o.dst (.bool (eqL ⟨a1, v1, t1⟩ ⟨a2, v2, t2⟩))) w) : wpList Try.prog ops Q (o :: rest) a w := by
  refine BigFrame.wpList_want hw fun K hK => ?_
  have he := lt_eq ⟨a1, v1, t1⟩ ⟨a2, v2, t2⟩ w
  unfold Oper.wp execOp
  simp only [ho, hx, hy, Sem.run_bind, run_eqGuard_agg w _ _ _ _ _ _ guard59, Result.andThen_ok, run_eql_struct, he]
  exact hK _ _ h
theorem wpList_neq_lt {ops : Array Oper} {rest : List Oper} {o : Oper} {a : Act} {w : World} {Q : Exit → Act → World → Prop} (hw : Region.wanted o (yielded ops a.tmps) = true) (x y : Operand) (ho : o.op = .binOp .neq 59 x y 59)
    (a1 v1 t1 a2 v2 t2 : Int) (hx : a.eval x = .agg #[vU a1, vU v1, vI t1]) (hy : a.eval y = .agg #[vU a2, vU v2, vI t2]) (h : wpList Try.prog ops Q rest (a.put o.dst (.bool (!(eqL ⟨a1, v1, t1⟩ ⟨a2, v2, t2⟩)))) w) : wpList Try.prog ops Q (o :: rest) a w := by
  refine BigFrame.wpList_want hw fun K hK => ?_
  have he := lt_eq ⟨a1, v1, t1⟩ ⟨a2, v2, t2⟩ w
  unfold Oper.wp execOp
  simp only [ho, hx, hy, Sem.run_bind, run_eqGuard_agg w _ _ _ _ _ _ guard59, Result.andThen_ok, run_neq_struct, he]
  exact hK _ _ h
end Go.Proofs.Ytjkjbcnafpljoaa
