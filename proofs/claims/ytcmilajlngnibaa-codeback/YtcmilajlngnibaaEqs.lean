/- Two instructions held against each other, as the machine does it. -/
import Derived.Test.YtcmilajlngnibaaPlainI
import Derived.Test.YtcmilajlngnibaaChecked
import Derived.Laws.StructEq
import Derived.WalkKit
import Derived.BigQuiet
namespace Go.Proofs.Ytcmilajlngnibaa
open Go.RowKit
set_option linter.unusedVariables false

def eqI (i j : Ins) : Bool := i.op == j.op && (i.sub == j.sub && (i.rd == j.rd && (i.rn == j.rn && (i.rm == j.rm && (i.ra == j.ra && (i.imm == j.imm && (i.imm2 == j.imm2 && (i.amount == j.amount && (i.shift == j.shift && (i.cond == j.cond && (i.sys == j.sys && (i.flags == j.flags && (i.minus == j.minus && (i.not == j.not && (i.link == j.link)))))))))))))))
theorem eqI_iff (i j : Ins) : eqI i j = true ↔ i = j := by
  obtain ⟨op, sub, rd, rn, rm, ra, imm, imm2, amount, shift, cond, sys, flags, minus, not, link⟩ := i
  obtain ⟨op', sub', rd', rn', rm', ra', imm', imm2', amount', shift', cond', sys', flags', minus', not', link'⟩ := j
  simp only [eqI, Bool.and_eq_true, beq_iff_eq, Ins.mk.injEq]
theorem stood25 : Try.prog.stoodInHeld 25 = false := by kernel_rfl
theorem fields25 : Try.prog.underlying 25 = some (.struct (Try.prog.fieldsOf 25)) := by rw [Program.fieldsOf, Try.underlying25]
theorem eqField {d : Nat} {xs ys : Array Value} {f : Field} {fs : List Field} {r s : Bool} (w : World) (hn : f.name ≠ "_")
    (h : ((part f.type xs f.offset).run Try.prog w).andThen (fun a w1 => ((part f.type ys f.offset).run Try.prog w1).andThen fun b w2 => (Op.equalIn d f.type a b).run Try.prog w2) = .ok r w)
    (hs : (Op.eqFields d xs ys fs).run Try.prog w = .ok s w) : (Op.eqFields d xs ys (f :: fs)).run Try.prog w = .ok (r && s) w := by
  simp only [Op.eqFields, if_pos hn, Sem.run_bind]
  generalize (part f.type xs f.offset).run Try.prog w = r1 at h ⊢
  cases r1 with
  | ok a w1 =>
    simp only [Result.andThen_ok] at h ⊢
    generalize (part f.type ys f.offset).run Try.prog w1 = r2 at h ⊢
    cases r2 with
    | ok b w2 =>
      simp only [Result.andThen_ok] at h ⊢
      rw [h]
      cases r
      · simp
      · simpa using hs
    | halt x w2 => simp [Result.andThen] at h
  | halt x w1 => simp [Result.andThen] at h
set_option maxRecDepth 4000 in
set_option maxHeartbeats 1000000 in
theorem insn_eq (i j : Ins) (w : World) : (Op.equalIn 10000 25 i.val j.val).run Try.prog w = .ok (eqI i j) w := by
  rw [run_equalIn_agg w 9999 25 _ _ fields25 stood25]
  rw [show (Try.prog.fieldsOf 25).toList = [⟨"Op", 3, 0, false, "", "", 0⟩, ⟨"Sub", 3, 1, false, "", "", 8⟩, ⟨"Rd", 3, 2, false, "", "", 16⟩, ⟨"Rn", 3, 3, false, "", "", 24⟩, ⟨"Rm", 3, 4, false, "", "", 32⟩, ⟨"Ra", 3, 5, false, "", "", 40⟩, ⟨"Imm", 3, 6, false, "", "", 48⟩, ⟨"Imm2", 3, 7, false, "", "", 56⟩, ⟨"Amount", 3, 8, false, "", "", 64⟩, ⟨"Shift", 3, 9, false, "", "", 72⟩, ⟨"Cond", 3, 10, false, "", "", 80⟩, ⟨"Sys", 3, 11, false, "", "", 88⟩, ⟨"Flags", 4, 12, false, "", "", 96⟩, ⟨"Minus", 4, 13, false, "", "", 97⟩, ⟨"Not", 4, 14, false, "", "", 98⟩, ⟨"Link", 4, 15, false, "", "", 99⟩] by rw [Program.fieldsOf, Try.underlying25]]
  refine (eqField (r := i.op == j.op) w (by decide) ?_ (eqField (r := i.sub == j.sub) w (by decide) ?_ (eqField (r := i.rd == j.rd) w (by decide) ?_ (eqField (r := i.rn == j.rn) w (by decide) ?_ (eqField (r := i.rm == j.rm) w (by decide) ?_ (eqField (r := i.ra == j.ra) w (by decide) ?_ (eqField (r := i.imm == j.imm) w (by decide) ?_ (eqField (r := i.imm2 == j.imm2) w (by decide) ?_ (eqField (r := i.amount == j.amount) w (by decide) ?_ (eqField (r := i.shift == j.shift) w (by decide) ?_ (eqField (r := i.cond == j.cond) w (by decide) ?_ (eqField (r := i.sys == j.sys) w (by decide) ?_ (eqField (r := i.flags == j.flags) w (by decide) ?_ (eqField (r := i.minus == j.minus) w (by decide) ?_ (eqField (r := i.not == j.not) w (by decide) ?_ (eqField (r := i.link == j.link) w (by decide) ?_ ((rfl : (Op.eqFields 9999 i.cells j.cells []).run Try.prog w = .ok true w)))))))))))))))))).trans ?_
  · go_simp
  · go_simp
  · go_simp
  · go_simp
  · go_simp
  · go_simp
  · go_simp
  · go_simp
  · go_simp
  · go_simp
  · go_simp
  · go_simp
  · go_simp
  · go_simp
  · go_simp
  · go_simp
  · simp only [eqI, Bool.and_true]

theorem guard25 : Try.prog.eqGuardType Try.prog.depth 25 = false := by kernel_rfl
theorem wpList_eql_insn {ops : Array Oper} {rest : List Oper} {o : Oper} {a : Act} {w : World} {Q : Exit → Act → World → Prop} (hw : Region.wanted o (yielded ops a.tmps) = true) (x y : Operand) (ho : o.op = .binOp .eql 25 x y 25)
    (i j : Ins) (hx : a.eval x = .agg i.cells) (hy : a.eval y = .agg j.cells) (b : Bool) (hb : eqI i j = b) (h : wpList Try.prog ops Q rest (a.put o.dst (.bool b)) w) : wpList Try.prog ops Q (o :: rest) a w := by
  refine BigFrame.wpList_want hw fun K hK => ?_
  have he := insn_eq i j w
  rw [hb] at he
  unfold Oper.wp execOp
  simp only [ho, hx, hy, Sem.run_bind, run_eqGuard_agg w _ _ _ _ _ _ guard25, Result.andThen_ok, run_eql_struct, he]
  exact hK _ _ h
theorem wpList_neq_insn {ops : Array Oper} {rest : List Oper} {o : Oper} {a : Act} {w : World} {Q : Exit → Act → World → Prop} (hw : Region.wanted o (yielded ops a.tmps) = true) (x y : Operand) (ho : o.op = .binOp .neq 25 x y 25)
    (i j : Ins) (hx : a.eval x = .agg i.cells) (hy : a.eval y = .agg j.cells) (b : Bool) (hb : eqI i j = b) (h : wpList Try.prog ops Q rest (a.put o.dst (.bool (!b))) w) : wpList Try.prog ops Q (o :: rest) a w := by
  refine BigFrame.wpList_want hw fun K hK => ?_
  have he := insn_eq i j w
  rw [hb] at he
  unfold Oper.wp execOp
  simp only [ho, hx, hy, Sem.run_bind, run_eqGuard_agg w _ _ _ _ _ _ guard25, Result.andThen_ok, run_neq_struct, he]
  exact hK _ _ h
end Go.Proofs.Ytcmilajlngnibaa
