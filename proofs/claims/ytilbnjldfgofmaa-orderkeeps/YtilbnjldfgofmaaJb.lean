/- Small steps of a run. -/
import Derived.Test.YtilbnjldfgofmaaJa
namespace Go.Proofs.Ytilbnjldfgofmaa
open Go.RowKit
set_option linter.unusedVariables false
set_option linter.unusedSimpArgs false
set_option maxRecDepth 8000

theorem chn_store {o : Oper} {a : Act} {w w2 : World} {C : World → Prop} (ty : TypeId) (x y : Operand) (ho : o.op = .store ty x y) (b k : Nat) (hx : a.eval x = .pointer (some ⟨b, k, none⟩)) (v : Value) (hy : a.eval y = v) (hrun : (storeVar ty ⟨b, k, none⟩ v).run Try.prog w = .ok () w2) (hC : C w2) :
    Chn.upon Try.prog (fun v w' => v = undef ∧ C w') w ((execOp a.eval o).run Try.prog w) := by
  unfold execOp
  simp only [ho, hx, hy, Instr.storeAt, Instr.sureAddr, Sem.run_bind, Sem.run_pure, Result.andThen_ok, hrun]
  exact ⟨rfl, hC⟩
theorem run_cell (w : World) (ty : TypeId) (b k : Nat) (v old : Value) (hi : (Try.prog.info? ty).map (·.size) = some 1) (hv : v.oneCell' = true) (hv2 : v.cells = #[v]) (hc : w.cell? ⟨b, k, none⟩ = some old) (hf : w.frozen? ⟨b, k, none⟩ = false) : (storeVar ty ⟨b, k, none⟩ v).run Try.prog w = .ok () (w.setCell ⟨b, k, none⟩ v) := by
  have hst : (store ⟨b, k, none⟩ v .plain).run Try.prog w = .ok () (w.setCell ⟨b, k, none⟩ v) := by
    rw [run_store Try.prog w _ _ _ hv, hc, hf]; rfl
  cases hq : Try.prog.info? ty with
  | none => simp [hq] at hi
  | some i =>
    have hs : i.size = 1 := by simpa [hq] using hi
    have hadd : (⟨b, k, none⟩ : Addr).add 0 = ⟨b, k, none⟩ := by unfold Addr.add; split <;> simp_all
    simp [storeVar, sizeOf, typeInfo, hq, hs, hv2, storeCells, hadd, hst]
theorem inf3 : (Try.prog.info? 3).map (·.size) = some 1 := by kernel_rfl
theorem inf4 : (Try.prog.info? 4).map (·.size) = some 1 := by kernel_rfl
theorem inf22 : (Try.prog.info? 22).map (·.size) = some 1 := by kernel_rfl
theorem inf49 : (Try.prog.info? 103).map (·.size) = some 1 := by kernel_rfl
section
variable {l : List Opr} {g vb : Nat} {so : Value} {S : Rn} {w w' : World}
theorem wpList_storeC {ops : Array Oper} {rest : List Oper} {o : Oper} {a : Act} {w : World} {Q : Exit → Act → World → Prop} (hgd : o.guard = none) (ty : TypeId) (x y : Operand) (ho : o.op = .store ty x y) (b k : Nat) (hx : a.eval x = ptr b k) (v : Value) (hy : a.eval y = v) (hi : (Try.prog.info? ty).map (·.size) = some 1) (h1 : v.oneCell' = true) (h2 : v.cells = #[v]) {old : Value} (hc : w.cell? ⟨b, k, none⟩ = some old) (hf : w.frozen? ⟨b, k, none⟩ = false)
    (h : wpList Try.prog ops Q rest (a.put o.dst undef) (w.setCell ⟨b, k, none⟩ v)) : wpList Try.prog ops Q (o :: rest) a w := by
  refine wpList_plain hgd fun K hK => ?_
  unfold Oper.wp execOp
  simp only [ho, hx, hy, Instr.storeAt, Instr.sureAddr, Sem.run_bind, Sem.run_pure, Result.andThen_ok, run_cell w ty b k v old hi h1 h2 hc hf]
  exact hK _ _ h
def Ph (A B : World → Prop) : Nat → World → Prop
  | 0 => A
  | _ + 1 => B
def Rn.define (S : Rn) (v : Int) : Rn := { S with vs := S.vs.set (S.next - 1) v }
def Rn.leave (S : Rn) (n : Nat) (pc : Int) : Rn := { S with c := { S.c with pc := pc }, next := n }
def Rn.fault (S : Rn) (n : Nat) : Rn := { S with flt := true, next := n }
def Rn.guestOut (S : Rn) (n : Nat) (word : Int) : Rn := { S with word := word, guest := true, next := n }
def Rn.wait (S : Rn) (k : Wnt) (f : Nat) : Rn := { S with w := k, go := f }
end
section
variable {l : List Opr} {g vb : Nat} {so : Value} {S : Rn} {w w' : World}
set_option maxHeartbeats 1000000 in
def oneV : Bool → Int
  | true => 1
  | false => 0
theorem oneV_u (b : Bool) : U64 (oneV b) := by cases b <;> exact ⟨by decide, by decide⟩
def acqV (n : Int) : Int := if n = 1 then 1 else if n = 2 then 2 else 0
def Rn.told (S : Rn) (n : Nat) (t : Gt) : Rn := if t.fault = 0 then S else S.fault n
end
end Go.Proofs.Ytilbnjldfgofmaa
