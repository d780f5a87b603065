/- What an operation does, plainly. -/
import Derived.Test.YtejlmggfeejgpaaJb
import Derived.Test.YtejlmggfeejgpaaXd
namespace Go.Proofs.Ytejlmggfeejgpaa
open Go.RowKit
set_option linter.unusedVariables false
set_option linter.unusedSimpArgs false
set_option maxRecDepth 8000

section
variable {l : List Opr} {g vb : Nat} {so : Value} {S : Rn} {w w' : World}
def Rn.val (S : Rn) (a : Int) : Int := S.vs.getD a.toNat 0
def Rn.x (S : Rn) (r : Int) : Int := S.c.x.toArray.getD r.toNat 0
def Rn.setX (S : Rn) (r : Int) (v : Int) : Rn := { S with c := { S.c with x := S.c.x.setIfInBounds r.toNat v } }
def Rn.sp (S : Rn) : Int := if S.c.el = 0 then S.c.sp0 else S.c.sp1
def Rn.setSP (S : Rn) (v : Int) : Rn := if S.c.el = 0 then { S with c := { S.c with sp0 := v } } else { S with c := { S.c with sp1 := v } }
def Rn.flag (S : Rn) (r : Int) : Bool := if r = 0 then S.c.n else if r = 1 then S.c.z else if r = 2 then S.c.c else S.c.v
def Rn.setF (S : Rn) (r : Int) (b : Bool) : Rn := if r = 0 then { S with c := { S.c with n := b } } else if r = 1 then { S with c := { S.c with z := b } } else if r = 2 then { S with c := { S.c with c := b } } else { S with c := { S.c with v := b } }
def Rn.acc (S : Rn) (n : Nat) (a : Int) (k : Wnt) (f : Nat) : Rn := if a % 8 = 0 then S.wait k f else S.fault n
def carryV (n : Nat) (S : Rn) (o : Opr) : Rn :=
  match o.kind.toNat with
  | 1 => S.define o.imm
  | 2 => S.define (S.x o.r)
  | 3 => S.setX o.r (S.val o.a)
  | 4 => S.define S.sp
  | 5 => S.setSP (S.val o.a)
  | 6 => S.define (oneV (S.flag o.r))
  | 7 => S.setF o.r (S.val o.a != 0)
  | 8 => S.define (Alu.reckonV o.r (S.val o.a) (S.val o.b))
  | 9 => S.acc n (S.val o.a) { nilW with kind := 1, addr := S.val o.a, acq := acqV o.order } 1
  | 10 => S.acc n (S.val o.a) { nilW with kind := 2, addr := S.val o.a, value := S.val o.b, rel := o.order == 4 } 2
  | 11 => S.acc n (S.val o.a) { nilW with kind := 3, addr := S.val o.a, acq := acqV o.order } 1
  | 12 => S.acc n (S.val o.a) { nilW with kind := 4, addr := S.val o.a, value := S.val o.b, rel := o.order == 4 } 3
  | 13 => S.wait { nilW with kind := 6, fence := o.r } 4
  | 14 => { S with c := { S.c with pc := o.imm } }
  | 15 => if (S.val o.a != 0) = true then S.leave n o.imm else S
  | 16 => S.leave n o.imm
  | 17 => S.leave n (S.val o.a)
  | 18 => S.guestOut n o.imm
  | _ => S
/-- What an operation of a right block is. -/
structure OpFit (l : List Opr) (o : Opr) : Prop where
  k : isK o.kind = true
  a : hasP o.kind 2 = true → 0 ≤ o.a ∧ o.a < l.length
  b : hasP o.kind 4 = true → 0 ≤ o.b ∧ o.b < l.length
  rng : rangeB o = true
  imm : U64 o.imm
end
end Go.Proofs.Ytejlmggfeejgpaa
