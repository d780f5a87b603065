/- What an operation makes of the document's run: plain. -/
import Derived.Test.YtejlmggfeejgpaaXa
import Derived.Test.YtejlmggfeejgpaaXd
import Derived.Test.YtejlmggfeejgpaaJc
import Derived.StillTail
import Derived.StillTactics
namespace Go.Proofs.Ytejlmggfeejgpaa
open Go.RowKit
set_option linter.unusedVariables false
set_option linter.unusedSimpArgs false
set_option maxRecDepth 8000

def dOne (el : Int) (E : Dn) (o : Opr) : Dn :=
  match o.kind.toNat with
  | 1 => E.define o.imm
  | 2 => E.define (E.x o.r)
  | 3 => E.setX o.r (E.val o.a)
  | 4 => E.define (E.sp el)
  | 5 => E.setSP el (E.val o.a)
  | 6 => E.define (oneV (E.flag o.r))
  | 7 => E.setF o.r (E.val o.a != 0)
  | 8 => E.define (Alu.reckonV o.r (E.val o.a) (E.val o.b))
  | 13 => E.wait { nilW with kind := 6, fence := o.r }
  | 14 => E.pc o.imm
  | 15 => if (E.val o.a != 0) = true then (E.pc o.imm).out else E
  | 16 => (E.pc o.imm).out
  | 17 => (E.pc (E.val o.a)).out
  | 18 => ({ E with word := o.imm, guest := true } : Dn).out
  | _ => E.acc o (E.val o.a) (E.val o.b)
end Go.Proofs.Ytejlmggfeejgpaa
