/- Registers of a run. -/
import Derived.Test.YtejlmggfeejgpaaJc
namespace Go.Proofs.Ytejlmggfeejgpaa
open Go.RowKit
set_option linter.unusedVariables false
set_option linter.unusedSimpArgs false
set_option maxRecDepth 8000

section
variable {l : List Opr} {g vb : Nat} {so : Value} {S : Rn} {w w' : World} {r a b order imm : Int}

set_option maxHeartbeats 2000000 in
def Ph3 (A B : World → Prop) : Nat → World → Prop
  | 0 => A
  | 1 => A
  | _ + 2 => B

end
end Go.Proofs.Ytejlmggfeejgpaa
