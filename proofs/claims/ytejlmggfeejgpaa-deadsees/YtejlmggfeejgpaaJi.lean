/- Take, Core, Guest, Faulted. -/
import Derived.Test.YtejlmggfeejgpaaJc
namespace Go.Proofs.Ytejlmggfeejgpaa
open Go.RowKit
set_option linter.unusedVariables false
set_option linter.unusedSimpArgs false
set_option maxRecDepth 8000

section
variable {l : List Opr} {g vb : Nat} {so : Value} {S : Rn} {w w' : World}
/-- Where a run is behind Take. -/
def takeV (n : Nat) (S : Rn) (t : Gt) : Rn :=
  match S.go with
  | 0 => S
  | 1 => ((S.wait nilW 0).define t.value).told n t
  | 2 => (S.wait nilW 0).told n t
  | 3 => ((S.wait nilW 0).define (oneV (!t.ok))).told n t
  | _ => S.wait nilW 0
def takeE (S : Rn) : Int := if S.go = 0 then 1 else 0
end
end Go.Proofs.Ytejlmggfeejgpaa
