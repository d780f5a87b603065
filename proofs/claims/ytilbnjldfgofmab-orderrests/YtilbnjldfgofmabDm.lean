/- The document's own Right: the fields. -/
import Derived.Test.YtilbnjldfgofmabDb
namespace Go.Proofs.Ytilbnjldfgofmab
open Go.RowKit
set_option linter.unusedVariables false
set_option linter.unusedSimpArgs false
set_option maxRecDepth 8000

def fieldB (o : Opr) : Bool := isK o.kind && (hasP o.kind 1 || o.r == 0) && (hasP o.kind 8 || o.order == 0) && (hasP o.kind 16 || o.imm == 0) && rangeB o
section
variable {r a b order imm : Int}
end
end Go.Proofs.Ytilbnjldfgofmab
