/- Small answers of the document: Access, Defines, shape. -/
import Derived.Test.YtilbnjldfgofmabJb
namespace Go.Proofs.Ytilbnjldfgofmab
open Go.RowKit
set_option linter.unusedVariables false
set_option linter.unusedSimpArgs false
set_option maxRecDepth 8000

def accB (k : Int) : Bool := k == 9 || k == 10 || k == 11 || k == 12
def defsB (k : Int) : Bool := k == 1 || k == 2 || k == 4 || k == 6 || k == 8 || k == 9 || k == 11 || k == 12
def leavB (k : Int) : Bool := accB k || (decide (15 ≤ k) && decide (k ≤ 18))
def shpV (k : Int) : Int := if k = 3 ∨ k = 5 ∨ k = 7 ∨ k = 9 ∨ k = 11 ∨ k = 15 ∨ k = 17 then 1 else if k = 8 ∨ k = 10 ∨ k = 12 then 2 else 0
end Go.Proofs.Ytilbnjldfgofmab
