/- Contracts of package span (layer 1) and of the document's own answers for it: products and quotients. -/
import Derived.Test.YtkcjllkhmncfdaaDoorSpanA
import Derived.BigQuiet
import Derived.Deep.QuietTactic
namespace Go.Proofs.YtkcjllkhmncfdaaDoor.Span
open Go.ChangeShapes Go.WideShapes Go.ChangeAt Go.RowKit
set_option linter.unusedVariables false

/-- Quotients, rounded down and rounded up, with whether there is one. -/
def divV (a b : Int) : Int := if b = 0 then 0 else fitV (a.fdiv b)
def divB (a b : Int) : Bool := if b = 0 then false else fitB (a.fdiv b)
def upV (a b : Int) : Int := if b = 0 then 0 else fitV (Math.cdiv a b)
def upB (a b : Int) : Bool := if b = 0 then false else fitB (Math.cdiv a b)

end Go.Proofs.YtkcjllkhmncfdaaDoor.Span
