/- The statements' Cut of layer trim (24): readings kept few. -/
import Derived.Test.YtkcjllkhmncfdaaDoorTrmB
namespace Go.Proofs.YtkcjllkhmncfdaaDoor.Trm
open Go.ChangeShapes Go.WideShapes Go.ChangeAt Go.RowKit
open I64s (In64 Sl OwnL ListPost app_one app_all)
set_option linter.unusedVariables false
end Go.Proofs.YtkcjllkhmncfdaaDoor.Trm
