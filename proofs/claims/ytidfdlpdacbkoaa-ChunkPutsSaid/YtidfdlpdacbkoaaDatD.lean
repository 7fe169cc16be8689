/- A packet whose body is kept short (layer 10): the statements' Cut. -/
import Derived.Test.YtidfdlpdacbkoaaDatX
import Derived.Test.YtidfdlpdacbkoaaHedX
namespace Go.Proofs.Ytidfdlpdacbkoaa.Dat
open Go.ChangeShapes Go.WideShapes Go.ChangeAt Go.RowKit Go.Deep
open Go.Proofs.Ytidfdlpdacbkoaa.Byt Go.Proofs.Ytidfdlpdacbkoaa.Key Go.Proofs.Ytidfdlpdacbkoaa.Buf Go.Proofs.Ytidfdlpdacbkoaa.Hed
set_option linter.unusedVariables false
set_option linter.unusedSimpArgs false
/-- The packet with another body. -/
def bodP (p : Pk) (ad : Option Addr) (cap : Nat) (body : List UInt8) : Pk := { p with ad := ad, cap := cap, body := body }
end Go.Proofs.Ytidfdlpdacbkoaa.Dat
