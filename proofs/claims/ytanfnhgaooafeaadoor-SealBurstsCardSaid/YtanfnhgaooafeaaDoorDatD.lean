/- A packet whose body is kept short (layer 10): the statements' Cut. -/
import Derived.Test.YtanfnhgaooafeaaDoorDatX
import Derived.Test.YtanfnhgaooafeaaDoorHedX
namespace Go.Proofs.YtanfnhgaooafeaaDoor.Dat
open Go.ChangeShapes Go.WideShapes Go.ChangeAt Go.RowKit Go.Deep
open Go.Proofs.YtanfnhgaooafeaaDoor.Byt Go.Proofs.YtanfnhgaooafeaaDoor.Key Go.Proofs.YtanfnhgaooafeaaDoor.Buf Go.Proofs.YtanfnhgaooafeaaDoor.Hed
set_option linter.unusedVariables false
set_option linter.unusedSimpArgs false
/-- The packet with another body. -/
def bodP (p : Pk) (ad : Option Addr) (cap : Nat) (body : List UInt8) : Pk := { p with ad := ad, cap := cap, body := body }
end Go.Proofs.YtanfnhgaooafeaaDoor.Dat
