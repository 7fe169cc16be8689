/- A packet whose body is kept short (layer 10): the statements' Cut. -/
import Derived.Test.YtanfnhgaooafeaaGreatDoorDatX
import Derived.Test.YtanfnhgaooafeaaGreatDoorHedX
namespace Go.Proofs.YtanfnhgaooafeaaGreatDoor.Dat
open Go.ChangeShapes Go.WideShapes Go.ChangeAt Go.RowKit Go.Deep
open Go.Proofs.YtanfnhgaooafeaaGreatDoor.Byt Go.Proofs.YtanfnhgaooafeaaGreatDoor.Key Go.Proofs.YtanfnhgaooafeaaGreatDoor.Buf Go.Proofs.YtanfnhgaooafeaaGreatDoor.Hed
set_option linter.unusedVariables false
set_option linter.unusedSimpArgs false
/-- The packet with another body. -/
def bodP (p : Pk) (ad : Option Addr) (cap : Nat) (body : List UInt8) : Pk := { p with ad := ad, cap := cap, body := body }
end Go.Proofs.YtanfnhgaooafeaaGreatDoor.Dat
