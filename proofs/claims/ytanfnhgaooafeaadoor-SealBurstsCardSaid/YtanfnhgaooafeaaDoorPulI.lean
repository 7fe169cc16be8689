/- What stands behind a head, as bytes, the document's own (layer 11): Bytes. -/
import Derived.Test.YtanfnhgaooafeaaDoorPulX
import Derived.Test.YtanfnhgaooafeaaDoorDatZ
import Derived.Test.YtanfnhgaooafeaaDoorBufX
import Derived.Deep.RegionHeldLaw
namespace Go.Proofs.YtanfnhgaooafeaaDoor.Pul
open Go.ChangeShapes Go.WideShapes Go.ChangeAt Go.RowKit Go.Deep
open Go.Proofs.YtanfnhgaooafeaaDoor.Byt Go.Proofs.YtanfnhgaooafeaaDoor.Key Go.Proofs.YtanfnhgaooafeaaDoor.Buf Go.Proofs.YtanfnhgaooafeaaDoor.Hed Go.Proofs.YtanfnhgaooafeaaDoor.Dat Go.Proofs.YtanfnhgaooafeaaDoor.BufM
set_option linter.unusedVariables false
set_option linter.unusedSimpArgs false
/-- What stands behind a head. -/
def pulB (p : Pk) : List UInt8 := if p.kind = 1 then fixB (un p.stamp) 8 else if p.kind = 2 then fixB (un p.stamp) 8 ++ fixB (un p.value) 8 else sev (un p.no)
end Go.Proofs.YtanfnhgaooafeaaDoor.Pul
