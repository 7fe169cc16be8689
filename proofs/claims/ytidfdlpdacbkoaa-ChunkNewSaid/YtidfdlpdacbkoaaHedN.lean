/- A head is read (layer 9): Get; of a reader that is nil. -/
import Derived.Test.YtidfdlpdacbkoaaHedM
namespace Go.Proofs.Ytidfdlpdacbkoaa.Hed
open Go.ChangeShapes Go.WideShapes Go.ChangeAt Go.RowKit Go.Deep
open Go.Proofs.Ytidfdlpdacbkoaa.Byt Go.Proofs.Ytidfdlpdacbkoaa.Key Go.Proofs.Ytidfdlpdacbkoaa.Buf Go.Proofs.Ytidfdlpdacbkoaa.BufM
set_option linter.unusedVariables false
set_option linter.unusedSimpArgs false
/-- What Get hands back. -/
def ht (s : St) : Pk × Int := if (gt s).2.1 = 0 then ((gt s).1, 0) else (zero, (gt s).2.1)
end Go.Proofs.Ytidfdlpdacbkoaa.Hed
