/- AgendaPlays, walked in declarations (layer 8): the piece of the code that parts by the act's kind. Made by wip/gen/agp_cut.py. -/
import Derived.Test.YtliblcjfccijjaaAgdZ
import Derived.Test.YtliblcjfccijjaaAgdV
import Derived.Test.YtliblcjfccijjaaAgdI
import Derived.Test.YtliblcjfccijjaaAgdT
import Derived.Deep.CutRange
import Derived.Deep.CutBlock
import Derived.Deep.RegionWith
namespace Go.Proofs.Ytliblcjfccijjaa.AgdL
open Go.ChangeShapes Go.WideShapes Go.ChangeAt Go.RowKit
open Go.Proofs.Ytliblcjfccijjaa.Rw Go.Proofs.Ytliblcjfccijjaa.Agd
open Go.Proofs.Ytliblcjfccijjaa.AgdR (encW encW_len RdR OwnR aval at2)
set_option linter.unusedVariables false
set_option linter.unusedSimpArgs false
/-- Block n of a code. -/
def findBlock (n : Nat) : Code → Option Code
  | .block m c => if m == n then some (.block m c) else findBlock n c
  | .loop c => findBlock n c
  | .scope c => findBlock n c
  | .seq a b => match findBlock n a with
    | some c => some c
    | none => findBlock n b
  | .cond _ a b => match findBlock n a with
    | some c => some c
    | none => findBlock n b
  | _ => none
noncomputable def blk2 : Code := (Try.f8.body.bind (findBlock 2)).getD .skip
end Go.Proofs.Ytliblcjfccijjaa.AgdL
