/- Contracts of the document's own sort (layer 24). -/
import Derived.Test.YtkcjllkhmncfdaaDoorTrmA
namespace Go.Proofs.YtkcjllkhmncfdaaDoor.Trm
open Go.ChangeShapes Go.WideShapes Go.ChangeAt Go.RowKit
open I64s (In64 Sl OwnL ListPost app_one)
set_option linter.unusedVariables false
theorem own_lit (w : World) : OwnL (w.alloc (.cells #[] 2)) w.heap.size (.slice (some ⟨w.heap.size, 0, none⟩) 0 0) [] := World.ownsRow_lit (size := 1) w #[] 0 (Nat.le_refl _) (by unfold maxLen; omega) rfl
end Go.Proofs.YtkcjllkhmncfdaaDoor.Trm
