/- Contracts of the statements' own helpers (layer 16): are two lists of links the same; is a graph the document's; the chapter's example. -/
import Derived.Test.YtbgigimapogkcaaDoorGrfG
import Derived.Test.YtbgigimapogkcaaDoorGrfS
import Derived.BigRegion
import Derived.Deep.RegionHeldLaw
import Derived.Deep.Cut
namespace Go.Proofs.YtbgigimapogkcaaDoor.Grf
open Go.ChangeShapes Go.WideShapes Go.ChangeAt Go.RowKit
set_option linter.unusedVariables false
set_option maxRecDepth 100000
set_option linter.unusedSimpArgs false
@[go_sem] theorem eq2 (a b : Int) (w : World) : (Op.equalIn 10000 55 (.agg #[.int .i64 a, .int .i64 b]) (.agg #[.int .i64 a, .int .i64 b])).run Tryd.prog w = .ok true w := by
  obtain ⟨i, hi⟩ := Option.isSome_iff_exists.1 (show (Tryd.prog.info? 3).isSome = true from by kernel_rfl)
  rw [run_equalIn_array w 9999 _ _ Tryd.underlying55 hi]
  rw [show List.range 2 = [0,1] from rfl, show Tryd.prog.cellsOf 3 = 1 from by kernel_rfl]
  simp [Op.eqItems, part, go_sem]
def ex : List Pr := [(0, 1), (2, 1)]
theorem ex_er : erF 3 [] ex = 0 := by decide +kernel
theorem ex_links : linksL 3 ex = [(0, 1), (1, 2)] := by decide +kernel
theorem ex_near : nearP ex 1 = 5 := by decide +kernel
end Go.Proofs.YtbgigimapogkcaaDoor.Grf
