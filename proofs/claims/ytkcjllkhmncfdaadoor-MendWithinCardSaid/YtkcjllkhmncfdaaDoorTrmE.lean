/- The statements' helper same of layer trim (24); the chapter's example. -/
import Derived.Test.YtkcjllkhmncfdaaDoorTrmD
import Derived.Test.YtkcjllkhmncfdaaDoorTrmG
namespace Go.Proofs.YtkcjllkhmncfdaaDoor.Trm
open Go.ChangeShapes Go.WideShapes Go.ChangeAt Go.RowKit
open I64s (In64 Sl OwnL ListPost app_one app_all)
set_option linter.unusedVariables false
/-- The example's readings. -/
def exL : List Int := [5, -100, 7, 6]
theorem ex_sl (w : World) : Sl (w.alloc (.cells #[.int .i64 5, .int .i64 (-100), .int .i64 7, .int .i64 6] 2)) (some ⟨w.heap.size, 0, none⟩) 4 exL := by
  have h : OwnL (w.alloc (.cells #[.int .i64 5, .int .i64 (-100), .int .i64 7, .int .i64 6] 2)) w.heap.size (.slice (some ⟨w.heap.size, 0, none⟩) 4 4) exL := World.ownsRow_lit (size := 1) w #[.int .i64 5, .int .i64 (-100), .int .i64 7, .int .i64 6] 4 (Nat.le_refl _) (by unfold maxLen; omega) rfl
  exact h.sl
theorem ex_trm : trm 1 exL = [5, 6] := by unfold trm; rw [← ins_srt]; decide
theorem ex_mid : midV 1 exL = 5 ∧ midB exL = true := by
  refine ⟨?_, by decide⟩
  unfold midV
  rw [ex_trm]
  decide
theorem ex_64 : In64 exL := by unfold exL; intro x hx; simp at hx; omega
end Go.Proofs.YtkcjllkhmncfdaaDoor.Trm
