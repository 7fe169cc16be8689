/- The statements' 'same' of layer 26: a cluster's numbers beside themselves. -/
import Derived.Test.YtbbenfjfdmnpmaaBndK
namespace Go.Proofs.Ytbbenfjfdmnpmaa.Bnd
open Go.ChangeShapes Go.WideShapes Go.ChangeAt Go.RowKit
set_option linter.unusedVariables false
set_option maxRecDepth 100000 in
set_option maxHeartbeats 4000000 in
theorem bsame_any (m : Nm) (w : World) :
    Calls Try.prog 10 #[nval m, nval m] w fun e w' => e = .returned (.bool true) ∧ Below w.heap.size w w' := by
  obtain ⟨h, f, s, l, rd, ag, st, ep, mo, cd, ro, de, dn, jn⟩ := m
  unfold nval ncells
  dsimp only
  go_enter Try.func10, Try.ntmps10
  go_wp2_with fail
  go_ret
  exact ⟨rfl, by go_grown⟩
end Go.Proofs.Ytbbenfjfdmnpmaa.Bnd
