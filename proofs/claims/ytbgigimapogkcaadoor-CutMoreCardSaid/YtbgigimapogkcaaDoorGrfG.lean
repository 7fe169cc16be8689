/- Contracts of package graph (layer 16): a graph without the links of some nodes. -/
import Derived.Test.YtbgigimapogkcaaDoorGrfF
namespace Go.Proofs.YtbgigimapogkcaaDoor.Grf
open Go.ChangeShapes Go.WideShapes Go.ChangeAt Go.RowKit
set_option linter.unusedVariables false
set_option maxRecDepth 100000
def WPost (n : Nat) (M : List Pr) (w : World) (e : Ending) (w' : World) : Prop :=
  ∃ g b, e = .returned (.pointer (some ⟨g, 0, none⟩)) ∧ GR w' g b n M ∧ w.heap.size ≤ g ∧ w.heap.size ≤ b ∧ Below w.heap.size w w'
theorem has_bit {S : Nat} (hS : S < 18446744073709551616) {z : Int} (h0 : 0 ≤ z) : Nodes.hasN S z = S.testBit z.toNat := by
  obtain ⟨j, rfl⟩ := Int.eq_ofNat_of_zero_le h0
  rw [Nodes.has_nat S j hS, Int.toNat_natCast]
end Go.Proofs.YtbgigimapogkcaaDoor.Grf
