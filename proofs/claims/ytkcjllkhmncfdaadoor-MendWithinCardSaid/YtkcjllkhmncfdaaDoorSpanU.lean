/- Contracts of the document's quotients (layer 1), for every layer. -/
import Derived.Test.YtkcjllkhmncfdaaDoorSpanB
namespace Go.Proofs.YtkcjllkhmncfdaaDoor.Span
open Go.ChangeShapes Go.WideShapes Go.ChangeAt Go.RowKit
set_option linter.unusedVariables false

theorem rest_bd (a b : Int) (ha : -9223372036854775808 ≤ a ∧ a ≤ 9223372036854775807) : -9223372036854775808 ≤ a.tdiv b * b ∧ a.tdiv b * b ≤ 9223372036854775807 := by
  have h1 := Int.tdiv_mul_add_tmod a b
  have h2 : (a.tmod b).natAbs = a.natAbs % b.natAbs := Int.natAbs_tmod a b
  have h3 : a.natAbs % b.natAbs ≤ a.natAbs := Nat.mod_le _ _
  have h4 : 0 ≤ a → 0 ≤ a.tmod b := fun h => Int.tmod_nonneg _ h
  have h5 : a ≤ 0 → a.tmod b ≤ 0 := fun h => by have := Int.tmod_nonneg b (show 0 ≤ -a by omega); rw [Int.neg_tmod] at this; omega
  generalize a.tdiv b * b = q at *
  by_cases h : 0 ≤ a
  · have := h4 h; omega
  · have := h5 (by omega); omega
theorem rest_ne (a b : Int) : (a.tdiv b * b != a) = (a.tmod b != 0) := by
  have h1 := Int.tdiv_mul_add_tmod a b
  rw [Bool.eq_iff_iff, bne_iff_ne, bne_iff_ne]
  omega

end Go.Proofs.YtkcjllkhmncfdaaDoor.Span
