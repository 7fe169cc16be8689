/- Contracts of package span (layer 1) and of the document's own answers for it: sums, differences, middles, sizes, clamping. -/
import Derived.Test.YtkcjllkhmncfdaaDoorRows
import Derived.WalkKit
import Derived.WalkLawsBesides
import Derived.WalkSpells
import Derived.ProofKit
import Derived.Lib.Hide
import Derived.Test.YtkcjllkhmncfdaaDoorMathA
namespace Go.Proofs.YtkcjllkhmncfdaaDoor.Span
open Go.ChangeShapes Go.WideShapes Go.ChangeAt Go.RowKit
set_option linter.unusedVariables false

/-- The number, or 0 if it is no int64. -/
def fitV (x : Int) : Int := if -9223372036854775808 ≤ x ∧ x ≤ 9223372036854775807 then x else 0
/-- Whether it is an int64. -/
def fitB (x : Int) : Bool := decide (-9223372036854775808 ≤ x ∧ x ≤ 9223372036854775807)

theorem fitV_bd (x : Int) : -9223372036854775808 ≤ fitV x ∧ fitV x ≤ 9223372036854775807 := by
  unfold fitV; split <;> omega
theorem fit_yes (x : Int) (h : -9223372036854775808 ≤ x ∧ x ≤ 9223372036854775807) : fitV x = x ∧ fitB x = true := by
  unfold fitV fitB; simp [h]
theorem fit_no (x : Int) (h : ¬ (-9223372036854775808 ≤ x ∧ x ≤ 9223372036854775807)) : fitV x = 0 ∧ fitB x = false := by
  unfold fitV fitB; rw [if_neg h]; simp [h]

theorem ret_ib {k : IntKind} {a b : Int} {c d : Bool} (h : a = b) (h' : c = d) : Ending.returned (.tuple #[.int k a, .bool c]) = Ending.returned (.tuple #[.int k b, .bool d]) := by rw [h, h']
theorem ret_int {k : IntKind} {a b : Int} (h : a = b) : Ending.returned (.int k a) = .returned (.int k b) := by rw [h]

def clampV (x lo hi : Int) : Int := if x < lo then lo else if hi < x then hi else x

theorem abs_num (a : Int) (h : a < 0) (ha : -9223372036854775808 ≤ a) : IntKind.u64.wrap (-IntKind.u64.wrap a) = (a.natAbs : Int) := by
  simp only [IntKind.wrap_u64]; omega
theorem gap_num (a b : Int) (h : b ≤ a) (ha : a ≤ 9223372036854775807) (hb : -9223372036854775808 ≤ b) : IntKind.u64.wrap (IntKind.u64.wrap a - IntKind.u64.wrap b) = ((a - b).natAbs : Int) := by
  simp only [IntKind.wrap_u64]; omega
theorem gap_num' (a b : Int) (h : a < b) (ha : -9223372036854775808 ≤ a) (hb : b ≤ 9223372036854775807) : IntKind.u64.wrap (IntKind.u64.wrap b - IntKind.u64.wrap a) = ((a - b).natAbs : Int) := by
  simp only [IntKind.wrap_u64]; omega
end Go.Proofs.YtkcjllkhmncfdaaDoor.Span
