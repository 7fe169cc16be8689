/- Contracts for layer key (6): is a key in a list, a rising list with one more; the law's own sameness of lists. -/
import Derived.Test.YtepcbklokcfbfaaKeyA
import Derived.Deep.QuietTactic
import Derived.BigQuiet
import Derived.OwnWalkIn
namespace Go.Proofs.Ytepcbklokcfbfaa.Key
open Go.ChangeShapes Go.WideShapes Go.ChangeAt Go.RowKit
set_option linter.unusedVariables false
theorem infoKey : (Try.prog.info? 24).map (fun i => (i.zero, i.size, i.bytes)) = some (some (.agg #[.int .i64 0, .int .i64 0, .int .u32 0]), 3, 24) := by kernel_rfl
def inK (l : List Ky) (x : Ky) : Bool := decide (x ∈ l)
theorem take_succ' {α : Type} [Inhabited α] {l : List α} {k : Nat} (h : k < l.length) : l.take (k + 1) = l.take k ++ [l.getD k default] := by
  rw [List.take_succ_eq_append_getElem h]; simp [List.getD, h]
end Go.Proofs.Ytepcbklokcfbfaa.Key
