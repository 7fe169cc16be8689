/- Contracts of package rate (layer 20) and of the document's own answers for it: how fast and how slow clocks go; the chapter's example. -/
import Derived.Test.YtecgohdpdkpeoaaSpanA
namespace Go.Proofs.Ytecgohdpdkpeoaa.Rat
open Go.ChangeShapes Go.WideShapes Go.ChangeAt Go.RowKit
set_option linter.unusedVariables false
theorem rret_b {a b : Bool} (h : a = b) : Ending.returned (.bool a) = .returned (.bool b) := by rw [h]
/-- Whether a drift and a slewing may be. -/
def gdR (r s : Int) : Bool := decide (0 ≤ r ∧ r ≤ 64 ∧ 1 ≤ s ∧ s ≤ 256)
theorem gdR_yes {r s : Int} (g : gdR r s = true) : 0 ≤ r ∧ r ≤ 64 ∧ 1 ≤ s ∧ s ≤ 256 := of_decide_eq_true g
def fastV (r s : Int) : Int := if gdR r s = true then 1024 + r + s else 0
def slowV (r s : Int) : Int := if gdR r s = true then 1024 - r - s else 0
def ticksV (g s : Int) : Int := if g < 0 ∨ s < 1 then 0 else (min g 1152921504606846976) / s + 2
def incV (d : Int) : Int := Span.clampV d (-1024) 1047552 + 1024
theorem inc_bd (d : Int) : 0 ≤ incV d ∧ incV d ≤ 1048576 := by
  unfold incV Span.clampV; split <;> (try split) <;> omega
theorem ticks_in {g s : Int} (h0 : 0 ≤ g) (h1 : 1 ≤ s) : ticksV g s = (min g 1152921504606846976) / s + 2 := if_neg (by omega)
theorem quo_bd {g s : Int} (h0 : 0 ≤ g) (h1 : 1 ≤ s) : 0 ≤ (min g 1152921504606846976) / s ∧ (min g 1152921504606846976) / s ≤ 1152921504606846976 :=
  ⟨Int.ediv_nonneg (by omega) (by omega), Int.le_trans (Int.ediv_le_self _ (by omega)) (by omega)⟩
def fairB (d r : Int) : Bool := decide (0 ≤ r ∧ -r ≤ d ∧ d ≤ r)
theorem rtgood_any (r s : Int) (w : World) :
    Calls Try.prog 24 #[.int .i64 r, .int .i64 s] w fun e w' => e = .returned (.bool (gdR r s)) ∧ w = w' := by
  go_enter Try.func24, Try.ntmps24
  go_wp2
  all_goals
    go_ret
    exact ⟨rret_b (by unfold gdR; rw [Bool.eq_iff_iff]; simp only [decide_eq_true_iff, Bool.false_eq_true, false_iff]; omega), rfl⟩
theorem rrtgood_any (r s : Int) (w : World) :
    Calls Try.prog 25 #[.int .i64 r, .int .i64 s] w fun e w' => e = .returned (.bool (gdR r s)) ∧ w = w' := by
  go_enter Try.func25, Try.ntmps25
  go_wp2
  all_goals
    go_ret
    exact ⟨rret_b (by unfold gdR; rw [Bool.eq_iff_iff]; simp only [decide_eq_true_iff, Bool.false_eq_true, false_iff]; omega), rfl⟩
end Go.Proofs.Ytecgohdpdkpeoaa.Rat
