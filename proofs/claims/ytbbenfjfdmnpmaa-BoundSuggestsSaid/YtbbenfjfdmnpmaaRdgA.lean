/- Contracts of package reading (layer 23) and of the document's own answers for it: good times, estimates. -/
import Derived.Test.YtbbenfjfdmnpmaaHopA
import Derived.Test.YtbbenfjfdmnpmaaRatA
import Derived.BigQuiet
import Derived.Deep.Slices
import Derived.Deep.WholeRow
import Derived.Below
namespace Go.Proofs.Ytbbenfjfdmnpmaa.Rdg
open Go.ChangeShapes Go.WideShapes Go.ChangeAt Go.RowKit Go.Deep
set_option linter.unusedVariables false
theorem dret_b {a b : Bool} (h : a = b) : Ending.returned (.bool a) = .returned (.bool b) := by rw [h]
/-- A good time. -/
def tmB (x : Int) : Bool := decide (0 ≤ x ∧ x ≤ 1152921504606846976)
theorem tm_yes {x : Int} (h : tmB x = true) : 0 ≤ x ∧ x ≤ 1152921504606846976 := of_decide_eq_true h
def estB (v s n : Int) : Bool := tmB v && tmB s && tmB n && decide (s ≤ n) && tmB (v + (n - s) / 2)
def estV (v s n : Int) : Int := if estB v s n = true then v + (n - s) / 2 else 0
/-- What is found. -/
def IdxPost (l : List Int) (w : World) (e : Ending) (w' : World) : Prop := ∃ j : Int, e = .returned (.int .i64 j) ∧ decide (0 ≤ j) = !(l.all tmB) ∧ w = w'
theorem all_snoc {l : List Int} {k : Nat} (hk : k ≤ l.length) (h : ∀ j, j < k → tmB (l.getD j 0) = true) (hl : k = l.length) : l.all tmB = true := by
  rw [List.all_eq_true]
  intro x hx
  obtain ⟨i, hi, rfl⟩ := List.getElem_of_mem hx
  have := h i (by omega)
  simpa [List.getD, hi] using this
theorem all_no {l : List Int} {k : Nat} (hk : k < l.length) (h : tmB (l.getD k 0) = false) : l.all tmB = false := by
  rw [List.all_eq_false]
  refine ⟨l[k], List.getElem_mem hk, ?_⟩
  have e : l.getD k 0 = l[k] := by simp [List.getD, hk]
  rw [← e, h]
  simp
theorem est_no {v s n : Int} (h : ¬ (tmB v = true ∧ tmB s = true ∧ tmB n = true ∧ s ≤ n ∧ tmB (v + (n - s) / 2) = true)) : estB v s n = false ∧ estV v s n = 0 := by
  have e : estB v s n = false := by
    cases h1 : estB v s n with
    | false => rfl
    | true =>
      unfold estB at h1
      simp only [Bool.and_eq_true, decide_eq_true_iff] at h1
      exact absurd ⟨h1.1.1.1.1, h1.1.1.1.2, h1.1.1.2, h1.1.2, h1.2⟩ h
  exact ⟨e, by unfold estV; rw [e]; rfl⟩
theorem est_yes {v s n : Int} (h1 : tmB v = true) (h2 : tmB s = true) (h3 : tmB n = true) (h4 : s ≤ n) (h5 : tmB (v + (n - s) / 2) = true) : estB v s n = true ∧ estV v s n = v + (n - s) / 2 := by
  have e : estB v s n = true := by unfold estB; rw [h1, h2, h3, h5, decide_eq_true h4]; rfl
  exact ⟨e, by unfold estV; rw [e]; rfl⟩
end Go.Proofs.Ytbbenfjfdmnpmaa.Rdg
