/- Contracts of package key (layer 6): Compare, Less, Good, Of, Array, Rising. -/
import Derived.Test.YtepcbklokcfbfaaKeyD
import Derived.Deep.Cut
namespace Go.Proofs.Ytepcbklokcfbfaa.Key
open Go.ChangeShapes Go.WideShapes Go.ChangeAt Go.RowKit Go.Sort
set_option linter.unusedVariables false
theorem isnode_any (x : Int) (w : World) : Calls Try.prog 51 #[.int .i64 x] w fun e w' => e = .returned (.bool (decide (0 ≤ x ∧ x < 64))) ∧ w = w' := by
  by_cases h1 : 0 ≤ x
  · have hv : decide (0 ≤ x ∧ x < 64) = decide (x < 64) := by simp [h1]
    rw [hv]
    go_enter Try.func51, Try.ntmps51
    go_wp2_with fail
    go_ret
    exact ⟨rfl, rfl⟩
  · have hv : decide (0 ≤ x ∧ x < 64) = false := by simp [h1]
    rw [hv]
    go_enter Try.func51, Try.ntmps51
    go_wp2_with fail
    go_ret
    exact ⟨rfl, rfl⟩
theorem good_any (x : Ky) (w : World) :
    Calls Try.prog 40 #[kval x] w fun e w' => e = .returned (.bool (goodK x)) ∧ Below w.heap.size w w' := by
  obtain ⟨a, b, c⟩ := x
  have hB : Below w.heap.size w (w.alloc (.cells #[.int .i64 a, .int .i64 b, .int .u32 c] 24)) := box_below _ _
  have C := Lib.hid (fun W => isnode_any b W)
  unfold kval
  by_cases h1 : 0 ≤ a
  · by_cases h2 : a ≤ 1152921504606846976
    · have hv : goodK (a, b, c) = decide (0 ≤ b ∧ b < 64) := by simp [goodK, h1, h2]
      rw [hv]
      generalize decide (0 ≤ b ∧ b < 64) = r at *
      go_enter Try.func40, Try.ntmps40
      go_wp2_with fail
      refine (C.out _).mono ?_; rintro e w' ⟨rfl, rfl⟩
      go_wp2_with fail
      go_ret
      exact ⟨rfl, hB⟩
    · have hv : goodK (a, b, c) = false := by simp [goodK, h1, h2]
      rw [hv]
      go_enter Try.func40, Try.ntmps40
      go_wp2_with fail
      go_ret
      exact ⟨rfl, hB⟩
  · have hv : goodK (a, b, c) = false := by simp [goodK, h1]
    rw [hv]
    go_enter Try.func40, Try.ntmps40
    go_wp2_with fail
    go_ret
    exact ⟨rfl, hB⟩
def aval (a b c : Int) : Value := .agg #[.int .i64 a, .int .i64 b, .int .i64 c]
def okA (b c : Int) : Bool := decide (0 ≤ b ∧ b < 64) && decide (0 ≤ c ∧ c ≤ 4294967295)
def ofA (a b c : Int) : Ky := if okA b c then (a, b, c) else (0, 0, 0)
def risK (l : List Ky) : Bool := (List.range (l.length - 1)).all fun j => ltK (l.getD j default) (l.getD (j + 1) default)
end Go.Proofs.Ytepcbklokcfbfaa.Key
