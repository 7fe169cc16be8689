/- Plain (layer 20's law): a clock that goes on by slow at least has gone on by so many grains behind their ticks. -/
import Derived.Test.YtfkhennfnlfcdaaRatA
namespace Go.Proofs.Ytfkhennfnlfcdaa.Rat
open Go.RowKit
set_option linter.unusedVariables false
theorem ticks_enough {g s : Int} (g0 : 0 ≤ g) (g1 : g ≤ 4294967296) (s0 : 1 ≤ s ∧ s ≤ 65536) :
    ∃ t, Hid (ticksV g s = t) ∧ 2 ≤ t ∧ t ≤ 4294967298 ∧ Hid (0 ≤ (t - 1) * s ∧ (t - 1) * s ≤ 4295032832 ∧ g ≤ (t - 1) * s ∧ 0 ≤ (t - 2) * s ∧ (t - 2) * s ≤ 4294967296 ∧ (t - 2) * s ≤ g) := by
  obtain ⟨s0, s1⟩ := s0
  have hv := ticks_in g0 s0
  rw [show min g 1152921504606846976 = g by omega] at hv
  have h0 : 0 ≤ g / s := Int.ediv_nonneg g0 (by omega)
  have h1 : g / s ≤ g := Int.ediv_le_self _ g0
  have h2 : g / s * s ≤ g := Int.ediv_mul_le _ (by omega)
  have h3 : g < (g / s + 1) * s := Int.lt_ediv_add_one_mul_self _ (by omega)
  have h4 : 0 ≤ g / s * s := Int.mul_nonneg h0 (by omega)
  rw [Int.add_mul, Int.one_mul] at h3
  refine ⟨g / s + 2, Lib.hid hv, by omega, by omega, Lib.hid ?_⟩
  rw [show g / s + 2 - 1 = g / s + 1 by omega, show g / s + 2 - 2 = g / s by omega, Int.add_mul, Int.one_mul]
  omega
end Go.Proofs.Ytfkhennfnlfcdaa.Rat
