/- A slice of int that came in, cut (layer 19's law). -/
import Derived.Test.YtlmdandgjapmjaaHopR
import Derived.Test.YtlmdandgjapmjaaHopA
import Derived.Test.YtlmdandgjapmjaaReaQ
import Derived.Deep.Slices
namespace Go.Proofs.Ytlmdandgjapmjaa.Hop
open Go.ChangeShapes Go.WideShapes Go.ChangeAt Go.RowKit Go.Deep
open Grf (inI)
set_option linter.unusedVariables false
theorem rdI_take {w : World} {ad : Option Addr} {l : List Int} (h : Ints.Rd w ad l) (k : Nat) : Ints.Rd w ad (l.take k) := by
  rcases h with rfl | ⟨b, off, e, hc⟩
  · exact .inl (by simp)
  · refine .inr ⟨b, off, e, fun i hi => ?_⟩
    rw [List.length_take] at hi
    rw [hc i (by omega)]
    simp [List.getD, show i < k by omega]
/-- A slice that came in reads as a list of numbers. -/
theorem row_rd {w : World} {a : Option Addr} {len cap : Nat} {zs : List Int}
    (h : (a = none ∧ len = 0 ∧ cap = 0 ∧ zs = []) ∨ ∃ x, a = some x ∧ len ≤ cap ∧ cap ≤ maxLen ∧ zs.length = cap ∧ (∀ i, i < zs.length → w.cell? (x.add i) = some (.int .i64 (zs.getD i 0))) ∧ ∀ n ∈ zs, (Lit.int .i64 n).wf = true) :
    ∃ l : List Int, Hid (Ints.Rd w a l) ∧ Hid (l.length = len) ∧ len ≤ cap ∧ cap ≤ 9223372036854775807 ∧ Hid (a = none → cap = 0) ∧ Hid (∀ i, i < len → inI (l.getD i 0)) := by
  rcases h with ⟨rfl, rfl, rfl, _⟩ | ⟨x, rfl, hl, hm, hz, hcell, hwf⟩
  · exact ⟨[], Lib.hid (.inl rfl), Lib.hid rfl, Nat.le_refl _, by omega, Lib.hid (fun _ => rfl), Lib.hid (fun i hi => absurd hi (by omega))⟩
  · unfold maxLen at hm
    by_cases h0 : len = 0
    · exact ⟨[], Lib.hid (.inl rfl), Lib.hid (by rw [h0]; rfl), hl, by omega, Lib.hid (fun h => by cases h), Lib.hid (fun i hi => absurd hi (by omega))⟩
    · obtain ⟨b, off, rfl, hc⟩ := ints_at hcell (by omega)
      refine ⟨zs.take len, Lib.hid (.inr ⟨b, off, rfl, fun i hi => ?_⟩), Lib.hid (by rw [List.length_take]; omega), hl, by omega, Lib.hid (fun h => by cases h), Lib.hid fun i hi => ?_⟩
      · rw [List.length_take] at hi
        have h1 := hc i (by first | assumption | omega)
        rw [h1]
        simp [List.getD, show i < len by omega]
      · have hi2 : i < zs.length := by omega
        have hw := hwf _ (List.getElem_mem hi2)
        have e : (zs.take len).getD i 0 = zs[i] := by simp [List.getD, hi, hi2]
        rw [e]
        exact bounds_i64 hw
theorem ints_one (l : List Int) : ∀ u ∈ l.map (Value.int .i64), u.oneCell' = true := by
  intro u hu
  obtain ⟨x, _, rfl⟩ := List.mem_map.1 hu
  rfl
end Go.Proofs.Ytlmdandgjapmjaa.Hop
