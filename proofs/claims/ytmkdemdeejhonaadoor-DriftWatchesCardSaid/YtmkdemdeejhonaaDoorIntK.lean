/- A slice of integers of any kind that came in, for every program; remainders; ticks' sums. -/
import Derived.Test.YtmkdemdeejhonaaDoorRows
import Derived.WalkKit
import Derived.Below
import Derived.Lib.Hide
import Derived.Deep.Slices
import Derived.OpenShut
namespace Go.Proofs.YtmkdemdeejhonaaDoor.IntK
open Go.RowKit Go.Deep
set_option linter.unusedVariables false
/-- A slice of integers of some kind, as it came in. -/
def RowK (k : IntKind) (w : World) (a : Option Addr) (len cap : Nat) (zs : List Int) : Prop :=
  (a = none ∧ len = 0 ∧ cap = 0 ∧ zs = []) ∨
  ∃ x, a = some x ∧ len ≤ cap ∧ cap ≤ maxLen ∧ zs.length = cap ∧ (∀ i, i < zs.length → w.cell? (x.add i) = some (.int k (zs.getD i 0))) ∧ ∀ n ∈ zs, (Lit.int k n).wf = true
/-- One of its elements. -/
theorem RowK.at {k : IntKind} {w : World} {a : Option Addr} {len cap : Nat} {zs : List Int} (h : RowK k w a len cap zs) {i : Nat} (hi : i < len) :
    ∃ b off, a = some ⟨b, off, none⟩ ∧ (∀ W, Below w.heap.size w W → W.cell? ⟨b, off + i, none⟩ = some (.int k (zs.getD i 0))) ∧ (Lit.int k (zs.getD i 0)).wf = true := by
  rcases h with ⟨_, rfl, _, _⟩ | ⟨x, rfl, hl, hm, hz, hcell, hwf⟩
  · omega
  · obtain ⟨b, off, rfl, hc⟩ := ints_at hcell (by omega)
    have h1 := hc i (by first | assumption | omega)
    refine ⟨b, off, rfl, fun W hB => ?_, ?_⟩
    · refine (hB.cell (p := ⟨b, off + i, none⟩) ?_).trans h1
      by_cases hb : b < w.heap.size
      · exact hb
      · rw [World.cell?, Array.getElem?_eq_none (show w.heap.size ≤ b by omega)] at h1
        simp at h1
    · have hi2 : i < zs.length := by omega
      have e : zs.getD i 0 = zs[i] := by simp [List.getD, hi2]
      rw [e]
      exact hwf _ (List.getElem_mem hi2)
theorem RowK.len {k : IntKind} {w : World} {a : Option Addr} {len cap : Nat} {zs : List Int} (h : RowK k w a len cap zs) : len ≤ cap ∧ cap ≤ maxLen := by
  rcases h with ⟨_, rfl, rfl, _⟩ | ⟨x, rfl, hl, hm, _⟩
  · exact ⟨Nat.le_refl _, by unfold maxLen; omega⟩
  · exact ⟨hl, hm⟩
theorem tmod_two (z r : Int) (h : 0 ≤ r) : -r ≤ z.tmod (r + 1) ∧ z.tmod (r + 1) ≤ r := by
  have h1 := Int.tmod_lt_of_pos z (show 0 < r + 1 by omega)
  have h2 := Int.lt_tmod_of_pos z (show 0 < r + 1 by omega)
  omega
theorem tmod_one (z r : Int) (hz : 0 ≤ z) (h : 0 ≤ r) : 0 ≤ z.tmod (r + 1) ∧ z.tmod (r + 1) ≤ r :=
  ⟨Int.tmod_nonneg _ hz, (tmod_two z r h).2⟩
/-- A link more. -/
theorem link_more {k : Nat} {x y T r : Int} (h0 : (k : Int) * x ≤ T) (h1 : T ≤ (k : Int) * y) (r0 : 0 ≤ r) (r1 : r ≤ y - x) : ((k + 1 : Nat) : Int) * x ≤ T + (x + r) ∧ T + (x + r) ≤ ((k + 1 : Nat) : Int) * y := by
  rw [Int.natCast_add, Int.natCast_one, Int.add_mul, Int.add_mul, Int.one_mul, Int.one_mul]
  omega
/-- A tick more. -/
theorem tick_more {k : Nat} {r g d : Int} (h0 : 1024 * (k : Int) - r * k ≤ g) (h1 : g ≤ 1024 * (k : Int) + r * k) (d0 : -r ≤ d) (d1 : d ≤ r) : 1024 * ((k + 1 : Nat) : Int) - r * ((k + 1 : Nat) : Int) ≤ g + (1024 + d) ∧ g + (1024 + d) ≤ 1024 * ((k + 1 : Nat) : Int) + r * ((k + 1 : Nat) : Int) := by
  rw [Int.natCast_add, Int.natCast_one, Int.mul_add r, Int.mul_one]
  generalize r * (k : Int) = u at *
  omega
end Go.Proofs.YtmkdemdeejhonaaDoor.IntK
