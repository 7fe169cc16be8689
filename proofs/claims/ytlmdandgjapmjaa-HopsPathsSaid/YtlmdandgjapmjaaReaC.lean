/- Contracts of package reach (layer 17): balls, all that is reached, whether a graph is whole. -/
import Derived.Test.YtlmdandgjapmjaaReaB
import Derived.Deep.QuietTactic
import Derived.BigQuiet
namespace Go.Proofs.Ytlmdandgjapmjaa.Rea
open Go.RowKit Go.Shelf Go.ChangeShapes Go.WideShapes Go.ChangeAt
open Grf (Pr GR Ok nearP)
open Nodes (mem ret_int ret_bool)
set_option linter.unusedVariables false
set_option maxRecDepth 100000
/-- A slice of sets that reads as a list. -/
def RdU (w : World) (ad : Option Addr) (zs : List Nat) : Prop :=
  ∀ i, i < zs.length → ∃ b, ad = some ⟨b, 0, none⟩ ∧ b < w.heap.size ∧ w.cell? ⟨b, i, none⟩ = some (.int .u64 (zs.getD i 0 : Nat))
theorem OwnU.rd {W : World} {base n cap : Nat} {ad : Option Addr} {zs : List Nat} (h : OwnU W base (.slice ad n cap) zs) : RdU W ad zs ∧ n = zs.length := by
  have h' := h
  rcases h'.2 with ⟨hv, hz⟩ | ⟨g, cap', cur, hv, _, hg, _⟩
  · cases hv
    exact ⟨fun i hi => absurd hi (by omega), hz.symm⟩
  · simp only [Value.slice.injEq] at hv
    obtain ⟨rfl, rfl, rfl⟩ := hv
    refine ⟨fun i hi => ⟨g, rfl, (Array.getElem?_eq_some_iff.1 hg).1, ?_⟩, rfl⟩
    have := World.ownsRow.cellAt h i (by omega)
    rw [this]
    simp [hi]
theorem RdU.below {w w' : World} {ad : Option Addr} {zs : List Nat} (h : RdU w ad zs) (hB : Below w.heap.size w w') : RdU w' ad zs := fun i hi => by
  obtain ⟨b, e, hb, hc⟩ := h i hi
  exact ⟨b, e, Nat.lt_of_lt_of_le hb hB.size, (hB.cell (p := ⟨b, i, none⟩) hb).trans hc⟩
theorem least_left {n S : Nat} (hn : n ≤ 64) (hS : S < 18446744073709551616) (h : leftN n S ≠ 0) : ∃ s, Nodes.leastN (leftN n S) = ((s : Nat) : Int) ∧ s < 64 ∧ hereB n S s = true := by
  obtain ⟨h1, h2⟩ := Nodes.least_spec (left_lt n S) h
  refine ⟨Go.Lib.ctz 64 (leftN n S), by unfold Nodes.leastN; rw [if_neg h], h1, ?_⟩
  have : Go.Lib.ctz 64 (leftN n S) ∈ mem (leftN n S) := by rw [h2]; simp
  have := (Nodes.mem_mem.1 this).2
  rwa [bit_left hn hS] at this
open Classical in
noncomputable def wholeB (n S : Nat) (L : List Pr) : Bool := decide (wholeP n S L)
open Classical in
theorem wholeB_iff {n S : Nat} {L : List Pr} : wholeB n S L = true ↔ wholeP n S L := by
  unfold wholeB
  exact decide_eq_true_iff
end Go.Proofs.Ytlmdandgjapmjaa.Rea
