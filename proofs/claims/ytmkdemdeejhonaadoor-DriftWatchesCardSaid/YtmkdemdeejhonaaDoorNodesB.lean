/- Contracts of package nodes (layer 3) and of the document's own answers for it: sets of lists, with some nodes and without some: loops over slices that are only read. -/
import Derived.Test.YtmkdemdeejhonaaDoorNodesA
namespace Go.Proofs.YtmkdemdeejhonaaDoor.Nodes
open Go.ChangeShapes Go.WideShapes Go.ChangeAt Go.RowKit
set_option linter.unusedVariables false

/-- A slice of integers that reads as a list. -/
def Rd (w : World) (ad : Option Addr) (zs : List Int) : Prop :=
  zs = [] ∨ ∃ b off, ad = some ⟨b, off, none⟩ ∧ ∀ i, i < zs.length → w.cell? ⟨b, off + i, none⟩ = some (.int .i64 (zs.getD i 0))
theorem Rd.at {w : World} {ad : Option Addr} {zs : List Int} (h : Rd w ad zs) {k : Nat} (hk : k < zs.length) : ∃ b off, ad = some ⟨b, off, none⟩ ∧ w.cell? ⟨b, off + k, none⟩ = some (.int .i64 (zs.getD k 0)) := by
  rcases h with rfl | ⟨b, off, e, hc⟩
  · simp at hk
  · exact ⟨b, off, e, hc k hk⟩
theorem take_succ' {zs : List Int} {k : Nat} (hk : k < zs.length) : zs.take (k + 1) = zs.take k ++ [zs.getD k 0] := by
  rw [List.take_succ_eq_append_getElem hk]; simp [hk]
theorem getD_mem {zs : List Int} {k : Nat} (hk : k < zs.length) : zs.getD k 0 ∈ zs := by
  have : zs.getD k 0 = zs[k] := by simp [hk]
  rw [this]; exact List.getElem_mem hk

end Go.Proofs.YtmkdemdeejhonaaDoor.Nodes
