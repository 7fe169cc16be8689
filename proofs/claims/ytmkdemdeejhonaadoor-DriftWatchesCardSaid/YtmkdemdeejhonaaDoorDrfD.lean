/- The seat's condition on the package-level table (layer 28). -/
import Derived.Test.YtmkdemdeejhonaaDoorNodesC
import Derived.Test.YtmkdemdeejhonaaDoorRows
import Derived.Test.YtmkdemdeejhonaaDoorTie
import Derived.LaidMore
import Derived.MakeChecks
import Derived.Lib.LaidTab
import Derived.Stop.LaidErr
import Derived.Stop.Joined
namespace Go.Proofs.YtmkdemdeejhonaaDoor.Drf
open Go.ChangeShapes Go.WideShapes Go.ChangeAt Go.RowKit
open Nodes (Tabs)
set_option linter.unusedVariables false
theorem cellLt {w : World} {a : Addr} {v : Value} (h : w.cell? a = some v) : a.block < w.heap.size := by
  by_cases hb : a.block < w.heap.size
  · exact hb
  · rw [World.cell?, Array.getElem?_eq_none (by omega)] at h
    simp at h
def laidL : List (String × DataW Unit) := Rows.driftWatchesRow.laid
theorem door_met (os : Os) (args : Array Value) : laidMetH Tryd.prog laidL ((World.doorLaid Tryd.prog 14 os).forCall (fun _ _ => 0) ⟨#[], args, []⟩).memory :=
  laidMetH_of_parts3 (fuel := 8) (laidMet_of_run' 8 (by kernel_rfl) (by kernel_rfl)) (by kernel_rfl) (by kernel_rfl)
def tab64 : List Int := Go.Lib.deBruijn64tab.map fun n : Nat => (n : Int)
theorem tab64_at (j : Nat) (hj : j < Go.Lib.deBruijn64tab.length) : tab64.getD j 0 = ((Go.Lib.deBruijn64tab.getD j 0 : Nat) : Int) := by
  simp [tab64, List.getD, hj]
theorem tabs_of_laid {W : World} (h : laidMetH Tryd.prog laidL W) : Tabs W := by
  rw [MakeChecks.laidMetH_plain _ _ _ (by kernel_rfl)] at h
  have hT := Go.Lib.tabIs_of_head (g := 0) (k := .u8) (zs := tab64) (by kernel_rfl) (by kernel_rfl) Tryd.underlying72 Tryd.underlying5 (by kernel_rfl) (by kernel_rfl) (show laidMet Tryd.prog ((_, Go.Lib.tabData .u8 tab64) :: _) W from h)
  have hc : ∀ j, j < tab64.length → W.cell? ⟨0, j, none⟩ = some (.int .u8 (tab64.getD j 0)) := fun j hj => hT.cell (by kernel_rfl) j hj
  refine ⟨fun j hj => ?_, ?_⟩
  · rw [hc j (by rw [tab64, List.length_map]; exact hj), tab64_at j hj]
  · exact cellLt (hc 0 (by decide))
end Go.Proofs.YtmkdemdeejhonaaDoor.Drf
