/- Contracts for layer burst (15): the library's table and what the condition on it gives; Cut and a clone; bits of bytes turned by the program and by the document. -/
import Derived.Test.YtpibmppolnfckaaDoorBytA
import Derived.Test.YtpibmppolnfckaaDoorBstM
import Derived.Test.YtpibmppolnfckaaDoorCrcX
import Derived.Test.YtpibmppolnfckaaDoorShelf
import Derived.Test.YtpibmppolnfckaaDoorTie
import Derived.LaidMore
import Derived.MakeChecks
import Derived.Lib.LaidTab
import Derived.Lib.SliceRun
import Derived.Stop.Joined
import Derived.Stop.LaidErr
import Derived.Shelf.Spec.TrailingZeros
namespace Go.Proofs.YtpibmppolnfckaaDoor.Bst
open Go.ChangeShapes Go.WideShapes Go.ChangeAt Go.RowKit
open Go.Proofs.YtpibmppolnfckaaDoor.Byt
open Go.Proofs.YtpibmppolnfckaaDoor.Crc (turnB turnB_len xor_u8)
set_option linter.unusedVariables false
set_option maxRecDepth 100000
def lays28_ren : Go.Shelf.Ren := ⟨fun | 28 => 22 | n => n, fun | 0 => 0 | 3 => 3 | 4 => 4 | 5 => 5 | 25 => 36 | 27 => 23 | 53 => 40 | n => n, fun | 0 => 0 | n => n⟩
theorem lays28 : Go.Proofs.Lays7.n28 Tryd.prog lays28_ren := {
  mixed := by kernel_rfl
  f28 := Tryd.func22.trans (congrArg some (by kernel_rfl))
  t0 := Tryd.underlying0
  a0 := Tryd.isAgg0
  z0 := Tryd.sizeOf0
  v0 := Tryd.zeroValue0
  i0 := by kernel_rfl
  t3 := Tryd.underlying3
  a3 := Tryd.isAgg3
  z3 := Tryd.sizeOf3
  v3 := Tryd.zeroValue3
  i3 := by kernel_rfl
  t4 := Tryd.underlying4
  a4 := Tryd.isAgg4
  z4 := Tryd.sizeOf4
  v4 := Tryd.zeroValue4
  i4 := by kernel_rfl
  t5 := Tryd.underlying5
  a5 := Tryd.isAgg5
  z5 := Tryd.sizeOf5
  v5 := Tryd.zeroValue5
  i5 := by kernel_rfl
  t25 := Tryd.underlying36
  a25 := Tryd.isAgg36
  z25 := Tryd.sizeOf36
  v25 := Tryd.zeroValue36
  i25 := by kernel_rfl
  t27 := Tryd.underlying23
  a27 := Tryd.isAgg23
  z27 := Tryd.sizeOf23
  v27 := Tryd.zeroValue23
  i27 := by kernel_rfl
  t53 := Tryd.underlying40
  a53 := Tryd.isAgg40
  z53 := Tryd.sizeOf40
  v53 := by intro w; kernel_rfl
  i53 := by kernel_rfl
  g0 := by kernel_rfl }
/-- The library's table in its variable, and that the variable lies below the heap's end. -/
def TabZ (w : World) : Prop := TabAt 0 Go.Lib.deBruijn32tab w ∧ 0 < w.heap.size
theorem TabZ.below {w w' : World} (h : TabZ w) (hb : Below w.heap.size w w') : TabZ w' :=
  ⟨fun j hj => (hb.cell (p := ⟨0, j, none⟩) h.2).trans (h.1 j hj), Nat.lt_of_lt_of_le h.2 hb.size⟩
theorem tz32_any (s : Nat) (hs : s < 4294967296) (w : World) (hT : TabZ w) :
    Calls Tryd.prog 22 #[.int .u32 s] w fun e w' => e = .returned (.int .i64 (Go.Lib.ctz 32 s : Nat)) ∧ w = w' :=
  (Any7.bits_TrailingZeros32 lays28 s hs w (fun _ => hT.1)).mono fun e w' ⟨he, hw⟩ => ⟨he, hw.symm⟩

/-! The condition on the table. -/
theorem cellLt {w : World} {a : Addr} {v : Value} (h : w.cell? a = some v) : a.block < w.heap.size := by
  by_cases hb : a.block < w.heap.size
  · exact hb
  · rw [World.cell?, Array.getElem?_eq_none (by omega)] at h
    simp at h
def laidL : List (String × DataW Unit) := Go.Proofs.YtpibmppolnfckaaDoor.Rows.burstTurnsRow.laid
theorem door_met (os : Os) (args : Array Value) : laidMetH Tryd.prog laidL ((World.doorLaid Tryd.prog 33 os).forCall (fun _ _ => 0) ⟨#[], args, []⟩).memory :=
  laidMetH_of_parts3 (fuel := 8) (laidMet_of_run' 8 (by kernel_rfl) (by kernel_rfl)) (by kernel_rfl) (by kernel_rfl)
def tab32 : List Int := Go.Lib.deBruijn32tab.map fun n : Nat => (n : Int)
theorem tab32_at (j : Nat) (hj : j < Go.Lib.deBruijn32tab.length) : tab32.getD j 0 = ((Go.Lib.deBruijn32tab.getD j 0 : Nat) : Int) := by
  simp [tab32, List.getD, hj]
theorem tabs_of_laid {W : World} (h : laidMetH Tryd.prog laidL W) : TabZ W := by
  rw [MakeChecks.laidMetH_plain _ _ _ (by kernel_rfl)] at h
  have hT := Go.Lib.tabIs_of_head (g := 0) (k := .u8) (zs := tab32) (by kernel_rfl) (by kernel_rfl) Tryd.underlying40 Tryd.underlying5 (by kernel_rfl) (by kernel_rfl) (show laidMet Tryd.prog ((_, Go.Lib.tabData .u8 tab32) :: _) W from h)
  have hc : ∀ j, j < tab32.length → W.cell? ⟨0, j, none⟩ = some (.int .u8 (tab32.getD j 0)) := fun j hj => hT.cell (by kernel_rfl) j hj
  refine ⟨fun j hj => ?_, ?_⟩
  · rw [hc j (by rw [tab32, List.length_map]; exact hj), tab32_at j hj]
  · exact cellLt (hc 0 (by decide))

end Go.Proofs.YtpibmppolnfckaaDoor.Bst
