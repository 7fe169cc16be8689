/- Contracts of package nodes (layer 3): Each, an iterator (as NodesG has it, without the texts of sets: for every layer that goes over a set). -/
import Derived.RangeFuncNested
import Derived.RangeFuncBound
import Derived.RangeFuncCalls
import Derived.RangeFuncLeaves
import Derived.RangeFuncBox
import Derived.Shelf.Abstract
import Derived.Shelf.RegionOpen
import Derived.OwnWalkIn
import Derived.TacticsInMore
import Derived.LoopNIn
import Derived.LoopIn
import Derived.Test.YtlmdandgjapmjaaNodesC
import Derived.Test.YtlmdandgjapmjaaRowX
import Derived.Maps.AppendAt
namespace Go.Proofs.Ytlmdandgjapmjaa.Nodes
open Go.RowKit Go.Shelf Go.ChangeShapes Go.WideShapes
set_option linter.unusedVariables false
theorem boxed_kept {A B : World} {row : Option Nat} {b : Nat} {t : TypeId} {v : Value} (h : Boxed A b t v) (hg : A.grownBy B row) (hr : ∀ r, row = some r → ∃ o : Obj, A.heap[r]? = some o ∧ o.isCells = false) : Boxed B b t v := by
  refine h.kept hg (fun e => ?_)
  obtain ⟨o, ho, hc⟩ := hr b e.symm
  rw [show A.heap[b]? = _ from h] at ho
  cases ho; cases hc
attribute [local go_sem] Oper.semAt_some
def memM (v : Value) : Nat := (mem (intOf v).toNat).length
theorem memM_int (q : Nat) : memM (.int .u64 q) = (mem q).length := by simp [memM, intOf]
/-- What the iterator hands over, of any type whose things are numbers: a subtype tells the body what they are. -/
def encV {α : Type} (val : α → Nat) (x : α) : Array Value := #[Value.int .i64 ((val x : Nat) : Int)]
abbrev Nod := Fin 64
def encN (x : Nod) : Array Value := encV Fin.val x
def vals (pre : List Nod) : List Int := pre.map fun x => ((x.val : Nat) : Int)
theorem vals_len (pre : List Nod) : (vals pre).length = pre.length := by simp [vals]
theorem vals_snoc (pre : List Nod) (x : Nod) : vals (pre ++ [x]) = vals pre ++ [((x.val : Nat) : Int)] := by simp [vals]
theorem vals_all {S : Nat} {ys : List Nod} (h : ys.map Fin.val = mem S) : vals ys = memI S := by
  unfold memI vals; rw [← h, List.map_map]; rfl

end Go.Proofs.Ytlmdandgjapmjaa.Nodes
