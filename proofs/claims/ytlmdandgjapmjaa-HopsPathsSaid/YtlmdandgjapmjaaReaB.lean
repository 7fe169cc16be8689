/- Contracts of package reach (layer 17): the rings round a node (a loop by a label and goto). -/
import Derived.Test.YtlmdandgjapmjaaReaA
import Derived.Test.YtlmdandgjapmjaaNodesD
import Derived.WalkMore
import Derived.ScopeJumps
import Derived.Deep.Cut
namespace Go.Proofs.Ytlmdandgjapmjaa.Rea
open Go.RowKit Go.Shelf Go.ChangeShapes Go.WideShapes Go.ChangeAt
open Grf (Pr GR Ok nearP)
open Nodes (mem ret_int)
set_option linter.unusedVariables false
set_option maxRecDepth 100000
theorem infoSet : (Try.prog.info? 67).map (fun i => (i.zero, i.size, i.bytes)) = some (some (.int .u64 0), 1, 8) := by kernel_rfl
/-- A slice of sets of the call's own. -/
def OwnU (W : World) (base : Nat) (v : Value) (zs : List Nat) : Prop := W.ownsRow base 67 1 v zs.length (zs.map fun z : Nat => Value.int .u64 (z : Int))
theorem OwnU.snoc {W : World} {base : Nat} {v : Value} {zs : List Nat} {x : Nat} (h : W.ownsRow base 67 1 v (zs.length + 1) ((zs.map fun z : Nat => Value.int .u64 (z : Int)) ++ [.int .u64 (x : Int)])) : OwnU W base v (zs ++ [x]) := by
  unfold OwnU
  rw [List.length_append, List.map_append]
  exact h
theorem OwnU.below {W W' : World} {base : Nat} {v : Value} {zs : List Nat} (h : OwnU W base v zs) (hB : Below W.heap.size W W') : OwnU W' base v zs :=
  World.ownsRow.kept h (row := Option.none) ⟨hB.os, hB.tape, hB.output, hB.size, fun j hj _ => hB.block j hj⟩ (by cases hv : Value.ownBlock _ <;> simp)
def RingsPost (n S : Nat) (L : List Pr) (i : Nat) (w : World) (e : Ending) (w' : World) : Prop :=
  ∃ c ad cap, e = .returned (.slice ad c cap) ∧ IsCnt n S L i c ∧ OwnU w' w.heap.size (.slice ad c cap) (ringsL n S L i c) ∧ Below w.heap.size w w'
def cntOf : Value → Nat | .slice _ k _ => k | _ => 0
/-- The frame at the label, k rings being there. -/
def RJ (n S : Nat) (L : List Pr) (i : Nat) (p : Option Addr) (z : Int) (w : World) (a : Act) (W : World) : Prop :=
  ∃ (k : Nat) (ad : Option Addr) (cap : Nat) (u10 u11 u12 u13 u14 u15 u16 u17 u18 u19 u20 u21 u22 u23 u24 u25 u26 u27 u28 u29 u30 u31 u32 : Value), a = { tmps := List.toArray (.pointer p :: .int .i64 z :: .int .u64 (S : Int) :: undef :: undef :: undef :: .slice none 0 0 :: .slice ad k cap :: .int .u64 (restN n S L i k : Nat) :: .int .u64 (ringN n S L i k : Nat) :: u10 :: u11 :: u12 :: u13 :: u14 :: u15 :: u16 :: u17 :: u18 :: u19 :: u20 :: u21 :: u22 :: u23 :: u24 :: u25 :: u26 :: u27 :: u28 :: u29 :: u30 :: u31 :: u32 :: []), defers := [] } ∧
    OwnU W w.heap.size (.slice ad k cap) (ringsL n S L i k) ∧ Below w.heap.size w W ∧ (∀ j, j < k → ringN n S L i j ≠ 0) ∧ k ≤ n
end Go.Proofs.Ytlmdandgjapmjaa.Rea
