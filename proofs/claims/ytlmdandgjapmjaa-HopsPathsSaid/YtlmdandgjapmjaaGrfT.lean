/- Contracts of the document's own answers for layer 16: a graph is made. -/
import Derived.Test.YtlmdandgjapmjaaGrfR
namespace Go.Proofs.Ytlmdandgjapmjaa.Grf
open Go.ChangeShapes Go.WideShapes Go.ChangeAt Go.RowKit
set_option linter.unusedVariables false
set_option maxRecDepth 100000
/-- What the document's making of a graph leaves. -/
def RNPost (n : Nat) (zs : List Pr) (w : World) (e : Ending) (w' : World) : Prop :=
  (erF n [] zs = 0 → ∃ ad cap, e = .returned (.tuple #[gval (n : Int) (.slice ad zs.length cap), .int .i64 0]) ∧ RdG w' ad zs) ∧
  (erF n [] zs ≠ 0 → e = .returned (.tuple #[gval 0 (.slice none 0 0), .int .i64 (erF n [] zs)])) ∧ Below w.heap.size w w'
/-- The document's graph while it is made. -/
structure RS (w : World) (rb gb base n : Nat) (v : Value) (L : List Pr) (W : World) : Prop where
  res : Rw.Blk W rb 27 #[.int .i64 0, .slice none 0 0]
  box : Rw.Blk W gb 27 #[.int .i64 (n : Int), v]
  own : OwnG W base v L
  below : Below w.heap.size w W
  lt1 : w.heap.size ≤ rb
  lt2 : w.heap.size ≤ gb
  lt3 : rb < base
  lt4 : gb < base
  lt5 : base ≤ W.heap.size
  ne : rb ≠ gb
theorem RS.step {w W V : World} {rb gb base n : Nat} {v : Value} {L : List Pr} (h : RS w rb gb base n v L W) (hB : Below W.heap.size W V) : RS w rb gb base n v L V :=
  ⟨h.res.below hB, h.box.below hB, h.own.below hB, h.below.trans (hB.mono h.below.size), h.lt1, h.lt2, h.lt3, h.lt4, Nat.le_trans h.lt5 hB.size, h.ne⟩
theorem RS.cells {w W : World} {rb gb base n : Nat} {v : Value} {L : List Pr} (h : RS w rb gb base n v L W) :
    (W.cell? ⟨gb, 0, none⟩ = some (.int .i64 (n : Int)) ∧ W.cell? ⟨gb, 1, none⟩ = some v ∧ W.frozen? ⟨gb, 1, none⟩ = false) ∧
    (W.cell? ⟨rb, 0, none⟩ = some (.int .i64 0) ∧ W.cell? ⟨rb, 1, none⟩ = some (.slice none 0 0) ∧ W.frozen? ⟨rb, 0, none⟩ = false ∧ W.frozen? ⟨rb, 1, none⟩ = false) :=
  ⟨⟨h.box.cell 0, h.box.cell 1, h.box.free 1⟩, h.res.cell 0, h.res.cell 1, h.res.free 0, h.res.free 1⟩
theorem set2 {w W : World} {rb : Nat} {cs : Array Value} (hc : cs.size = 2) (h : Rw.Blk W rb 27 cs) (hb : w.heap.size ≤ rb) (hB : Below w.heap.size w W) (x y : Value) :
    ((W.setCell ⟨rb, 0, none⟩ x).setCell ⟨rb, 1, none⟩ y).cell? ⟨rb, 0, none⟩ = some x ∧ ((W.setCell ⟨rb, 0, none⟩ x).setCell ⟨rb, 1, none⟩ y).cell? ⟨rb, 1, none⟩ = some y ∧ Below w.heap.size w ((W.setCell ⟨rb, 0, none⟩ x).setCell ⟨rb, 1, none⟩ y) := by
  have h2 := (h.put 0 x).put 1 y
  refine ⟨?_, ?_, (hB.setCell (p := ⟨rb, 0, none⟩) hb x).setCell (p := ⟨rb, 1, none⟩) hb y⟩
  · rw [h2.cell 0]; simp [hc]
  · rw [h2.cell 1]; simp [hc]
end Go.Proofs.Ytlmdandgjapmjaa.Grf
