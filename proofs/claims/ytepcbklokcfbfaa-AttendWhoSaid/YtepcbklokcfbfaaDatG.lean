/- A reader beside two boxes (a packet that came in, the packet that is handed back): for layers 10 to 13. -/
import Derived.Test.YtepcbklokcfbfaaDatB
import Derived.Test.YtepcbklokcfbfaaBufG
namespace Go.Proofs.Ytepcbklokcfbfaa.Dat
open Go.ChangeShapes Go.WideShapes Go.ChangeAt Go.RowKit Go.Deep
open Go.Proofs.Ytepcbklokcfbfaa.Byt Go.Proofs.Ytepcbklokcfbfaa.Key Go.Proofs.Ytepcbklokcfbfaa.Buf Go.Proofs.Ytepcbklokcfbfaa.Hed Go.Proofs.Ytepcbklokcfbfaa.BufM
set_option linter.unusedVariables false
set_option linter.unusedSimpArgs false
structure G2 (w : World) (g : Nat) (cs ds : Array Value) (s : Int × List UInt8) (W : World) : Prop where
  rr : RR W g s
  box : Blk W w.heap.size 27 cs
  res : Blk W (w.heap.size + 1) 27 ds
  lt : g < w.heap.size
  step : RStep w W g
theorem G2.start {w W : World} {g : Nat} {s : Int × List UInt8} (h : RR w g s) (cs ds : Array Value) (hW : W = (w.alloc (.cells cs 27)).alloc (.cells ds 27)) : G2 w g cs ds s W := by
  obtain ⟨hB, h1, h2⟩ := boxes_tt w W _ _ _ _ hW
  exact ⟨h.kept hB, h1, h2, h.lt, RStep.of_below hB (Nat.le_of_lt h.lt)⟩
theorem G2.kept {w W V : World} {g : Nat} {cs ds : Array Value} {s : Int × List UInt8} (h : G2 w g cs ds s W) (hB : Below W.heap.size W V) : G2 w g cs ds s V :=
  ⟨h.rr.kept hB, h.box.below hB, h.res.below hB, h.lt, h.step.trans (RStep.of_below hB (Nat.le_of_lt h.rr.lt))⟩
theorem G2.go {w W V : World} {g : Nat} {cs ds : Array Value} {s s' : Int × List UInt8} (h : G2 w g cs ds s W) (h1 : RR V g s') (h2 : RStep W V g) : G2 w g cs ds s' V := by
  have := h.lt
  exact ⟨h1, (h2.block _ h.lt h.box.lt).trans h.box, (h2.block _ (by omega) h.res.lt).trans h.res, h.lt, h.step.trans h2⟩
theorem G2.next {w W : World} {g : Nat} {cs ds : Array Value} {s s' : Int × List UInt8} (h : G2 w g cs ds s W) {v : Value} {e : Ending} {w' : World} (hp : RPost W g s' v e w') : e = .returned v ∧ Hid (G2 w g cs ds s' w') := by
  obtain ⟨rfl, h1, h2⟩ := hp
  exact ⟨rfl, Lib.hid (h.go h1 h2)⟩
theorem G2.put {w W : World} {g : Nat} {cs ds : Array Value} {s : Int × List UInt8} (h : G2 w g cs ds s W) (i : Nat) (u : Value) : G2 w g (cs.setIfInBounds i u) ds s (W.setCell ⟨w.heap.size, i, none⟩ u) := by
  have hlt := h.lt
  refine ⟨h.rr.behind fun b hb => heap_setCell_other _ _ _ _ (by simp only; omega), h.box.put i u, h.res.far (p := ⟨w.heap.size, i, none⟩) (by simp) u, h.lt, ⟨h.step.below.setCell (p := ⟨w.heap.size, i, none⟩) (Nat.le_of_lt hlt) _, fun k h1 h2 => ?_⟩⟩
  exact (heap_setCell_other _ _ _ _ (by simp only; omega)).trans (h.step.block k h1 h2)
theorem G2.row {w W : World} {g : Nat} {cs ds : Array Value} {s : Int × List UInt8} (h : G2 w g cs ds s W) (es : Array Value) (hs : ds.size = es.size) : G2 w g cs es s (W.setRow (w.heap.size + 1) es) := by
  have hlt := h.lt
  refine ⟨h.rr.behind fun b hb => setRow_other _ _ _ _ (by omega), (setRow_other _ _ _ _ (by omega)).trans h.box, Blk.row h.res es hs, h.lt, ⟨below_setRow h.step.below (by omega) _, fun k h1 h2 => ?_⟩⟩
  exact (setRow_other _ _ _ _ (by omega)).trans (h.step.block k h1 h2)
theorem G2.rpost {w W : World} {g : Nat} {cs ds : Array Value} {s : Int × List UInt8} (h : G2 w g cs ds s W) (v : Value) : RPost w g s v (.returned v) W := ⟨rfl, h.rr, h.step⟩
theorem G2.cells {w W : World} {g : Nat} {cs ds : Array Value} {s : Int × List UInt8} (h : G2 w g cs ds s W) (i : Nat) : W.cell? ⟨w.heap.size, i, none⟩ = cs[i]? ∧ W.frozen? ⟨w.heap.size, i, none⟩ = false := ⟨h.box.cell i, h.box.free i⟩
/-- Bytes of the call's own stay where the boxes are written. -/
theorem own_box {W V : World} {B : Nat} {v : Value} {l : List UInt8} (ho : OwnB W B v l) (hs : W.heap.size ≤ V.heap.size) (hk : ∀ k, B ≤ k → V.heap[k]? = W.heap[k]?) : OwnB V B v l :=
  own_kept ho hs fun k e => hk k (own_at ho e).1
/-- The result out of a packet's cell, and a second one. -/
theorem results_pk2 {fn : Func} {i j : Nat} (h : fn.results = #[.cell i 27, .tmp j]) (tmps : Array Value) (w : World) (g : Nat) (cs : Array Value) (v : Value)
    (hp : tmps.getD i undef = .pointer (some ⟨g, 0, none⟩)) (h3 : tmps.getD j undef = v) (hg : Blk w g 27 cs) (hs : cs.size = 12) :
    (results fn tmps).run Try.prog w = .ok (.tuple #[.agg cs, v]) w := by
  have hp' : tmps[i]?.getD undef = .pointer (some ⟨g, 0, none⟩) := by simpa using hp
  have h3' : tmps[j]?.getD undef = v := by simpa using h3
  simp [results, h, hp', h3', asAddr, run_loadVar_row w g 27 _ cs (0, 0) _ hg Try.underlying27 rfl (by rw [hs]; exact infoPk)]
/-- The result out of a packet's cell, and two more. -/
theorem results_pk33 {fn : Func} {i j k : Nat} (h : fn.results = #[.cell i 27, .tmp j, .tmp k]) (tmps : Array Value) (w : World) (g : Nat) (cs : Array Value) (v u : Value)
    (hp : tmps.getD i undef = .pointer (some ⟨g, 0, none⟩)) (h3 : tmps.getD j undef = v) (h4 : tmps.getD k undef = u) (hg : Blk w g 27 cs) (hs : cs.size = 12) :
    (results fn tmps).run Try.prog w = .ok (.tuple #[.agg cs, v, u]) w := by
  have hp' : tmps[i]?.getD undef = .pointer (some ⟨g, 0, none⟩) := by simpa using hp
  have h3' : tmps[j]?.getD undef = v := by simpa using h3
  have h4' : tmps[k]?.getD undef = u := by simpa using h4
  simp [results, h, hp', h3', h4', asAddr, run_loadVar_row w g 27 _ cs (0, 0) _ hg Try.underlying27 rfl (by rw [hs]; exact infoPk)]
theorem zeroP_one : (Pk.cells Hed.zero).all (·.oneCell') = true := by simp [Hed.zero, Pk.cells, Value.oneCell']
theorem pkP_one (p : Pk) : (Pk.cells p).all (·.oneCell') = true := by simp [Pk.cells, Value.oneCell']
end Go.Proofs.Ytepcbklokcfbfaa.Dat
