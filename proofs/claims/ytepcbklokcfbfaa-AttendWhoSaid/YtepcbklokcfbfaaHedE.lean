/- The chapter's example (layer 9). -/
import Derived.Test.YtepcbklokcfbfaaHedD
namespace Go.Proofs.Ytepcbklokcfbfaa.Hed
open Go.ChangeShapes Go.WideShapes Go.ChangeAt Go.RowKit Go.Deep
open Go.Proofs.Ytepcbklokcfbfaa.Byt Go.Proofs.Ytepcbklokcfbfaa.Key Go.Proofs.Ytepcbklokcfbfaa.Buf Go.Proofs.Ytepcbklokcfbfaa.BufM
set_option linter.unusedVariables false
set_option linter.unusedSimpArgs false
/-- The chapter's packet. -/
def ex : Pk := ⟨3, (300, 2, 7), 1, 0, 0, 0, 0, 0, 0, none, 0, []⟩
theorem ex_put : putS (20 : Int).toNat (0, []) ex = (0, [3, 1, 172, 2, 2, 7, 0, 0, 0]) := by
  have h300 : sev (un 300) = [172, 2] := by rw [show un 300 = 300 from rfl, sev_big (by omega), sev_small (by omega)]; rfl
  have e1 : wByte (20 : Int).toNat (0, []) [kb 3] = (0, [3]) := by decide
  have e2 : wByte (20 : Int).toNat (0, [3]) [kb 1] = (0, [3, 1]) := by decide
  have e3 : wNum (20 : Int).toNat (0, [3, 1]) (un 300) = (0, [3, 1, 172, 2]) := by unfold wNum; rw [h300]; decide
  have e4 : wByte (20 : Int).toNat (0, [3, 1, 172, 2]) [kb 2] = (0, [3, 1, 172, 2, 2]) := by decide
  have e5 : wFix (20 : Int).toNat (0, [3, 1, 172, 2, 2]) (un 7) 4 = (0, [3, 1, 172, 2, 2, 7, 0, 0, 0]) := by decide
  unfold putS ex
  rw [if_pos (by decide)]
  simp only
  rw [e1, e2, e3, e4, e5]
theorem ex_good : gd ex = true := by decide
end Go.Proofs.Ytepcbklokcfbfaa.Hed
namespace Go.Proofs.Ytepcbklokcfbfaa.Hed
open Go.ChangeShapes Go.WideShapes Go.ChangeAt Go.RowKit Go.Deep
open Go.Proofs.Ytepcbklokcfbfaa.Byt Go.Proofs.Ytepcbklokcfbfaa.Key Go.Proofs.Ytepcbklokcfbfaa.Buf
/-- A box that the call laid. -/
theorem one_box (w w0 : World) (t : TypeId) (cs : Array Value) (h : w0 = w.alloc (.cells cs t)) : Below w.heap.size w w0 ∧ Blk w0 w.heap.size t cs := by
  subst h
  exact ⟨(Below.refl _ _).alloc (Nat.le_refl _) _, Blk.new _ _ _⟩
/-- A packet's cells. -/
theorem blk_cells {W : World} {b : Nat} {t : TypeId} {p : Pk} (h : Blk W b t p.cells) : W.cell? ⟨b, 0, none⟩ = some (.int .i64 p.kind) ∧ W.cell? ⟨b, 1, none⟩ = some (.int .i64 p.key.1) ∧ W.cell? ⟨b, 2, none⟩ = some (.int .i64 p.key.2.1) ∧ W.cell? ⟨b, 3, none⟩ = some (.int .u32 p.key.2.2) ∧ W.cell? ⟨b, 4, none⟩ = some (.int .i64 p.hops) ∧
    W.cell? ⟨b, 5, none⟩ = some (.int .i64 p.no) ∧ W.cell? ⟨b, 6, none⟩ = some (.int .i64 p.to) ∧ W.cell? ⟨b, 7, none⟩ = some (.int .i64 p.index) ∧ W.cell? ⟨b, 8, none⟩ = some (.int .i64 p.total) ∧ W.cell? ⟨b, 9, none⟩ = some (.int .i64 p.stamp) ∧ W.cell? ⟨b, 10, none⟩ = some (.int .i64 p.value) ∧ W.cell? ⟨b, 11, none⟩ = some (.slice p.ad p.body.length p.cap) :=
  ⟨h.cell 0, h.cell 1, h.cell 2, h.cell 3, h.cell 4, h.cell 5, h.cell 6, h.cell 7, h.cell 8, h.cell 9, h.cell 10, h.cell 11⟩
theorem pk_cells (w w0 : World) (p : Pk) (h : w0 = w.alloc (.cells p.cells 27)) (W : World) (hW : Below w0.heap.size w0 W) : W.cell? ⟨w.heap.size, 0, none⟩ = some (.int .i64 p.kind) ∧ W.cell? ⟨w.heap.size, 1, none⟩ = some (.int .i64 p.key.1) ∧ W.cell? ⟨w.heap.size, 2, none⟩ = some (.int .i64 p.key.2.1) ∧ W.cell? ⟨w.heap.size, 3, none⟩ = some (.int .u32 p.key.2.2) ∧ W.cell? ⟨w.heap.size, 4, none⟩ = some (.int .i64 p.hops) ∧
    W.cell? ⟨w.heap.size, 5, none⟩ = some (.int .i64 p.no) ∧ W.cell? ⟨w.heap.size, 6, none⟩ = some (.int .i64 p.to) ∧ W.cell? ⟨w.heap.size, 7, none⟩ = some (.int .i64 p.index) ∧ W.cell? ⟨w.heap.size, 8, none⟩ = some (.int .i64 p.total) ∧ W.cell? ⟨w.heap.size, 9, none⟩ = some (.int .i64 p.stamp) ∧ W.cell? ⟨w.heap.size, 10, none⟩ = some (.int .i64 p.value) ∧ W.cell? ⟨w.heap.size, 11, none⟩ = some (.slice p.ad p.body.length p.cap) :=
  blk_cells ((one_box w w0 _ _ h).2.below hW)
end Go.Proofs.Ytepcbklokcfbfaa.Hed
