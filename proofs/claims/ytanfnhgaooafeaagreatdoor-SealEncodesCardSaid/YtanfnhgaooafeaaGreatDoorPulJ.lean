/- The document's Get (layer 11). -/
import Derived.Test.YtanfnhgaooafeaaGreatDoorPulX
import Derived.Test.YtanfnhgaooafeaaGreatDoorBufX
namespace Go.Proofs.YtanfnhgaooafeaaGreatDoor.Pul
open Go.ChangeShapes Go.WideShapes Go.ChangeAt Go.RowKit Go.Deep
open Go.Proofs.YtanfnhgaooafeaaGreatDoor.Byt Go.Proofs.YtanfnhgaooafeaaGreatDoor.Key Go.Proofs.YtanfnhgaooafeaaGreatDoor.Buf Go.Proofs.YtanfnhgaooafeaaGreatDoor.Hed Go.Proofs.YtanfnhgaooafeaaGreatDoor.Dat Go.Proofs.YtanfnhgaooafeaaGreatDoor.BufM
set_option linter.unusedVariables false
set_option linter.unusedSimpArgs false
/-- A packet's box and the packet handed back. -/
structure D2 (w : World) (cs : Array Value) (W : World) : Prop where
  box : Blk W w.heap.size 27 cs
  res : Blk W (w.heap.size + 1) 27 (Pk.cells zero)
  below : Below w.heap.size w W
theorem D2.start {w W : World} {cs : Array Value} (h : W = (w.alloc (.cells cs 27)).alloc (.cells (Pk.cells zero) 27)) : D2 w cs W := by
  obtain ⟨h1, h2, h3⟩ := boxes_two w W _ _ _ h
  exact ⟨h2, h3, h1⟩
theorem D2.drewN {w W : World} {cs : Array Value} (h : D2 w cs W) (n : Nat) : D2 w cs (W.drewN n) := ⟨h.box.drewN n, h.res.drewN n, Own.below_drewN h.below n⟩
theorem D2.put {w W : World} {cs : Array Value} (h : D2 w cs W) (i : Nat) (u : Value) : D2 w (cs.setIfInBounds i u) (W.setCell ⟨w.heap.size, i, none⟩ u) :=
  ⟨h.box.put i u, h.res.far (p := ⟨w.heap.size, i, none⟩) (by simp) u, h.below.setCell (p := ⟨w.heap.size, i, none⟩) (Nat.le_refl _) u⟩
theorem D2.fin {w W : World} {cs : Array Value} (h : D2 w cs W) (es : Array Value) (hs : (Pk.cells zero).size = es.size) : Blk (W.setRow (w.heap.size + 1) es) (w.heap.size + 1) 27 es ∧ Below w.heap.size w (W.setRow (w.heap.size + 1) es) :=
  ⟨Blk.row h.res es hs, below_setRow h.below (by omega) _⟩
theorem rds_put {w W : World} {G : Nat} {ad : Option Addr} {len cap : Nat} {l : List UInt8} (h : RdS W G ad len cap l) (hG : G ≤ w.heap.size) (i : Nat) (u : Value) : RdS (W.setCell ⟨w.heap.size, i, none⟩ u) G ad len cap l :=
  h.kept fun b hb => heap_setCell_other _ _ _ _ (by simp only; omega)
/-- What the document's Get leaves where it went well. -/
def RGo (p : Pk) (n : Nat) (w : World) (e : Ending) (w' : World) : Prop := ∃ ad cap, e = .returned (.tuple #[pval p, .slice ad n cap, .int .i64 0]) ∧ Below w.heap.size w w'
/-- What GetFixed and GetNum leave beside the boxes. -/
def GD (w : World) (G : Nat) (cs : Array Value) (r : Nat × List UInt8 × Nat) (e : Ending) (w' : World) : Prop :=
  ∃ ad cap, e = .returned (.tuple #[.int .u64 ((r.1 : Nat) : Int), .slice ad r.2.1.length cap, .int .i64 ((r.2.2 : Nat) : Int)]) ∧ Hid (RdS w' G ad r.2.1.length cap r.2.1) ∧ Hid (D2 w cs w')
theorem GD.of {w W : World} {G : Nat} {cs : Array Value} {r : Nat × List UInt8 × Nat} (h : D2 w cs W) {e : Ending} {w' : World} (hp : GPost W G r e w') : GD w G cs r e w' := by
  obtain ⟨ad, len, cap, n, rfl, rfl, hr⟩ := hp
  obtain rfl := hr.len_
  exact ⟨ad, cap, rfl, Lib.hid (hr.drewN n), Lib.hid (h.drewN n)⟩
end Go.Proofs.YtanfnhgaooafeaaGreatDoor.Pul
