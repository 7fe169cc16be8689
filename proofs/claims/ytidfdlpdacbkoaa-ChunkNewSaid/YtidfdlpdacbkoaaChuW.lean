/- Two packets while bytes elsewhere are turned (layer 13: the law of New). -/
import Derived.Test.YtidfdlpdacbkoaaChuM
import Derived.Test.YtidfdlpdacbkoaaDatN
namespace Go.Proofs.Ytidfdlpdacbkoaa.Chu
open Go.ChangeShapes Go.WideShapes Go.ChangeAt Go.RowKit Go.Deep
open Go.Proofs.Ytidfdlpdacbkoaa.Byt Go.Proofs.Ytidfdlpdacbkoaa.Key Go.Proofs.Ytidfdlpdacbkoaa.Buf Go.Proofs.Ytidfdlpdacbkoaa.Hed Go.Proofs.Ytidfdlpdacbkoaa.Dat Go.Proofs.Ytidfdlpdacbkoaa.BufM Go.Proofs.Ytidfdlpdacbkoaa.Pkt
set_option linter.unusedVariables false
set_option linter.unusedSimpArgs false
/-- Two packets' boxes, whose bytes lie elsewhere than in block gi. -/
structure NewC (w : World) (gi bp bq : Nat) (p q : Pk) (W : World) : Prop where
  below : Below w.heap.size w W
  boxp : Blk W bp 27 p.cells
  boxq : Blk W bq 27 q.cells
  rdp : RdB W p.ad p.body
  rdq : RdB W q.ad q.body
  ge : w.heap.size ≤ gi
  nep : gi ≠ bp
  neq : gi ≠ bq
  farp : p.body ≠ [] → ∀ b o, p.ad = some ⟨b, o, none⟩ → gi ≠ b
  farq : q.body ≠ [] → ∀ b o, q.ad = some ⟨b, o, none⟩ → gi ≠ b
theorem NewC.put {w : World} {gi bp bq : Nat} {p q : Pk} {W : World} (h : NewC w gi bp bq p q W) (i : Nat) (v : Value) : NewC w gi bp bq p q (W.setCell ⟨gi, i, none⟩ v) := by
  have hk : ∀ b, b ≠ gi → (W.setCell ⟨gi, i, none⟩ v).heap[b]? = W.heap[b]? := fun b hb => heap_setCell_other _ _ _ _ hb
  exact ⟨h.below.setCell (p := ⟨gi, i, none⟩) h.ge v, (hk _ (Ne.symm h.nep)).trans h.boxp, (hk _ (Ne.symm h.neq)).trans h.boxq, rd_kept h.rdp fun hne b o e _ => hk b (Ne.symm (h.farp hne b o e)), rd_kept h.rdq fun hne b o e _ => hk b (Ne.symm (h.farq hne b o e)), h.ge, h.nep, h.neq, h.farp, h.farq⟩
theorem NewC.kept {w : World} {gi bp bq : Nat} {p q : Pk} {W V : World} (h : NewC w gi bp bq p q W) (hB : Below W.heap.size W V) : NewC w gi bp bq p q V :=
  ⟨h.below.trans (hB.mono h.below.size), h.boxp.below hB, h.boxq.below hB, h.rdp.below hB, h.rdq.below hB, h.ge, h.nep, h.neq, h.farp, h.farq⟩
/-- The same beside the bytes that are turned. -/
structure NewD (w : World) (gi bp bq : Nat) (p q : Pk) (ad : Option Addr) (n : Nat) (W : World) : Prop where
  ns : NewC w gi bp bq p q W
  row : 0 < n → ad = some ⟨gi, 0, none⟩ ∧ Row8 W gi n
theorem NewD.kept {w : World} {gi bp bq : Nat} {p q : Pk} {ad : Option Addr} {n : Nat} {W V : World} (h : NewD w gi bp bq p q ad n W) (hB : Below W.heap.size W V) : NewD w gi bp bq p q ad n V :=
  ⟨h.ns.kept hB, fun h0 => ⟨(h.row h0).1, (h.row h0).2.below hB⟩⟩
theorem NewD.put {w : World} {gi bp bq : Nat} {p q : Pk} {ad : Option Addr} {n : Nat} {W : World} (h : NewD w gi bp bq p q ad n W) (i x : Nat) (hx : x < 256) : NewD w gi bp bq p q ad n (W.setCell ⟨gi, i, none⟩ (.int .u8 (x : Int))) :=
  ⟨h.ns.put i _, fun h0 => ⟨(h.row h0).1, (h.row h0).2.put i x hx⟩⟩
theorem same_chuP (k : Ky) (no to index total : Int) (a a' : Option Addr) (c c' : Nat) (l : List UInt8) : eqP (chuP k no to index total a c l) (chuP k no to index total a' c' l) = true := eqP_self (chuP k no to index total a c l)
theorem chuG_chuP (k : Ky) (no to index total : Int) (a a' : Option Addr) (c c' : Nat) (l : List UInt8) : chuG (chuP k no to index total a c l) = chuG (chuP k no to index total a' c' l) := rfl
end Go.Proofs.Ytidfdlpdacbkoaa.Chu
