/- May a packet be (layer 10): isBare, Good; the document's Good. -/
import Derived.Test.YtidfdlpdacbkoaaDatX
import Derived.Test.YtidfdlpdacbkoaaHedH
namespace Go.Proofs.Ytidfdlpdacbkoaa.Dat
open Go.ChangeShapes Go.WideShapes Go.ChangeAt Go.RowKit Go.Deep
open Go.Proofs.Ytidfdlpdacbkoaa.Byt Go.Proofs.Ytidfdlpdacbkoaa.Key Go.Proofs.Ytidfdlpdacbkoaa.Buf Go.Proofs.Ytidfdlpdacbkoaa.Hed
set_option linter.unusedVariables false
set_option linter.unusedSimpArgs false
/-- Nothing but a head and a body. -/
def bareP (p : Pk) : Pk := ⟨p.kind, p.key, p.hops, 0, 0, 0, 0, 0, 0, p.ad, p.cap, p.body⟩
/-- May the packet be? -/
def datG (p : Pk) : Bool := eqP p (mk4 p.key p.hops p.ad p.cap p.body) && (gd p && decide ((p.body.length : Int) < 1025))
theorem eqP_bare (p : Pk) : eqP p (mk4 p.key p.hops p.ad p.cap p.body) = ((p.kind == 4) && eqP p (bareP p)) := by
  unfold eqP bareP mk4
  simp
theorem len_1024 (n : Nat) : decide ((n : Int) < 1025) = decide ((n : Int) ≤ 1024) := by
  rw [Bool.eq_iff_iff, decide_eq_true_iff, decide_eq_true_iff]
  omega
theorem datG_bare (p : Pk) : datG p = ((p.kind == 4) && (gd p && (decide ((p.body.length : Int) ≤ 1024) && eqP p (bareP p)))) := by
  unfold datG
  rw [eqP_bare]
  rw [len_1024 p.body.length]
  generalize (p.kind == 4) = a
  generalize gd p = b
  generalize decide ((p.body.length : Int) ≤ 1024) = c
  generalize eqP p (bareP p) = d
  cases a <;> cases b <;> cases c <;> cases d <;> rfl
end Go.Proofs.Ytidfdlpdacbkoaa.Dat
