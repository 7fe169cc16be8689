/- Are two packets the same (layer 9): the program's Same. -/
import Derived.Test.YtidfdlpdacbkoaaHedF
import Derived.Test.YtidfdlpdacbkoaaHedX
import Derived.Laws.StructEq
import Derived.Deep.RegionHeldLaw
import Derived.Deep.RegionWith
import Derived.Deep.Cut
namespace Go.Proofs.Ytidfdlpdacbkoaa.Hed
open Go.ChangeShapes Go.WideShapes Go.ChangeAt Go.RowKit Go.Deep
open Go.Proofs.Ytidfdlpdacbkoaa.Byt Go.Proofs.Ytidfdlpdacbkoaa.Key Go.Proofs.Ytidfdlpdacbkoaa.Buf
set_option linter.unusedVariables false
set_option linter.unusedSimpArgs false
/-- Are two packets without their bodies the same? -/
def eqF (p q : Pk) : Bool := (p.kind == q.kind) && ((p.hops == q.hops) && (eqK p.key q.key && ((p.no == q.no) && ((p.stamp == q.stamp) && ((p.value == q.value) && ((p.to == q.to) && ((p.index == q.index) && (p.total == q.total))))))))
theorem eqP_flat (p q : Pk) : eqP p q = (eqF p q && (strB p.body == strB q.body)) := by
  unfold eqP eqF
  generalize (p.kind == q.kind) = a
  generalize (p.hops == q.hops) = b
  generalize eqK p.key q.key = c
  generalize (p.no == q.no) = d
  generalize (p.to == q.to) = e
  generalize (p.index == q.index) = f
  generalize (p.total == q.total) = g
  generalize (p.stamp == q.stamp) = h
  generalize (p.value == q.value) = i
  generalize (strB p.body == strB q.body) = j
  cases a <;> cases b <;> cases c <;> cases d <;> cases e <;> cases f <;> cases g <;> cases h <;> cases i <;> simp
theorem eq_key (a b c d e f : Int) (w : World) : (Op.equalIn 9999 24 (.agg #[.int .i64 a, .int .i64 b, .int .u32 c]) (.agg #[.int .i64 d, .int .i64 e, .int .u32 f])).run Try.prog w = .ok (eqK (a, b, c) (d, e, f)) w := by
  have hS : Try.prog.underlying 24 = some (.struct (Try.prog.fieldsOf 24)) := by kernel_rfl
  have hp : Try.prog.stoodInHeld 24 = false := by kernel_rfl
  rw [show (9999 : Nat) = 9998 + 1 from rfl, run_equalIn_struct w 9998 24 _ _ hS hp]
  simp only [Program.fieldsOf, Try.underlying24]
  go_simp
  by_cases h1 : a = d <;> by_cases h2 : b = e <;> by_cases h3 : c = f <;> simp [h1, h2, h3, eqK]
theorem two_boxes (w w0 : World) (p q : Pk) (h : w0 = (w.alloc (.cells p.cells 27)).alloc (.cells q.cells 27)) :
    Below w.heap.size w w0 ∧ Blk w0 w.heap.size 27 p.cells ∧ Blk w0 (w.heap.size + 1) 27 q.cells := by
  subst h
  refine ⟨((Below.refl _ _).alloc (Nat.le_refl _) _).alloc (by simp) _, (Blk.new w _ _).alloc _, ?_⟩
  have := Blk.new (w.alloc (.cells p.cells 27)) 27 q.cells
  rw [World.size_alloc] at this
  exact this
end Go.Proofs.Ytidfdlpdacbkoaa.Hed
