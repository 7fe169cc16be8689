/- Contracts of package reach (layer 17): the nodes that are left; whom a ring is linked with. -/
import Derived.Test.YtlmdandgjapmjaaEachA
import Derived.Test.YtlmdandgjapmjaaGrfB
import Derived.Test.YtlmdandgjapmjaaReaN
namespace Go.Proofs.Ytlmdandgjapmjaa.Rea
open Go.RowKit Go.Shelf Go.ChangeShapes Go.WideShapes
open Grf (Pr GR Ok nearP)
open Nodes (Nod encN boxed_kept mem ret_int)
set_option linter.unusedVariables false
attribute [local go_sem] Oper.semAt_some
/-- A pointer to a graph, or to none. -/
def GP (w : World) (p : Option Addr) (n : Nat) (L : List Pr) : Prop := (p = none ∧ n = 0 ∧ L = []) ∨ ∃ g b, p = some ⟨g, 0, none⟩ ∧ GR w g b n L
section
variable {w w' : World} {p : Option Addr} {n : Nat} {L : List Pr}
theorem GP.below (h : GP w p n L) (hB : Below w.heap.size w w') : GP w' p n L := by
  rcases h with h | ⟨g, b, e, h⟩
  · exact .inl h
  · exact .inr ⟨g, b, e, h.below hB⟩
theorem GP.le (h : GP w p n L) : n ≤ 64 := by
  rcases h with ⟨_, h, _⟩ | ⟨g, b, e, h⟩
  · omega
  · exact h.le
theorem GP.ok (h : GP w p n L) : Ok n L := by
  rcases h with ⟨_, rfl, rfl⟩ | ⟨g, b, e, h⟩
  · exact Grf.ok_nil 0
  · exact h.ok
end
theorem gpn_any (p : Option Addr) (n : Nat) (L : List Pr) (w : World) (h : GP w p n L) :
    Calls Try.prog 22 #[.pointer p] w fun e w' => e = .returned (.int .i64 (n : Int)) ∧ w = w' := by
  rcases h with ⟨rfl, rfl, rfl⟩ | ⟨g, b, rfl, h⟩
  · exact Grf.n_nil w
  · exact Grf.n_any g b n L w h
def valN (pre : List Nod) : List Nat := pre.map Fin.val
end Go.Proofs.Ytlmdandgjapmjaa.Rea
