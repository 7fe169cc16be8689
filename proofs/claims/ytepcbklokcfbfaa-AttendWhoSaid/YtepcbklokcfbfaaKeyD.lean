/- Contracts of package key (layer 6): which key is ahead, may a key be, arrays. -/
import Derived.Test.YtepcbklokcfbfaaKeyC
import Derived.Handy
import Derived.Sort.Grow
namespace Go.Proofs.Ytepcbklokcfbfaa.Key
open Go.ChangeShapes Go.WideShapes Go.ChangeAt Go.RowKit Go.Sort
set_option linter.unusedVariables false
def cI (x y : Int) : Int := if x < y then -1 else if y < x then 1 else 0
def orI (a b c : Int) : Int := if a ≠ 0 then a else if b ≠ 0 then b else c
def cmpK (x y : Ky) : Int := orI (cI x.1 y.1) (cI x.2.1 y.2.1) (cI x.2.2 y.2.2)
theorem cmp_lt (x y : Ky) : decide (cmpK x y < 0) = ltK x y := by
  unfold cmpK orI cI ltK
  rw [decide_eq_decide]
  repeat' split
  all_goals omega
/-- A world that has grown, and drawn. -/
def Gr (w W : World) : Prop := ∃ q os, W = grow (w.drewN q) os
theorem Gr.refl (w : World) : Gr w w := ⟨0, #[], by rw [grow_empty]; rfl⟩
theorem Gr.drew {w W : World} (h : Gr w W) : Gr w W.drew := by
  obtain ⟨q, os, rfl⟩ := h
  exact ⟨q + 1, os, rfl⟩
theorem Gr.alloc {w W : World} (h : Gr w W) (o : Obj) : Gr w (W.alloc o) := by
  obtain ⟨q, os, rfl⟩ := h
  exact ⟨q, os ++ #[o], by rw [alloc_eq_grow, grow_grow]⟩
theorem Gr.trans {w w1 w2 : World} (h : Gr w w1) (h' : Gr w1 w2) : Gr w w2 := by
  obtain ⟨q, os, rfl⟩ := h
  obtain ⟨q', os', rfl⟩ := h'
  exact ⟨q + q', os ++ os', by simp [grow, World.drewN, Nat.add_assoc]⟩
theorem Gr.below {w W : World} (h : Gr w W) : Below w.heap.size w W := by
  obtain ⟨q, os, rfl⟩ := h
  refine ⟨rfl, rfl, rfl, by simp [grow, World.drewN], fun k hk => ?_⟩
  rw [heap_grow_old _ _ (by simpa [World.drewN] using hk)]
  rfl
end Go.Proofs.Ytepcbklokcfbfaa.Key
