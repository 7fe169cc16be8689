/- The statements' Cut of layer mend (27): clocks kept few. -/
import Derived.Test.YtkcjllkhmncfdaaDoorTrmB
namespace Go.Proofs.YtkcjllkhmncfdaaDoor.Mnd
open Go.ChangeShapes Go.WideShapes Go.ChangeAt Go.RowKit
open Trm (own_lit)
open I64s (In64 Sl OwnL ListPost app_one app_all)
set_option linter.unusedVariables false
theorem mcut_any (ad : Option Addr) (cap : Nat) (zs : List Int) (w : World) (h : Sl w ad cap zs) :
    Calls Tryd.prog 11 #[.slice ad zs.length cap] w (ListPost (zs.take 8) w) := by
  obtain ⟨n, hn⟩ : ∃ n, zs.length = n := ⟨_, rfl⟩
  have hle := h.le
  have hmx := h.mx
  have HTL := Lib.hid (show (zs.take 8).length = min n 8 by rw [List.length_take, hn]; omega)
  have hB0 : Below w.heap.size w (w.alloc (.cells #[] 2)) := (Below.refl _ _).alloc (Nat.le_refl _) _
  have HR := Lib.hid ((h.below hB0).rd.take 8)
  have HNil := Lib.hid h.nil
  have HP : Hid (∀ l' ad' cap' w1, Hid (l' = [] ++ zs.take 8) → OwnL w1 w.heap.size (.slice ad' l'.length cap') l' → Below w.heap.size (w.alloc (.cells #[] 2)) w1 → ListPost (zs.take 8) w (.returned (.slice ad' l'.length cap')) w1) := Lib.hid (fun l' ad' cap' w1 e ho hB => by
    obtain rfl : l' = zs.take 8 := by rw [e.out]; rfl
    exact ⟨ad', cap', rfl, ho, hB0.trans hB⟩)
  rw [hn] at hle ⊢
  clear h hn
  generalize zs.take 8 = l' at *
  by_cases h8 : 8 < n
  · have HE : Hid (l'.length = 8) := Lib.hid (by rw [HTL.out]; omega)
    go_enter Tryd.func11, Tryd.ntmps11
    go_wp2_with (at_builtin; refine app_all rfl _ _ rfl w.heap.size _ _ _ [] rfl (own_lit w) ad 8 cap l' rfl HE.out.symm HR.out HNil.out (by rw [HE.out]; simp) (by simp) ?_; intro l2 ad' cap' w1 hl' hown hB _)
    have HQ := Lib.hid (HP.out l2 ad' cap' w1 hl' hown hB)
    clear hown hB hl' hB0 HP
    go_wp2_with fail
    go_ret
    exact HQ.out
  · have HE : Hid (l'.length = n) := Lib.hid (by rw [HTL.out]; omega)
    go_enter Tryd.func11, Tryd.ntmps11
    go_wp2_with (at_builtin; refine app_all rfl _ _ rfl w.heap.size _ _ _ [] rfl (own_lit w) ad n cap l' rfl HE.out.symm HR.out HNil.out (by rw [HE.out]; simp; omega) (by simp) ?_; intro l2 ad' cap' w1 hl' hown hB _)
    have HQ := Lib.hid (HP.out l2 ad' cap' w1 hl' hown hB)
    clear hown hB hl' hB0 HP
    go_wp2_with fail
    go_ret
    exact HQ.out
end Go.Proofs.YtkcjllkhmncfdaaDoor.Mnd
