/- A map by nodes as the library reads it, and the readings that it holds (layer 25). -/
import Derived.Test.YtcadmepfnafpmaaRndM
import Derived.Maps.OwnSet
import Derived.Maps.RangeWalk
namespace Go.Proofs.Ytcadmepfnafpmaa.Rnd
open Go.Maps
set_option linter.unusedVariables false
set_option linter.unusedSimpArgs false
/-- A map as it is read holds just these readings. -/
structure Md (D : DataW Unit) (L : List Rg) : Prop where
  tidy : Tidy D
  size_ : Maps.size D = L.length
  has_ : ∀ x : Int, Maps.has D (.int .i64 x) = hasR L x
  at_ : ∀ x z : Int, D.atKey (.int .i64 x) (.lit (.int .i64 z)) = .lit (.int .i64 (if hasR L x = true then getR L x else z))
theorem key_ne {x y : Int} (h : ¬ y = x) : Lit.int .i64 x ≠ Lit.int .i64 y := fun e => h (by injection e with _ e; exact e.symm)
theorem isKey (x : Int) : WideAt.IsKeyLit (Lit.int .i64 x) := trivial
theorem Md.start : Md (.map []) [] := ⟨tidy_empty, rfl, fun x => rfl, fun x z => rfl⟩
theorem Md.put {D : DataW Unit} {L : List Rg} (h : Md D L) {x d : Int} (hx : hasR L x = false) : Md (D.put (.int .i64 x) (.lit (.int .i64 d))) (L ++ [(x, d)]) := by
  refine ⟨h.tidy.put (isKey x) _, ?_, fun y => ?_, fun y z => ?_⟩
  · rw [size_put h.tidy, h.has_, hx, h.size_]
    simp
  · rw [hasR_snoc]
    by_cases e : x = y
    · subst e
      rw [has_put_same h.tidy.isMap (isKey x)]
      simp
    · rw [has_put_other (key_ne e), h.has_]
      simp [e]
  · rw [hasR_snoc, getR_snoc]
    by_cases e : x = y
    · subst e
      rw [atKey_put_same h.tidy.isMap (isKey x), hx]
      simp
    · rw [atKey_put_other (key_ne e), h.at_]
      simp only [e, decide_false, Bool.or_false, if_false]
      cases hasR L y <;> rfl
/-- What a look-up with 'ok' and zero in its place tells. -/
theorem Md.look {D : DataW Unit} {L : List Rg} (h : Md D L) {x c : Int} (hat : D.atKey (.int .i64 x) (.lit (.int .i64 0)) = .lit (.int .i64 c)) : c = getR L x := by
  rw [h.at_] at hat
  injection hat with e
  injection e with _ e
  rw [← e]
  cases hh : hasR L x with
  | false => rw [getR_no hh]; rfl
  | true => rfl
/-- An entry that has come is a reading. -/
theorem Md.came {D : DataW Unit} {L : List Rg} (h : Md D L) {x c : Int} (hat : ∀ zd, D.atKey (.int .i64 x) zd = .lit (.int .i64 c)) : (x, c) ∈ L := by
  have h1 : hasR L x = true := by rw [← h.has_]; exact has_true_of_atKey hat
  have h2 := h.look (hat _)
  rw [h2]
  exact getR_mem h1
/-- Those still to come, as a function of nodes. -/
def lf (left : Lit → Bool) (x : Int) : Bool := left (.int .i64 x)
theorem lf_step (left : Lit → Bool) (x : Int) : ∀ z, lf (fun k : Lit => left k && !k.sameKey (.int .i64 x)) z = (lf left z && !decide (z = x)) := fun z => by
  unfold lf
  simp [Lit.sameKey]
end Go.Proofs.Ytcadmepfnafpmaa.Rnd
