/- Layer 27's law of clocks between the least and the greatest, plain. -/
import Derived.Test.YtkcjllkhmncfdaaDoorMndE
namespace Go.Proofs.YtkcjllkhmncfdaaDoor.Mnd
open Go.ChangeShapes Go.WideShapes Go.ChangeAt Go.RowKit
set_option linter.unusedVariables false
/-- What the least and the greatest of the first k clocks of a set are known to be. -/
def WI (A : List Int) (S k : Nat) (x y : Int) (b : Bool) : Prop :=
  (b = true → ∃ j, j < k ∧ S.testBit j = true) ∧ (∀ j, j < k → S.testBit j = true → b = true ∧ x ≤ A.getD j 0 ∧ A.getD j 0 ≤ y)
theorem WI.start (A : List Int) (S : Nat) : WI A S 0 0 0 false := ⟨fun h => (by cases h), fun j hj => (by omega)⟩
theorem WI.skip {A : List Int} {S k : Nat} {x y : Int} {b : Bool} (h : WI A S k x y b) (hb : S.testBit k = false) : WI A S (k + 1) x y b := by
  refine ⟨fun e => ?_, fun j hj ht => ?_⟩
  · obtain ⟨j, hj, ht⟩ := h.1 e
    exact ⟨j, by omega, ht⟩
  · by_cases hjk : j = k
    · subst hjk; rw [hb] at ht; cases ht
    · exact h.2 j (by omega) ht
theorem WI.more {A : List Int} {S k : Nat} {x y x' y' : Int} {b : Bool} (h : WI A S k x y b) (hb : S.testBit k = true) (h1 : x' ≤ A.getD k 0) (h2 : A.getD k 0 ≤ y') (h3 : b = true → x' ≤ x ∧ y ≤ y') : WI A S (k + 1) x' y' true := by
  refine ⟨fun _ => ⟨k, by omega, hb⟩, fun j hj ht => ⟨rfl, ?_⟩⟩
  by_cases hjk : j = k
  · subst hjk; exact ⟨h1, h2⟩
  · obtain ⟨e, a1, a2⟩ := h.2 j (by omega) ht
    have := h3 e
    omega
theorem within_end {A : List Int} {S m : Nat} {rs : List Rw} {ds : List Int} {f E D x y : Int} {b : Bool} (hA : A.length = m) (hm : m ≤ 8) (hAi : ∀ x ∈ A, -2147483648 ≤ x ∧ x ≤ 2147483647) (hE : 0 ≤ E ∧ E ≤ 65535) (hD : 0 ≤ D ∧ D ≤ 65535) (he : InR E rs) (hd : In D ds)
    (h : WI A S m x y b) (hb : b = true) {p : Nat} (hp : p < m) : x - (E + D) ≤ (oneL A S (rs.map Rw.zs) ds f).getD p 0 ∧ (oneL A S (rs.map Rw.zs) ds f).getD p 0 ≤ y + (E + D) := by
  obtain ⟨j, hj, ht⟩ := h.1 hb
  have hw : 0 < (whoL S A.length).length := by
    have hmem : j ∈ whoL S A.length := who_mem.2 ⟨by omega, ht, by omega⟩
    cases hw : whoL S A.length with
    | nil => rw [hw] at hmem; cases hmem
    | cons a l => simp
  have hat : (oneL A S (rs.map Rw.zs) ds f).getD p 0 = oneAt A S (rs.map Rw.zs) ds f p := by
    unfold oneL
    simp [List.getD, show p < A.length by omega]
  rw [hat]
  refine one_within (by omega) (by omega) (inR_map he) hd hw (fun q hq => ?_) p
  obtain ⟨_, hq2, hq3⟩ := who_mem.1 hq
  have hin : A.getD q 0 ∈ A := by
    have e : A.getD q 0 = A[q] := by simp [List.getD, hq3]
    rw [e]; exact List.getElem_mem hq3
  have := hAi _ hin
  rw [tld_at hq3 (by omega) (by omega)]
  exact (h.2 q (by omega) hq2).2
end Go.Proofs.YtkcjllkhmncfdaaDoor.Mnd
