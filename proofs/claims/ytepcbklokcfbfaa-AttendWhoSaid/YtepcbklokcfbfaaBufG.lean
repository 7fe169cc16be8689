/- The reader: Bytes. -/
import Derived.Test.YtepcbklokcfbfaaBufF
namespace Go.Proofs.Ytepcbklokcfbfaa.Buf
open Go.ChangeShapes Go.WideShapes Go.ChangeAt Go.RowKit
open Go.Proofs.Ytepcbklokcfbfaa.Byt Go.Proofs.Ytepcbklokcfbfaa.Units Go.Proofs.Ytepcbklokcfbfaa.BufM
set_option linter.unusedVariables false

def bytS (s : Int × List UInt8) (most : Int) : Int × List UInt8 := upd s (getB s.2 most).2
/-- What a call of Bytes leaves. -/
def BPost (w : World) (g : Nat) (s : Int × List UInt8) (most : Int) (e : Ending) (w' : World) : Prop :=
  ∃ v, e = .returned v ∧ OwnB w' w.heap.size v (getB s.2 most).1 ∧ RR w' g (bytS s most) ∧ RStep w w' g
theorem byt_long (s : Int × List UInt8) (most : Int) (h : most < 0 ∨ most < (((getN s.2).1 : Nat) : Int)) :
    (if (numS s).1 = 0 then (4 : Int) else (numS s).1, ([] : List UInt8)) = bytS s most ∧ (getB s.2 most).1 = [] := by
  obtain ⟨e0, l⟩ := s
  simp only at h
  unfold bytS numS getB
  simp only
  rcases hg : getN l with ⟨x, r, e⟩
  rw [hg] at h
  simp only at h ⊢
  rcases getN_err hg with rfl | ⟨rfl, rfl, he⟩
  · have hne : ¬ ((0 : Nat) ≠ 0) := by simp
    simp only [hne, if_false, h, if_true, upd_ok]
    exact ⟨rfl, trivial⟩
  · have he0 : e ≠ 0 := by omega
    rw [if_pos he0]
    refine ⟨?_, rfl⟩
    rw [upd_bad _ _ he0]
    by_cases h0 : e0 = 0
    · simp only [h0, if_true]
      rw [if_neg (by omega)]
    · simp only [h0, if_false]
theorem byt_take (s : Int × List UInt8) (most : Int) (h : ¬ (most < 0 ∨ most < (((getN s.2).1 : Nat) : Int))) :
    (if (numS s).2.length < (getN s.2).1 then [] else (numS s).2.take (getN s.2).1) = (getB s.2 most).1 ∧ upd (numS s) (if (numS s).2.length < (getN s.2).1 then ([], 3) else ((numS s).2.drop (getN s.2).1, 0)) = bytS s most := by
  obtain ⟨e0, l⟩ := s
  simp only at h
  unfold bytS numS getB
  simp only
  rcases hg : getN l with ⟨x, r, e⟩
  rw [hg] at h
  simp only at h ⊢
  rcases getN_err hg with rfl | ⟨rfl, rfl, he⟩
  · rw [if_neg (show ¬ (0 : Nat) ≠ 0 by simp), if_neg h, upd_ok]
    simp only
    by_cases hl : r.length < x
    · simp only [hl, if_true]; trivial
    · simp only [hl, if_false]; trivial
  · have he0 : e ≠ 0 := by omega
    rw [if_pos he0, upd_bad _ _ he0]
    simp [upd]
end Go.Proofs.Ytepcbklokcfbfaa.Buf
