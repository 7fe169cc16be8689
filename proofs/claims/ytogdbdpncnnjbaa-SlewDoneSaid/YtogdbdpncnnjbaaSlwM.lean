/- Plain facts on corrections (layer 21): in as many steps as are told nothing is left. -/
import Derived.Test.YtogdbdpncnnjbaaSlwB
namespace Go.Proofs.Ytogdbdpncnnjbaa.Slw
open Go.ChangeShapes Go.WideShapes Go.ChangeAt Go.RowKit
set_option linter.unusedVariables false
theorem st_zero {m : Int} (m0 : 1 ≤ m) : stV m 0 = 0 := by
  obtain ⟨h, _⟩ := up_pos (a := 0) (b := m) (by omega) (by omega) m0
  unfold stV
  rw [show ((0 : Int).natAbs : Int) = 0 from rfl, h]
  simp
theorem done_ticks {m q : Int} (m0 : 1 ≤ m) (hq : (q.natAbs : Int) ≤ 100 * m) (m1 : m ≤ 256 := by omega) : ∃ N : Nat, stV m q = (N : Int) ∧ N ≤ 100 ∧ Hid ((q.natAbs : Int) ≤ ((N - 0 : Nat) : Int) * m) := by
  obtain ⟨h, _, h0, h1⟩ := up_pos (a := (q.natAbs : Int)) (b := m) (by omega) (by omega) m0
  have h2 := Int.ediv_mul_le (-(q.natAbs : Int)) (show m ≠ 0 by omega)
  have h3 : -100 ≤ (-(q.natAbs : Int)) / m := Int.le_ediv_of_mul_le (by omega) (by omega)
  unfold stV
  refine ⟨(Span.upV (q.natAbs : Int) m).toNat, by omega, by omega, Lib.hid ?_⟩
  rw [Nat.sub_zero, show (((Span.upV (q.natAbs : Int) m).toNat : Nat) : Int) = Span.upV (q.natAbs : Int) m by omega, h, Int.neg_mul]
  omega
theorem done_step {m l i : Int} {k N : Nat} (hk : k < N) (m0 : 1 ≤ m) (h0 : m ≤ i) (h : (l.natAbs : Int) ≤ ((N - k : Nat) : Int) * m) : ((l - smV m l i).natAbs : Int) ≤ ((N - (k + 1) : Nat) : Int) * m := by
  obtain ⟨r, hr⟩ : ∃ r, N - (k + 1) = r := ⟨_, rfl⟩
  rw [hr]
  rw [show N - k = r + 1 by omega, Int.natCast_add, Int.natCast_one, Int.add_mul, Int.one_mul] at h
  have hp : 0 ≤ (r : Int) * m := Int.mul_nonneg (by omega) (by omega)
  generalize (r : Int) * m = p at *
  have hm : min m i = m := by omega
  unfold smV Span.clampV
  rw [hm]
  split <;> (try split) <;> omega
end Go.Proofs.Ytogdbdpncnnjbaa.Slw
