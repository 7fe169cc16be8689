/- Plain facts of layer 25: the first round from a time on; a rest of a thousand. -/
import Derived.Test.YtcadmepfnafpmaaRndK
namespace Go.Proofs.Ytcadmepfnafpmaa.Rnd
set_option linter.unusedVariables false
theorem fir_first {t e : Int} (h0 : 0 ≤ t) (h1 : t ≤ 4294967295) (e0 : 1 ≤ e) (e1 : e ≤ 65536) :
    ∃ k p q, firV t e = k ∧ k * e = p ∧ (k - 1) * e = q ∧ 1 ≤ k ∧ k ≤ 4294967296 ∧ t ≤ p ∧ p ≤ 8589934592 ∧ (k = 1 ∨ q < t) ∧ -65536 ≤ q ∧ q ≤ 8589934592 := by
  refine ⟨_, _, _, rfl, rfl, rfl, ?_⟩
  unfold firV
  by_cases ht : t < 1
  · rw [if_pos (.inl ht)]
    rw [Int.one_mul, show (1 : Int) - 1 = 0 from rfl, Int.zero_mul]
    omega
  · rw [if_neg (by omega)]
    have h3 := Int.ediv_nonneg (a := t) (b := e) (by omega) (by omega)
    have h4 := Int.emod_nonneg t (b := e) (by omega)
    have h5 := Int.emod_lt_of_pos t (b := e) (by omega)
    have h6 := Int.mul_ediv_add_emod t e
    have h7 := Int.ediv_le_self e (show 0 ≤ t by omega)
    rw [Int.mul_comm] at h6
    generalize t % e = m at *
    generalize t / e = q at *
    by_cases hm : 0 < m
    · rw [if_pos hm]
      rw [show (q + 1) * e = q * e + e by rw [Int.add_mul, Int.one_mul], show (q + 1 - 1) * e = q * e by rw [Int.add_sub_cancel]]
      generalize q * e = p at *
      omega
    · rw [if_neg hm]
      have hq : 1 ≤ q := by
        by_cases hz : q = 0
        · subst hz
          rw [Int.zero_mul] at h6
          omega
        · omega
      rw [show (q - 1) * e = q * e - e by rw [Int.sub_mul, Int.one_mul]]
      generalize q * e = p at *
      omega
theorem tmod_1000 (x : Int) {q : Int} (h : x.tmod 1000 = q) : -999 ≤ q ∧ q ≤ 999 := by
  have h1 := Int.tmod_lt_of_pos x (b := 1000) (by omega)
  have h2 := Int.lt_tmod_of_pos x (b := 1000) (by omega)
  omega
end Go.Proofs.Ytcadmepfnafpmaa.Rnd
