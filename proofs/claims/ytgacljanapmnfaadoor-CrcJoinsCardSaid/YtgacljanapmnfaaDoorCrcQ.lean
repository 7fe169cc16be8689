/- Sums moved past noughts by a matrix: the plain mathematics of layer crc's joining; no Go in sight. -/
import Derived.Test.YtgacljanapmnfaaDoorCrcO
import Derived.Lib.TrailingZeros
namespace Go.Proofs.YtgacljanapmnfaaDoor.Crc
set_option linter.unusedVariables false

theorem low_split {s : Nat} (h : s < 4294967296) (h0 : s ≠ 0) : Go.Lib.ctz 32 s < 32 ∧ s = 2 ^ Go.Lib.ctz 32 s ^^^ (s &&& (s - 1)) ∧ (s &&& (s - 1)) < s := by
  obtain ⟨m, hm, hk⟩ := Go.Lib.ctzFrom_spec 32 s (by omega) h
  have hc : Go.Lib.ctz 32 s = Go.Lib.ctzFrom 32 s := by unfold Go.Lib.ctz; rw [if_neg h0]
  rw [hc]
  generalize Go.Lib.ctzFrom 32 s = k at hm hk
  have b1 : ∀ j, s.testBit j = if j < k then false else (2 * m + 1).testBit (j - k) := fun j => by
    have := Nat.testBit_two_pow_mul_add (2 * m + 1) (b := 0) (i := k) (Nat.two_pow_pos k) j
    rw [Nat.add_zero, ← hm] at this
    simpa using this
  have b2 : ∀ j, (s - 1).testBit j = if j < k then (2 ^ k - 1).testBit j else (2 * m).testBit (j - k) := fun j => by
    have hp := Nat.two_pow_pos k
    have e : s - 1 = 2 ^ k * (2 * m) + (2 ^ k - 1) := by
      rw [Nat.mul_add, Nat.mul_one] at hm
      omega
    have := Nat.testBit_two_pow_mul_add (2 * m) (b := 2 ^ k - 1) (i := k) (by omega) j
    rw [← e] at this
    exact this
  have b3 : ∀ j, (s &&& (s - 1)).testBit j = if j ≤ k then false else m.testBit (j - k - 1) := fun j => by
    rw [Nat.testBit_and, b1, b2]
    by_cases hj : j < k
    · rw [if_pos hj, if_pos hj, if_pos (by omega), Bool.false_and]
    · rw [if_neg hj, if_neg hj]
      by_cases he : j = k
      · subst he; simp
      · rw [if_neg (by omega), show j - k = (j - k - 1) + 1 by omega, Nat.testBit_succ, Nat.testBit_succ, show (2 * m + 1) / 2 = m by omega, show 2 * m / 2 = m by omega]
        simp
  have e : s = 2 ^ k ^^^ (s &&& (s - 1)) := by
    refine Nat.eq_of_testBit_eq fun j => ?_
    rw [Nat.testBit_xor, b3, Nat.testBit_two_pow, b1]
    by_cases hj : j < k
    · rw [if_pos hj, if_pos (by omega), decide_eq_false (by omega)]; rfl
    · rw [if_neg hj]
      by_cases he : j = k
      · subst he; rw [if_pos (Nat.le_refl _), Nat.sub_self, decide_eq_true rfl, Nat.testBit_zero]; simp
      · rw [if_neg (by omega), decide_eq_false (by omega), show j - k = (j - k - 1) + 1 by omega, Nat.testBit_succ, show (2 * m + 1) / 2 = m by omega]
        simp
  refine ⟨hk, e, ?_⟩
  have hle : (s &&& (s - 1)) ≤ s - 1 := Nat.and_le_right
  omega
theorem feed_low {s : Nat} (h : s < 4294967296) (h0 : s ≠ 0) (n : Nat) : feed s (zs n) = feed (2 ^ Go.Lib.ctz 32 s) (zs n) ^^^ feed (s &&& (s - 1)) (zs n) := by
  conv => lhs; rw [(low_split h h0).2.1]
  rw [feed_zs_xor]
/-- What moves a sum past so many noughts. -/
def matN (n : Nat) : List Nat := (List.range 32).map fun i => feed (2 ^ i) (zs n)
theorem matN_len (n : Nat) : (matN n).length = 32 := by simp [matN]
theorem matN_at (n : Nat) {i : Nat} (h : i < 32) : (matN n)[i]? = some (feed (2 ^ i) (zs n)) := by simp [matN, h]
theorem pow_lt {i : Nat} (h : i < 32) : 2 ^ i < 4294967296 := Nat.pow_lt_pow_right (n := 32) (a := 2) (by decide) h
theorem matN_lt (n : Nat) {i : Nat} (h : i < 32) : feed (2 ^ i) (zs n) < 4294967296 := feed_lt _ (pow_lt h)
theorem feed_zs_add (s a b : Nat) : feed s (zs (a + b)) = feed (feed s (zs a)) (zs b) := by rw [zs_add, feed_append]
theorem mat_one_zero : feed (2 ^ 0) (zs 1) = 3988292384 := by decide
theorem mat_one_succ (i : Nat) : feed (2 ^ (i + 1)) (zs 1) = 2 ^ i := by
  show stp (2 ^ (i + 1)) false = _
  rw [Nat.pow_succ, Nat.mul_comm, stp_two]
/-- Halving and doubling: as many noughts. -/
theorem halve (s m n : Nat) : feed s (zs (m * n)) = feed (if n % 2 = 1 then feed s (zs m) else s) (zs ((m + m) * (n / 2))) := by
  have e : n = n % 2 + 2 * (n / 2) := by omega
  have e2 : m * n = m * (n % 2) + (m + m) * (n / 2) := by
    conv => lhs; rw [e]
    rw [Nat.mul_add, ← Nat.mul_assoc, Nat.mul_two]
  rw [e2]
  rcases Nat.mod_two_eq_zero_or_one n with h | h <;> rw [h]
  · rw [if_neg (by decide), Nat.mul_zero, Nat.zero_add]
  · rw [if_pos rfl, Nat.mul_one, feed_zs_add]
end Go.Proofs.YtgacljanapmnfaaDoor.Crc
