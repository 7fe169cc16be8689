/- Bits of bytes turned, one by one: the plain mathematics of layer crc's bursts; no Go in sight. -/
import Derived.Test.YtgacljanapmnfaaDoorCrcO
namespace Go.Proofs.YtgacljanapmnfaaDoor.Crc
set_option linter.unusedVariables false

theorem bits_at (l : List UInt8) : ∀ j, j < 8 * l.length → (bits l)[j]? = some ((l.getD (j / 8) 0).toNat.testBit (j % 8)) := by
  induction l with
  | nil => intro j h; simp at h
  | cons x l ih =>
    intro j h
    rw [bits_cons]
    by_cases h8 : j < 8
    · rw [List.getElem?_append_left (by rw [bits8_len]; exact h8)]
      simp [bits8, h8, show j / 8 = 0 by omega, show j % 8 = j by omega]
    · rw [List.getElem?_append_right (by rw [bits8_len]; omega), bits8_len, ih (j - 8) (by rw [List.length_cons] at h; omega)]
      rw [show j / 8 = (j - 8) / 8 + 1 by omega, show (j - 8) % 8 = j % 8 by omega]
      simp
/-- Which bits are turned. -/
def errB (n pos b k : Nat) : List Bool := (List.range n).map fun j => decide (pos ≤ j ∧ j < pos + k) && b.testBit (j - pos)
theorem errB_len (n pos b k : Nat) : (errB n pos b k).length = n := by simp [errB]
theorem errB_at {n pos b k j : Nat} (h : j < n) : (errB n pos b k)[j]? = some (decide (pos ≤ j ∧ j < pos + k) && b.testBit (j - pos)) := by simp [errB, h]
theorem bits_turned {s t : List UInt8} {pos b k : Nat} (hl : t.length = s.length) (h : ∀ j, j < 8 * s.length → (t.getD (j / 8) 0).toNat.testBit (j % 8) = ((s.getD (j / 8) 0).toNat.testBit (j % 8) ^^ (decide (pos ≤ j ∧ j < pos + k) && b.testBit (j - pos)))) :
    bits t = List.zipWith (· ^^ ·) (bits s) (errB (8 * s.length) pos b k) := by
  refine List.ext_getElem? fun j => ?_
  by_cases hj : j < 8 * s.length
  · rw [bits_at t j (by rw [hl]; exact hj), List.getElem?_zipWith, bits_at s j hj, errB_at hj, h j hj]
  · rw [List.getElem?_eq_none (by rw [bits_len, hl]; omega), List.getElem?_eq_none (by rw [List.length_zipWith, bits_len, errB_len]; omega)]
/-- One bit of a byte turned. -/
def flip8 (x : UInt8) (m : Nat) : UInt8 := UInt8.ofNat (x.toNat ^^^ 2 ^ m)
theorem flip8_nat (x : UInt8) (m : Nat) (h : m < 8) : (flip8 x m).toNat = x.toNat ^^^ 2 ^ m := by
  unfold flip8
  rw [UInt8.toNat_ofNat']
  refine Nat.mod_eq_of_lt (Nat.xor_lt_two_pow (n := 8) x.toNat_lt ?_)
  exact Nat.pow_lt_pow_right (by decide) h
theorem flip8_bit (x : UInt8) (m j : Nat) (h : m < 8) : (flip8 x m).toNat.testBit j = (x.toNat.testBit j ^^ decide (m = j)) := by
  rw [flip8_nat x m h, Nat.testBit_xor, Nat.testBit_two_pow]
/-- Bit number i of bytes turned, if there is such a one. -/
def flipB (l : List UInt8) (i : Nat) : List UInt8 := l.set (i / 8) (flip8 (l.getD (i / 8) 0) (i % 8))
theorem flipB_len (l : List UInt8) (i : Nat) : (flipB l i).length = l.length := by simp [flipB]
theorem flipB_bit (l : List UInt8) (i j : Nat) (hi : i / 8 < l.length) (hj : j < 8 * l.length) : ((flipB l i).getD (j / 8) 0).toNat.testBit (j % 8) = ((l.getD (j / 8) 0).toNat.testBit (j % 8) ^^ decide (i = j)) := by
  unfold flipB
  have hj8 : j / 8 < l.length := by omega
  by_cases h : i / 8 = j / 8
  · have e : (l.set (i / 8) (flip8 (l.getD (i / 8) 0) (i % 8))).getD (j / 8) 0 = flip8 (l.getD (j / 8) 0) (i % 8) := by
      rw [h]; simp [List.getD, hj8]
    rw [e, flip8_bit _ _ _ (Nat.mod_lt _ (by decide))]
    congr 1
    rw [decide_eq_decide]; omega
  · have e : (l.set (i / 8) (flip8 (l.getD (i / 8) 0) (i % 8))).getD (j / 8) 0 = l.getD (j / 8) 0 := by
      simp [List.getD, h]
    rw [e, decide_eq_false (by intro hh; rw [hh] at h; exact h rfl), Bool.xor_false]
/-- Bits turned, as far as k. -/
def turnB (s : List UInt8) (pos b : Nat) : Nat → List UInt8
  | 0 => s
  | k + 1 => if b.testBit k = true ∧ (pos + k) / 8 < s.length then flipB (turnB s pos b k) (pos + k) else turnB s pos b k
theorem turnB_len (s : List UInt8) (pos b k : Nat) : (turnB s pos b k).length = s.length := by
  induction k with
  | zero => rfl
  | succ k ih => unfold turnB; split <;> simp [flipB_len, ih]
theorem turnB_bit (s : List UInt8) (pos b k : Nat) : ∀ j, j < 8 * s.length → ((turnB s pos b k).getD (j / 8) 0).toNat.testBit (j % 8) = ((s.getD (j / 8) 0).toNat.testBit (j % 8) ^^ (decide (pos ≤ j ∧ j < pos + k) && b.testBit (j - pos))) := by
  induction k with
  | zero => intro j hj; rw [turnB, decide_eq_false (by omega)]; simp
  | succ k ih =>
    intro j hj
    unfold turnB
    by_cases h : b.testBit k = true ∧ (pos + k) / 8 < s.length
    · rw [if_pos h, flipB_bit _ _ _ (by rw [turnB_len]; exact h.2) (by rw [turnB_len]; exact hj), ih j hj]
      by_cases he : pos + k = j
      · subst he
        rw [show pos + k - pos = k by omega, h.1, decide_eq_false (show ¬ (pos ≤ pos + k ∧ pos + k < pos + k) by omega), decide_eq_true (show pos ≤ pos + k ∧ pos + k < pos + (k + 1) by omega)]
        simp
      · rw [decide_eq_false he, Bool.xor_false]
        congr 2
        rw [decide_eq_decide]; omega
    · rw [if_neg h, ih j hj]
      by_cases he : pos + k = j
      · subst he
        have hb : b.testBit k = false := by
          by_cases hb : b.testBit k = true
          · exact absurd ⟨hb, by omega⟩ h
          · simpa using hb
        rw [show pos + k - pos = k by omega, hb]; simp
      · congr 2
        rw [decide_eq_decide]; omega
/-- Sealed bytes, of which some bits that lie within 32 are turned, are good just if they are as they were. -/
theorem burst_turned (s : List UInt8) (pos b : Nat) (hs : goodB s = true) : goodB (turnB s pos b 32) = decide (turnB s pos b 32 = s) := by
  refine burst_good s (turnB s pos b 32) (errB (8 * s.length) pos b 32) pos hs (turnB_len _ _ _ _) (errB_len _ _ _ _) (bits_turned (turnB_len _ _ _ _) (turnB_bit s pos b 32)) fun i hi ho => ?_
  rw [errB_len] at hi
  rw [errB_at hi, decide_eq_false (by omega), Bool.false_and]
end Go.Proofs.YtgacljanapmnfaaDoor.Crc
