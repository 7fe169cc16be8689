/- Plain arithmetic for layer span: quotients, products, bits. No Go in sight. -/
import Derived.WalkKit
namespace Go.Proofs.YtmkdemdeejhonaaDoor.Math
open Go.RowKit

theorem tdiv_bd (a b : Int) (ha : -9223372036854775808 ≤ a ∧ a ≤ 9223372036854775807) (hb : b ≠ 0) (h : ¬ (a = -9223372036854775808 ∧ b = -1)) :
    -9223372036854775808 ≤ a.tdiv b ∧ a.tdiv b ≤ 9223372036854775807 := by
  have e : (a.tdiv b).natAbs = a.natAbs / b.natAbs := Int.natAbs_tdiv a b
  by_cases h1 : b.natAbs = 1
  · rw [h1, Nat.div_one] at e
    by_cases hb1 : b = 1
    · subst hb1; simp; omega
    · have hb2 : b = -1 := by omega
      subst hb2; simp; omega
  · have h2 : a.natAbs / b.natAbs ≤ a.natAbs / 2 := Nat.div_le_div_left (by omega) (by omega)
    omega

theorem fdiv_of (a b : Int) (hb : b ≠ 0) : a.fdiv b = if a.tmod b ≠ 0 ∧ ((a < 0) ≠ (b < 0)) then a.tdiv b - 1 else a.tdiv b := by
  rw [Int.fdiv_eq_tdiv]
  have hd : b ∣ a ↔ a.tmod b = 0 := Int.dvd_iff_tmod_eq_zero
  by_cases h : a.tmod b = 0
  · simp [hd, h]
  · simp only [hd, h, if_false]
    by_cases h1 : a < 0 <;> by_cases h2 : b < 0
    · rw [if_neg (by omega), if_neg (by omega)]; simp [h1, h2, Int.sign_eq_neg_one_of_neg]
    · rw [if_neg (by omega), if_pos (by omega)]; simp [h, h1, h2, Int.sign_eq_one_of_pos (show 0 < b by omega)]
    · rw [if_pos (by omega), if_neg (by omega)]; simp [h, h1, h2]
    · rw [if_pos (by omega), if_pos (by omega)]; simp [h1, h2]

/-- The quotient, rounded up. -/
def cdiv (a b : Int) : Int := -((-a).fdiv b)

theorem cdiv_of (a b : Int) (hb : b ≠ 0) : cdiv a b = if a.tmod b ≠ 0 ∧ ((a < 0) = (b < 0)) then a.tdiv b + 1 else a.tdiv b := by
  unfold cdiv
  rw [fdiv_of _ _ hb, Int.neg_tmod, Int.neg_tdiv]
  by_cases h : a.tmod b = 0
  · simp [h]
  · have ha : a ≠ 0 := by intro h0; subst h0; simp at h
    by_cases h1 : a < 0 <;> by_cases h2 : b < 0
    all_goals simp [h, h1, h2]
    all_goals omega

theorem add_of_and_xor (n : Nat) : ∀ a b : Nat, a < 2 ^ n → a + b = 2 * (a &&& b) + (a ^^^ b) := by
  induction n with
  | zero => intro a b h; have : a = 0 := by simpa using h
            subst this; simp
  | succ n ih =>
    intro a b h
    have h1 := ih (a / 2) (b / 2) (by rw [Nat.pow_succ] at h; omega)
    have e1 := @Nat.and_div_two a b
    have e2 := @Nat.xor_div_two a b
    have e3 := @Nat.and_mod_two_eq_one a b
    have e4 := @Nat.xor_mod_two_eq_one a b
    rw [← e1, ← e2] at h1
    generalize a &&& b = X at *
    generalize a ^^^ b = Y at *
    by_cases p : a % 2 = 1
    · by_cases q : b % 2 = 1
      · have e5 := e3.2 ⟨p, q⟩
        have e6 : ¬ Y % 2 = 1 := fun h => (e4.1 h) ⟨fun _ => q, fun _ => p⟩
        omega
      · have e5 : ¬ X % 2 = 1 := fun h => q (e3.1 h).2
        have e6 := e4.2 (fun h => q (h.1 p))
        omega
    · have e5 : ¬ X % 2 = 1 := fun h => p (e3.1 h).1
      by_cases q : b % 2 = 1
      · have e6 := e4.2 (fun h => p (h.2 q))
        omega
      · have e6 : ¬ Y % 2 = 1 := fun h => (e4.1 h) ⟨fun h => absurd h p, fun h => absurd h q⟩
        omega

theorem top_and (a b : Nat) (ha : a < 18446744073709551616) (hb : b < 18446744073709551616) : (a &&& b) / 9223372036854775808 = (a / 9223372036854775808) * (b / 9223372036854775808) := by
  have h := @Nat.and_div_two_pow a b 63
  rw [show (2 : Nat) ^ 63 = 9223372036854775808 from by decide] at h
  rw [h]
  have h1 : a / 9223372036854775808 = 0 ∨ a / 9223372036854775808 = 1 := by omega
  have h2 : b / 9223372036854775808 = 0 ∨ b / 9223372036854775808 = 1 := by omega
  rcases h1 with h1 | h1 <;> rcases h2 with h2 | h2 <;> rw [h1, h2] <;> decide
theorem top_xor (a b : Nat) (ha : a < 18446744073709551616) (hb : b < 18446744073709551616) : (a ^^^ b) / 9223372036854775808 = (a / 9223372036854775808 + b / 9223372036854775808) % 2 := by
  have h := @Nat.xor_div_two_pow a b 63
  rw [show (2 : Nat) ^ 63 = 9223372036854775808 from by decide] at h
  rw [h]
  have h1 : a / 9223372036854775808 = 0 ∨ a / 9223372036854775808 = 1 := by omega
  have h2 : b / 9223372036854775808 = 0 ∨ b / 9223372036854775808 = 1 := by omega
  rcases h1 with h1 | h1 <;> rcases h2 with h2 | h2 <;> rw [h1, h2] <;> decide

theorem toNat_ofInt (a : Int) : (BitVec.ofInt 64 a).toNat = (a % 18446744073709551616).toNat := by
  rw [BitVec.toNat_ofInt]; rfl

theorem and_i64 (a b : Int) : bits .and .i64 a b = IntKind.i64.wrap (((a % 18446744073709551616).toNat &&& (b % 18446744073709551616).toNat : Nat) : Int) := by
  show IntKind.i64.wrap ((BitVec.ofInt 64 a &&& BitVec.ofInt 64 b).toNat : Int) = _
  rw [BitVec.toNat_and, toNat_ofInt, toNat_ofInt]
theorem xor_i64 (a b : Int) : bits .xor .i64 a b = IntKind.i64.wrap (((a % 18446744073709551616).toNat ^^^ (b % 18446744073709551616).toNat : Nat) : Int) := by
  show IntKind.i64.wrap ((BitVec.ofInt 64 a ^^^ BitVec.ofInt 64 b).toNat : Int) = _
  rw [BitVec.toNat_xor, toNat_ofInt, toNat_ofInt]

theorem hi1 (X : Nat) (h : X / 9223372036854775808 = 1) : 9223372036854775808 ≤ X := by omega
theorem hi1' (X : Nat) (h : X / 9223372036854775808 = 1) : X < 18446744073709551616 := by omega
theorem hi0 (X : Nat) (h : X / 9223372036854775808 = 0) : X < 9223372036854775808 := by omega
theorem lo1 (X : Nat) (h' : X < 18446744073709551616) (h : 9223372036854775808 ≤ X) : X / 9223372036854775808 = 1 := by omega
theorem lo0 (X : Nat) (h : X < 9223372036854775808) : X / 9223372036854775808 = 0 := by omega
theorem mod_neg (A : Nat) (a : Int) (ha : -9223372036854775808 ≤ a) (hA : (A : Int) = a % 18446744073709551616) (h : a < 0) : (A : Int) = a + 18446744073709551616 := by omega
theorem mod_pos (A : Nat) (a : Int) (ha : a ≤ 9223372036854775807) (hA : (A : Int) = a % 18446744073709551616) (h : ¬ a < 0) : (A : Int) = a := by omega
theorem core11 (a b : Int) (A B X Y : Nat) (hA : (A : Int) = a + 18446744073709551616) (hB : (B : Int) = b + 18446744073709551616) (h1 : A + B = 2 * X + Y) (hX : 9223372036854775808 ≤ X) (hX' : X < 18446744073709551616) (hY : Y < 9223372036854775808) :
    ((X : Int) + 9223372036854775808) % 18446744073709551616 - 9223372036854775808 + (((Y : Int) + 9223372036854775808) % 18446744073709551616 - 9223372036854775808) / 2 = (a + b) / 2 := by omega
theorem core10 (a b : Int) (A B X Y : Nat) (hA : (A : Int) = a + 18446744073709551616) (hB : (B : Int) = b) (h1 : A + B = 2 * X + Y) (hX : X < 9223372036854775808) (hY : 9223372036854775808 ≤ Y) (hY' : Y < 18446744073709551616) :
    ((X : Int) + 9223372036854775808) % 18446744073709551616 - 9223372036854775808 + (((Y : Int) + 9223372036854775808) % 18446744073709551616 - 9223372036854775808) / 2 = (a + b) / 2 := by omega
theorem core01 (a b : Int) (A B X Y : Nat) (hA : (A : Int) = a) (hB : (B : Int) = b + 18446744073709551616) (h1 : A + B = 2 * X + Y) (hX : X < 9223372036854775808) (hY : 9223372036854775808 ≤ Y) (hY' : Y < 18446744073709551616) :
    ((X : Int) + 9223372036854775808) % 18446744073709551616 - 9223372036854775808 + (((Y : Int) + 9223372036854775808) % 18446744073709551616 - 9223372036854775808) / 2 = (a + b) / 2 := by omega
theorem core00 (a b : Int) (A B X Y : Nat) (hA : (A : Int) = a) (hB : (B : Int) = b) (h1 : A + B = 2 * X + Y) (hX : X < 9223372036854775808) (hY : Y < 9223372036854775808) :
    ((X : Int) + 9223372036854775808) % 18446744073709551616 - 9223372036854775808 + (((Y : Int) + 9223372036854775808) % 18446744073709551616 - 9223372036854775808) / 2 = (a + b) / 2 := by omega
theorem mid_core (a b : Int) (A B X Y : Nat) (ha : -9223372036854775808 ≤ a ∧ a ≤ 9223372036854775807) (hb : -9223372036854775808 ≤ b ∧ b ≤ 9223372036854775807)
    (hA : A < 18446744073709551616) (hB : B < 18446744073709551616) (eA : (A : Int) = a % 18446744073709551616) (eB : (B : Int) = b % 18446744073709551616)
    (h1 : A + B = 2 * X + Y) (h2 : X / 9223372036854775808 = (A / 9223372036854775808) * (B / 9223372036854775808)) (h3 : Y / 9223372036854775808 = (A / 9223372036854775808 + B / 9223372036854775808) % 2) :
    ((X : Int) + 9223372036854775808) % 18446744073709551616 - 9223372036854775808 + (((Y : Int) + 9223372036854775808) % 18446744073709551616 - 9223372036854775808) / 2 = (a + b) / 2 := by
  by_cases h4 : a < 0 <;> by_cases h5 : b < 0
  · have fA := mod_neg A a ha.1 eA h4
    have fB := mod_neg B b hb.1 eB h5
    have q1 : A / 9223372036854775808 = 1 := lo1 A hA (by clear h1 h2 h3 eA eB; omega)
    have q2 : B / 9223372036854775808 = 1 := lo1 B hB (by clear h1 h2 h3 eA eB; omega)
    have p2 : X / 9223372036854775808 = 1 := by rw [h2, q1, q2]
    have p3 : Y / 9223372036854775808 = 0 := by rw [h3, q1, q2]
    exact core11 a b A B X Y fA fB h1 (hi1 X p2) (hi1' X p2) (hi0 Y p3)
  · have fA := mod_neg A a ha.1 eA h4
    have fB := mod_pos B b hb.2 eB h5
    have q1 : A / 9223372036854775808 = 1 := lo1 A hA (by clear h1 h2 h3 eA eB; omega)
    have q2 : B / 9223372036854775808 = 0 := lo0 B (by clear h1 h2 h3 eA eB; omega)
    have p2 : X / 9223372036854775808 = 0 := by rw [h2, q1, q2]
    have p3 : Y / 9223372036854775808 = 1 := by rw [h3, q1, q2]
    exact core10 a b A B X Y fA fB h1 (hi0 X p2) (hi1 Y p3) (hi1' Y p3)
  · have fA := mod_pos A a ha.2 eA h4
    have fB := mod_neg B b hb.1 eB h5
    have q1 : A / 9223372036854775808 = 0 := lo0 A (by clear h1 h2 h3 eA eB; omega)
    have q2 : B / 9223372036854775808 = 1 := lo1 B hB (by clear h1 h2 h3 eA eB; omega)
    have p2 : X / 9223372036854775808 = 0 := by rw [h2, q1, q2]
    have p3 : Y / 9223372036854775808 = 1 := by rw [h3, q1, q2]
    exact core01 a b A B X Y fA fB h1 (hi0 X p2) (hi1 Y p3) (hi1' Y p3)
  · have fA := mod_pos A a ha.2 eA h4
    have fB := mod_pos B b hb.2 eB h5
    have q1 : A / 9223372036854775808 = 0 := lo0 A (by clear h1 h2 h3 eA eB; omega)
    have q2 : B / 9223372036854775808 = 0 := lo0 B (by clear h1 h2 h3 eA eB; omega)
    have p2 : X / 9223372036854775808 = 0 := by rw [h2, q1, q2]
    have p3 : Y / 9223372036854775808 = 0 := by rw [h3, q1, q2]
    exact core00 a b A B X Y fA fB h1 (hi0 X p2) (hi0 Y p3)
theorem mod_lt64 (a : Int) : (a % 18446744073709551616).toNat < 18446744073709551616 := by omega
theorem mod_nat64 (a : Int) : ((a % 18446744073709551616).toNat : Int) = a % 18446744073709551616 := by omega

/-- The middle by bits is the middle. -/
theorem mid_bits (a b : Int) (ha : -9223372036854775808 ≤ a ∧ a ≤ 9223372036854775807) (hb : -9223372036854775808 ≤ b ∧ b ≤ 9223372036854775807) :
    bits .and .i64 a b + bits .xor .i64 a b / 2 = (a + b) / 2 := by
  rw [and_i64, xor_i64, IntKind.wrap_i64, IntKind.wrap_i64]
  exact mid_core a b _ _ _ _ ha hb (mod_lt64 a) (mod_lt64 b) (mod_nat64 a) (mod_nat64 b) (add_of_and_xor 64 _ _ (mod_lt64 a)) (top_and _ _ (mod_lt64 a) (mod_lt64 b)) (top_xor _ _ (mod_lt64 a) (mod_lt64 b))

/-- A product that went round is seen by the quotient. -/
theorem mul_seen (a b k : Int) (hb : -9223372036854775808 ≤ b ∧ b ≤ 9223372036854775807) (hb0 : b ≠ 0)
    (h : (a * b + k * 18446744073709551616).tdiv b = a) : k = 0 := by
  have h1 := Int.mul_tdiv_add_tmod (a * b + k * 18446744073709551616) b
  rw [h, Int.mul_comm b a] at h1
  have h2 : ((a * b + k * 18446744073709551616).tmod b).natAbs < b.natAbs := by
    rw [Int.natAbs_tmod]; exact Nat.mod_lt _ (by omega)
  omega

theorem mul_natAbs (a b : Int) : a * b = if (a < 0) ≠ (b < 0) then -((a.natAbs * b.natAbs : Nat) : Int) else ((a.natAbs * b.natAbs : Nat) : Int) := by
  rw [Int.natCast_mul]
  by_cases h1 : a < 0 <;> by_cases h2 : b < 0
  · have e1 : (a.natAbs : Int) = -a := by omega
    have e2 : (b.natAbs : Int) = -b := by omega
    rw [if_neg (by simp [h1, h2]), e1, e2, Int.neg_mul_neg]
  · have e1 : (a.natAbs : Int) = -a := by omega
    have e2 : (b.natAbs : Int) = b := by omega
    rw [if_pos (by simp [h1, h2]), e1, e2, Int.neg_mul, Int.neg_neg]
  · have e1 : (a.natAbs : Int) = a := by omega
    have e2 : (b.natAbs : Int) = -b := by omega
    rw [if_pos (by simp [h1, h2]), e1, e2, Int.mul_neg, Int.neg_neg]
  · have e1 : (a.natAbs : Int) = a := by omega
    have e2 : (b.natAbs : Int) = b := by omega
    rw [if_neg (by simp [h1, h2]), e1, e2]

theorem tdiv_half (a b : Int) (ha : -9223372036854775808 ≤ a ∧ a ≤ 9223372036854775807) (hb : b ≠ 0) (h : a.tmod b ≠ 0) :
    -4611686018427387904 ≤ a.tdiv b ∧ a.tdiv b ≤ 4611686018427387904 := by
  have e : (a.tdiv b).natAbs = a.natAbs / b.natAbs := Int.natAbs_tdiv a b
  have h1 : b.natAbs ≠ 1 := by
    intro h1
    have h2 : (a.tmod b).natAbs = a.natAbs % b.natAbs := Int.natAbs_tmod a b
    rw [h1, Nat.mod_one] at h2
    omega
  have h2 : a.natAbs / b.natAbs ≤ a.natAbs / 2 := Nat.div_le_div_left (by omega) (by omega)
  omega
theorem fdiv_bd (a b : Int) (ha : -9223372036854775808 ≤ a ∧ a ≤ 9223372036854775807) (hb : b ≠ 0) (h : ¬ (a = -9223372036854775808 ∧ b = -1)) :
    -9223372036854775808 ≤ a.fdiv b ∧ a.fdiv b ≤ 9223372036854775807 := by
  rw [fdiv_of a b hb]
  split
  · rename_i h1
    have := tdiv_half a b ha hb h1.1
    omega
  · exact tdiv_bd a b ha hb h
theorem cdiv_bd (a b : Int) (ha : -9223372036854775808 ≤ a ∧ a ≤ 9223372036854775807) (hb : b ≠ 0) (h : ¬ (a = -9223372036854775808 ∧ b = -1)) :
    -9223372036854775808 ≤ cdiv a b ∧ cdiv a b ≤ 9223372036854775807 := by
  rw [cdiv_of a b hb]
  split
  · rename_i h1
    have := tdiv_half a b ha hb h1.1
    omega
  · exact tdiv_bd a b ha hb h
end Go.Proofs.YtmkdemdeejhonaaDoor.Math
