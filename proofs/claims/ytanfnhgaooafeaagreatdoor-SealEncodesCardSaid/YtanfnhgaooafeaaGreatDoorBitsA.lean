/- Bits of whole numbers, for layers that shift and mask: no Go in sight. -/
import Derived.WalkKit
import Derived.Laws.BitsAllLaws
namespace Go.Proofs.YtanfnhgaooafeaaGreatDoor.Bits
open Go.RowKit

theorem toNat_ofInt (a : Int) : (BitVec.ofInt 64 a).toNat = (a % 18446744073709551616).toNat := by
  rw [BitVec.toNat_ofInt]; rfl
theorem and_i64 (a b : Int) : bits .and .i64 a b = IntKind.i64.wrap (((a % 18446744073709551616).toNat &&& (b % 18446744073709551616).toNat : Nat) : Int) := by
  show IntKind.i64.wrap ((BitVec.ofInt 64 a &&& BitVec.ofInt 64 b).toNat : Int) = _
  rw [BitVec.toNat_and, toNat_ofInt, toNat_ofInt]
theorem rest_num (a : Int) (n : Nat) (h : n = (a % 18446744073709551616).toNat % 1024) : ((n : Int) + 9223372036854775808) % 18446744073709551616 - 9223372036854775808 = a % 1024 := by omega
theorem and_1023 (a : Int) : bits .and .i64 a 1023 = a % 1024 := by
  rw [and_i64, IntKind.wrap_i64]
  refine rest_num a _ ?_
  rw [show ((1023 : Int) % 18446744073709551616).toNat = 2 ^ 10 - 1 from by decide, Nat.and_two_pow_sub_one_eq_mod]
theorem not_num (a : Int) (n : Nat) (ha : -9223372036854775808 ≤ a ∧ a ≤ 9223372036854775807) (h : n = 18446744073709551615 - (a % 18446744073709551616).toNat) : ((n : Int) + 9223372036854775808) % 18446744073709551616 - 9223372036854775808 = -1 - a := by omega
theorem not_i64 (a : Int) (ha : -9223372036854775808 ≤ a ∧ a ≤ 9223372036854775807) : bits .xor .i64 (-1) a = -1 - a := by
  show IntKind.i64.wrap ((BitVec.ofInt 64 (-1) ^^^ BitVec.ofInt 64 a).toNat : Int) = _
  rw [show BitVec.ofInt 64 (-1) = BitVec.allOnes 64 from by decide, BitVec.allOnes_xor, BitVec.toNat_not, toNat_ofInt, IntKind.wrap_i64]
  exact not_num a _ ha rfl
theorem and1_u64 (a : Int) (h0 : 0 ≤ a) (h1 : a ≤ 18446744073709551615) : bits .and .u64 a 1 = a % 2 := by
  rw [u64_and a 1 h0 (by omega) (by omega) (by omega)]
  rw [show (1 : Int).toNat = 2 ^ 1 - 1 from by decide, Nat.and_two_pow_sub_one_eq_mod]
  omega
/-- What is laid above so many bits and what lies below them do not meet. -/
theorem or_u64 (a b : Int) (k : Nat) (ha : 0 ≤ a) (hb : 0 ≤ b) (hbk : b < 2 ^ k) (hm : a % 2 ^ k = 0) (hA : a ≤ 18446744073709551615) (hB : b ≤ 18446744073709551615) : bits .or .u64 a b = a + b := by
  obtain ⟨A, rfl⟩ := Int.eq_ofNat_of_zero_le ha
  obtain ⟨B, rfl⟩ := Int.eq_ofNat_of_zero_le hb
  rw [u64_or_nat A B (by omega) (by omega), nat_join k A B (by exact_mod_cast hm) (by exact_mod_cast hbk)]
  omega
theorem or_comm_u64 (a b : Int) : bits .or .u64 a b = bits .or .u64 b a := by
  show IntKind.u64.wrap ((BitVec.ofInt 64 a ||| BitVec.ofInt 64 b).toNat : Int) = IntKind.u64.wrap ((BitVec.ofInt 64 b ||| BitVec.ofInt 64 a).toNat : Int)
  rw [BitVec.or_comm]
end Go.Proofs.YtanfnhgaooafeaaGreatDoor.Bits
