/- Contracts of package unit (layer 2) as far as layer buf calls it: signs, a number's bytes, and the document's own Zig. -/
import Derived.Test.YtepcbklokcfbfaaRows
import Derived.WalkKit
import Derived.WalkLawsBesides
import Derived.WalkSpells
import Derived.ProofKit
import Derived.Handy
import Derived.Lib.Hide
import Derived.Below
import Derived.Test.YtepcbklokcfbfaaBitsA
import Derived.Test.YtepcbklokcfbfaaBytA
import Derived.Test.YtepcbklokcfbfaaBufM
namespace Go.Proofs.Ytepcbklokcfbfaa.Units
open Go.ChangeShapes Go.WideShapes Go.ChangeAt Go.RowKit
set_option linter.unusedVariables false
theorem ret_ib {k : IntKind} {a b : Int} {c d : Bool} (h : a = b) (h' : c = d) : Ending.returned (.tuple #[.int k a, .bool c]) = Ending.returned (.tuple #[.int k b, .bool d]) := by rw [h, h']
theorem ret_ii {k l : IntKind} {a b c d : Int} (h : a = b) (h' : c = d) : Ending.returned (.tuple #[.int k a, .int l c]) = Ending.returned (.tuple #[.int k b, .int l d]) := by rw [h, h']
theorem ret_int {k : IntKind} {a b : Int} (h : a = b) : Ending.returned (.int k a) = .returned (.int k b) := by rw [h]
theorem ret_bool {a b : Bool} (h : a = b) : Ending.returned (.bool a) = .returned (.bool b) := by rw [h]

def zigV (a : Int) : Int := if a < 0 then -2 * a - 1 else 2 * a
theorem zig_num (a b : Int) (h : a < 0) (h1 : -9223372036854775808 ≤ a) (hb : b = -1 - a) : IntKind.u64.wrap (IntKind.u64.wrap (2 * IntKind.u64.wrap b) + 1) = zigV a := by
  unfold zigV; rw [if_pos h]; simp only [IntKind.wrap_u64]; omega
theorem rzig_num (a : Int) (h : a < 0) (h1 : -9223372036854775808 ≤ a) : IntKind.u64.wrap (IntKind.u64.wrap (IntKind.u64.wrap (-(a + 1)) * 2) + 1) = zigV a := by
  unfold zigV; rw [if_pos h]; simp only [IntKind.wrap_u64]; omega
def zagV (u : Int) : Int := if u % 2 = 0 then u / 2 else -1 - u / 2
/-- The byte of a number that counts so much. -/
def byV (a d : Int) : Int := a / d % 256
theorem byV_bd (a d : Int) : 0 ≤ byV a d ∧ byV a d ≤ 255 := by unfold byV; omega
abbrev bytesV (a : Int) : Value := .agg #[.int .u8 (byV a 1), .int .u8 (byV a 256), .int .u8 (byV a 65536), .int .u8 (byV a 16777216), .int .u8 (byV a 4294967296), .int .u8 (byV a 1099511627776), .int .u8 (byV a 281474976710656), .int .u8 (byV a 72057594037927936)]
theorem ret_agg8 {a0 a1 a2 a3 a4 a5 a6 a7 b0 b1 b2 b3 b4 b5 b6 b7 : Int} (h0 : a0 = b0) (h1 : a1 = b1) (h2 : a2 = b2) (h3 : a3 = b3) (h4 : a4 = b4) (h5 : a5 = b5) (h6 : a6 = b6) (h7 : a7 = b7) :
    Ending.returned (.agg #[.int .u8 a0, .int .u8 a1, .int .u8 a2, .int .u8 a3, .int .u8 a4, .int .u8 a5, .int .u8 a6, .int .u8 a7]) = Ending.returned (.agg #[.int .u8 b0, .int .u8 b1, .int .u8 b2, .int .u8 b3, .int .u8 b4, .int .u8 b5, .int .u8 b6, .int .u8 b7]) := by
  rw [h0, h1, h2, h3, h4, h5, h6, h7]
def numV (b0 b1 b2 b3 b4 b5 b6 b7 : Int) : Int := b0 + b1 * 256 + b2 * 65536 + b3 * 16777216 + b4 * 4294967296 + b5 * 1099511627776 + b6 * 281474976710656 + b7 * 72057594037927936
theorem or_step (a b d : Int) (k : Nat) (hd : d = 2 ^ k) (ha : 0 ≤ a) (had : a < d) (hA : a ≤ 18446744073709551615) (hb : 0 ≤ b) (hB : b * d ≤ 18446744073709551615) : bits .or .u64 a (b * d) = a + b * d := by
  subst hd
  rw [Bits.or_comm_u64, Bits.or_u64 (b * 2 ^ k) a k (Int.mul_nonneg hb (Int.pow_nonneg (by omega))) ha had (Int.mul_emod_left _ _) hB hA, Int.add_comm]
theorem or_zero (a : Int) (ha : 0 ≤ a) (hA : a ≤ 18446744073709551615) : bits .or .u64 0 a = a := by
  rw [Bits.or_u64 0 a 64 (by omega) ha (by omega) (by omega) (by omega) hA, Int.zero_add]
theorem num_or (b0 b1 b2 b3 b4 b5 b6 b7 : Int) (h0 : 0 ≤ b0 ∧ b0 ≤ 255) (h1 : 0 ≤ b1 ∧ b1 ≤ 255) (h2 : 0 ≤ b2 ∧ b2 ≤ 255) (h3 : 0 ≤ b3 ∧ b3 ≤ 255) (h4 : 0 ≤ b4 ∧ b4 ≤ 255) (h5 : 0 ≤ b5 ∧ b5 ≤ 255) (h6 : 0 ≤ b6 ∧ b6 ≤ 255) (h7 : 0 ≤ b7 ∧ b7 ≤ 255) :
    bits .or .u64 (bits .or .u64 (bits .or .u64 (bits .or .u64 (bits .or .u64 (bits .or .u64 (bits .or .u64 (bits .or .u64 0 b0) (b1 * 256)) (b2 * 65536)) (b3 * 16777216)) (b4 * 4294967296)) (b5 * 1099511627776)) (b6 * 281474976710656)) (b7 * 72057594037927936) = numV b0 b1 b2 b3 b4 b5 b6 b7 := by
  rw [or_zero b0 (by omega) (by omega)]
  rw [or_step b0 b1 256 8 rfl (by omega) (by omega) (by omega) (by omega) (by omega)]
  rw [or_step _ b2 65536 16 rfl (by omega) (by omega) (by omega) (by omega) (by omega)]
  rw [or_step _ b3 16777216 24 rfl (by omega) (by omega) (by omega) (by omega) (by omega)]
  rw [or_step _ b4 4294967296 32 rfl (by omega) (by omega) (by omega) (by omega) (by omega)]
  rw [or_step _ b5 1099511627776 40 rfl (by omega) (by omega) (by omega) (by omega) (by omega)]
  rw [or_step _ b6 281474976710656 48 rfl (by omega) (by omega) (by omega) (by omega) (by omega)]
  rw [or_step _ b7 72057594037927936 56 rfl (by omega) (by omega) (by omega) (by omega) (by omega)]
  rfl
theorem num_bytes (a : Int) (h1 : 0 ≤ a) (h2 : a ≤ 18446744073709551615) :
    numV (byV a 1) (byV a 256) (byV a 65536) (byV a 16777216) (byV a 4294967296) (byV a 1099511627776) (byV a 281474976710656) (byV a 72057594037927936) = a := by
  unfold numV byV; omega
theorem zag_zig (a : Int) : zagV (zigV a) = a := by unfold zagV zigV; split <;> split <;> omega
theorem zig_zag (u : Int) (h : 0 ≤ u) : zigV (zagV u) = u := by unfold zagV zigV; split <;> split <;> omega
theorem zig_bd (a : Int) (h1 : -9223372036854775808 ≤ a) (h2 : a ≤ 9223372036854775807) : 0 ≤ zigV a ∧ zigV a ≤ 18446744073709551615 := by unfold zigV; split <;> omega
theorem zag_bd (u : Int) (h1 : 0 ≤ u) (h2 : u ≤ 18446744073709551615) : -9223372036854775808 ≤ zagV u ∧ zagV u ≤ 9223372036854775807 := by unfold zagV; split <;> omega

open Go.Proofs.Ytepcbklokcfbfaa.Byt Go.Proofs.Ytepcbklokcfbfaa.BufM
theorem bv_of {x : Nat} (h : x < 256) : bv (UInt8.ofNat x) = .int .u8 (x : Int) := by unfold bv; rw [toNat_of h]
theorem bytesV_fix (x : Nat) : bytesV (x : Int) = .agg (bvs (fixB x 8)).toArray := by
  simp only [fixB, bvs, List.map_cons, List.map_nil]
  rw [bv_of (Nat.mod_lt _ (by omega)), bv_of (Nat.mod_lt _ (by omega)), bv_of (Nat.mod_lt _ (by omega)), bv_of (Nat.mod_lt _ (by omega)), bv_of (Nat.mod_lt _ (by omega)), bv_of (Nat.mod_lt _ (by omega)), bv_of (Nat.mod_lt _ (by omega)), bv_of (Nat.mod_lt _ (by omega))]
  have e0 : byV (x : Int) 1 = ((x % 256 : Nat) : Int) := by unfold byV; omega
  have e1 : byV (x : Int) 256 = ((x / 256 % 256 : Nat) : Int) := by unfold byV; omega
  have e2 : byV (x : Int) 65536 = ((x / 256 / 256 % 256 : Nat) : Int) := by unfold byV; omega
  have e3 : byV (x : Int) 16777216 = ((x / 256 / 256 / 256 % 256 : Nat) : Int) := by unfold byV; omega
  have e4 : byV (x : Int) 4294967296 = ((x / 256 / 256 / 256 / 256 % 256 : Nat) : Int) := by unfold byV; omega
  have e5 : byV (x : Int) 1099511627776 = ((x / 256 / 256 / 256 / 256 / 256 % 256 : Nat) : Int) := by unfold byV; omega
  have e6 : byV (x : Int) 281474976710656 = ((x / 256 / 256 / 256 / 256 / 256 / 256 % 256 : Nat) : Int) := by unfold byV; omega
  have e7 : byV (x : Int) 72057594037927936 = ((x / 256 / 256 / 256 / 256 / 256 / 256 / 256 % 256 : Nat) : Int) := by unfold byV; omega
  unfold bytesV
  rw [e0, e1, e2, e3, e4, e5, e6, e7]
/-- A sign folded in, as a number. -/
def zigN (a : Int) : Nat := (zigV a).toNat
theorem zigN_lt (a : Int) (h1 : -9223372036854775808 ≤ a) (h2 : a ≤ 9223372036854775807) : zigN a < 18446744073709551616 := by
  have := zig_bd a h1 h2; unfold zigN; omega
theorem zigN_cast (a : Int) (h1 : -9223372036854775808 ≤ a) (h2 : a ≤ 9223372036854775807) : ((zigN a : Nat) : Int) = zigV a := by
  have := zig_bd a h1 h2; unfold zigN; omega
theorem zigN_zag (x : Nat) : zigN (zagV x) = x := by unfold zigN; rw [zig_zag x (by omega)]; omega
end Go.Proofs.Ytepcbklokcfbfaa.Units
