/- Contracts of package nodes (layer 3): how many there are, the least one, the first ones, how many are below a node. -/
import Derived.Test.YtlmdandgjapmjaaNodX
import Derived.Test.YtlmdandgjapmjaaNodesP
import Derived.Shelf.Spec.TrailingZeros
namespace Go.Proofs.Ytlmdandgjapmjaa.Nodes
open Go.ChangeShapes Go.WideShapes Go.ChangeAt Go.RowKit
set_option linter.unusedVariables false

theorem and_fact (x c : Nat) (k : Int) (hk : k = (c : Int)) (hx : x < 18446744073709551616) (hc : c < 18446744073709551616) : ∃ A : Nat, Hid (A = x &&& c) ∧ bits .and .u64 (x : Int) k = (A : Int) ∧ A ≤ c :=
  ⟨_, Lib.hid rfl, by rw [hk]; exact u64_and_nat x c hx hc, Nat.and_le_right⟩
theorem low7 (c : Nat) : bits .and .i64 (c : Int) 127 = ((c % 128 : Nat) : Int) := by
  show IntKind.i64.wrap ((BitVec.ofInt 64 (c : Int) &&& BitVec.ofInt 64 127).toNat : Int) = _
  rw [BitVec.toNat_and, show (BitVec.ofInt 64 127).toNat = 2 ^ 7 - 1 from by decide, Nat.and_two_pow_sub_one_eq_mod, BitVec.ofInt_natCast, BitVec.toNat_ofNat, IntKind.wrap_i64]
  omega
/-! The least one: math/bits.TrailingZeros64 reads a table of the library's. -/
end Go.Proofs.Ytlmdandgjapmjaa.Nodes
