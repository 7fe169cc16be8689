/- Contracts of package unit (layer 2): a number's bytes, and the number of bytes. -/
import Derived.Test.YtlfngdgaffbloaaUnitA
import Derived.Below
namespace Go.Proofs.Ytlfngdgaffbloaa.Units
open Go.ChangeShapes Go.WideShapes Go.ChangeAt Go.RowKit
set_option linter.unusedVariables false

/-- The byte of a number that counts so much. -/
def byV (a d : Int) : Int := a / d % 256
theorem byV_bd (a d : Int) : 0 ≤ byV a d ∧ byV a d ≤ 255 := by unfold byV; omega
abbrev bytesV (a : Int) : Value := .agg #[.int .u8 (byV a 1), .int .u8 (byV a 256), .int .u8 (byV a 65536), .int .u8 (byV a 16777216), .int .u8 (byV a 4294967296), .int .u8 (byV a 1099511627776), .int .u8 (byV a 281474976710656), .int .u8 (byV a 72057594037927936)]
theorem ret_agg8 {a0 a1 a2 a3 a4 a5 a6 a7 b0 b1 b2 b3 b4 b5 b6 b7 : Int} (h0 : a0 = b0) (h1 : a1 = b1) (h2 : a2 = b2) (h3 : a3 = b3) (h4 : a4 = b4) (h5 : a5 = b5) (h6 : a6 = b6) (h7 : a7 = b7) :
    Ending.returned (.agg #[.int .u8 a0, .int .u8 a1, .int .u8 a2, .int .u8 a3, .int .u8 a4, .int .u8 a5, .int .u8 a6, .int .u8 a7]) = Ending.returned (.agg #[.int .u8 b0, .int .u8 b1, .int .u8 b2, .int .u8 b3, .int .u8 b4, .int .u8 b5, .int .u8 b6, .int .u8 b7]) := by
  rw [h0, h1, h2, h3, h4, h5, h6, h7]
set_option maxRecDepth 100000 in
theorem bytes_any (a : Int) (ha1 : 0 ≤ a) (ha2 : a ≤ 18446744073709551615) (w : World) :
    Calls Try.prog 25 #[.int .u64 a] w fun e w' => e = .returned (bytesV a) ∧ Below w.heap.size w w' := by
  go_enter Try.func25, Try.ntmps25
  go_wp2
  go_rounds 9
  go_returns
  refine ⟨?_, by go_grown⟩
  apply ret_agg8 <;> (unfold byV; omega)
set_option maxRecDepth 100000 in
theorem rbytes_any (a : Int) (ha1 : 0 ≤ a) (ha2 : a ≤ 18446744073709551615) (w : World) :
    Calls Try.prog 26 #[.int .u64 a] w fun e w' => e = .returned (bytesV a) ∧ Below w.heap.size w w' := by
  go_enter Try.func26, Try.ntmps26
  go_wp2
  go_rounds 9
  go_returns
  refine ⟨?_, by go_grown⟩
  apply ret_agg8 <;> (unfold byV; omega)

def numV (b0 b1 b2 b3 b4 b5 b6 b7 : Int) : Int := b0 + b1 * 256 + b2 * 65536 + b3 * 16777216 + b4 * 4294967296 + b5 * 1099511627776 + b6 * 281474976710656 + b7 * 72057594037927936
theorem or_step (a b d : Int) (k : Nat) (hd : d = 2 ^ k) (ha : 0 ≤ a) (had : a < d) (hA : a ≤ 18446744073709551615) (hb : 0 ≤ b) (hB : b * d ≤ 18446744073709551615) : bits .or .u64 a (b * d) = a + b * d := by
  subst hd
  rw [Bits.or_comm_u64, Bits.or_u64 (b * 2 ^ k) a k (Int.mul_nonneg hb (Int.pow_nonneg (by omega))) ha had (Int.mul_emod_left _ _) hB hA, Int.add_comm]
theorem or_zero (a : Int) (ha : 0 ≤ a) (hA : a ≤ 18446744073709551615) : bits .or .u64 0 a = a := by
  rw [Bits.or_u64 0 a 64 (by omega) ha (by omega) (by omega) (by omega) hA, Int.zero_add]
theorem num_or (b0 b1 b2 b3 b4 b5 b6 b7 : Int) (h0 : 0 ≤ b0 ∧ b0 ≤ 255) (h1 : 0 ≤ b1 ∧ b1 ≤ 255) (h2 : 0 ≤ b2 ∧ b2 ≤ 255) (h3 : 0 ≤ b3 ∧ b3 ≤ 255) (h4 : 0 ≤ b4 ∧ b4 ≤ 255) (h5 : 0 ≤ b5 ∧ b5 ≤ 255) (h6 : 0 ≤ b6 ∧ b6 ≤ 255) (h7 : 0 ≤ b7 ∧ b7 ≤ 255) :
    bits .or .u64 (bits .or .u64 (bits .or .u64 (bits .or .u64 (bits .or .u64 (bits .or .u64 (bits .or .u64 (bits .or .u64 0 b0) (b1 * 256)) (b2 * 65536)) (b3 * 16777216)) (b4 * 4294967296)) (b5 * 1099511627776)) (b6 * 281474976710656)) (b7 * 72057594037927936) = numV b0 b1 b2 b3 b4 b5 b6 b7 := by
  rw [or_zero b0 (by omega) (by omega)]
  rw [or_step b0 b1 256 8 rfl (by omega) (by omega) (by omega) (by omega) (by omega)]
  rw [or_step _ b2 65536 16 rfl (by omega) (by omega) (by omega) (by omega) (by omega)]
  rw [or_step _ b3 16777216 24 rfl (by omega) (by omega) (by omega) (by omega) (by omega)]
  rw [or_step _ b4 4294967296 32 rfl (by omega) (by omega) (by omega) (by omega) (by omega)]
  rw [or_step _ b5 1099511627776 40 rfl (by omega) (by omega) (by omega) (by omega) (by omega)]
  rw [or_step _ b6 281474976710656 48 rfl (by omega) (by omega) (by omega) (by omega) (by omega)]
  rw [or_step _ b7 72057594037927936 56 rfl (by omega) (by omega) (by omega) (by omega) (by omega)]
  rfl
theorem num_bytes (a : Int) (h1 : 0 ≤ a) (h2 : a ≤ 18446744073709551615) :
    numV (byV a 1) (byV a 256) (byV a 65536) (byV a 16777216) (byV a 4294967296) (byV a 1099511627776) (byV a 281474976710656) (byV a 72057594037927936) = a := by
  unfold numV byV; omega
set_option maxRecDepth 100000 in
theorem number_of (b0 b1 b2 b3 b4 b5 b6 b7 : Int) (h0 : 0 ≤ b0 ∧ b0 ≤ 255) (h1 : 0 ≤ b1 ∧ b1 ≤ 255) (h2 : 0 ≤ b2 ∧ b2 ≤ 255) (h3 : 0 ≤ b3 ∧ b3 ≤ 255) (h4 : 0 ≤ b4 ∧ b4 ≤ 255) (h5 : 0 ≤ b5 ∧ b5 ≤ 255) (h6 : 0 ≤ b6 ∧ b6 ≤ 255) (h7 : 0 ≤ b7 ∧ b7 ≤ 255) (w : World) :
    Calls Try.prog 30 #[.agg #[.int .u8 b0, .int .u8 b1, .int .u8 b2, .int .u8 b3, .int .u8 b4, .int .u8 b5, .int .u8 b6, .int .u8 b7]] w fun e w' => e = .returned (.int .u64 (numV b0 b1 b2 b3 b4 b5 b6 b7)) ∧ Below w.heap.size w w' := by
  have HN := Lib.hid (num_or b0 b1 b2 b3 b4 b5 b6 b7 h0 h1 h2 h3 h4 h5 h6 h7)
  obtain ⟨h00, h01⟩ := h0
  obtain ⟨h10, h11⟩ := h1
  obtain ⟨h20, h21⟩ := h2
  obtain ⟨h30, h31⟩ := h3
  obtain ⟨h40, h41⟩ := h4
  obtain ⟨h50, h51⟩ := h5
  obtain ⟨h60, h61⟩ := h6
  obtain ⟨h70, h71⟩ := h7
  go_enter Try.func30, Try.ntmps30
  go_wp2
  go_rounds 9
  go_returns
  exact ⟨ret_int HN.out, by go_grown⟩
theorem number_any (a : Int) (h1 : 0 ≤ a) (h2 : a ≤ 18446744073709551615) (w : World) :
    Calls Try.prog 30 #[bytesV a] w fun e w' => e = .returned (.int .u64 a) ∧ Below w.heap.size w w' :=
  (number_of _ _ _ _ _ _ _ _ (byV_bd _ _) (byV_bd _ _) (byV_bd _ _) (byV_bd _ _) (byV_bd _ _) (byV_bd _ _) (byV_bd _ _) (byV_bd _ _) w).mono fun e w' ⟨he, hw⟩ => ⟨by rw [he, num_bytes a h1 h2], hw⟩
end Go.Proofs.Ytlfngdgaffbloaa.Units
