/- Contracts of package unit (layer 2): what is folded, halved or laid in bytes comes back. -/
import Derived.Test.YtlfngdgaffbloaaUnitB
import Derived.ChangeKeysEq
namespace Go.Proofs.Ytlfngdgaffbloaa.Units
open Go.ChangeShapes Go.WideShapes Go.ChangeAt Go.RowKit
set_option linter.unusedVariables false
theorem zag_zig (a : Int) : zagV (zigV a) = a := by unfold zagV zigV; split <;> split <;> omega
theorem zig_zag (u : Int) (h : 0 ≤ u) : zigV (zagV u) = u := by unfold zagV zigV; split <;> split <;> omega
theorem zig_bd (a : Int) (h1 : -9223372036854775808 ≤ a) (h2 : a ≤ 9223372036854775807) : 0 ≤ zigV a ∧ zigV a ≤ 18446744073709551615 := by unfold zigV; split <;> omega
theorem zag_bd (u : Int) (h1 : 0 ≤ u) (h2 : u ≤ 18446744073709551615) : -9223372036854775808 ≤ zagV u ∧ zagV u ≤ 9223372036854775807 := by unfold zagV; split <;> omega
theorem zagzig (a : Int) (h1 : -9223372036854775808 ≤ a) (h2 : a ≤ 9223372036854775807) (w : World) :
    Calls Try.prog 28 #[.int .u64 (zigV a)] w fun e w' => e = .returned (.int .i64 a) ∧ w = w' :=
  (zag_any (zigV a) (zig_bd a h1 h2).1 (zig_bd a h1 h2).2 w).mono fun e w' ⟨he, hw⟩ => ⟨by rw [he, zag_zig], hw⟩
theorem zigzag (u : Int) (h1 : 0 ≤ u) (h2 : u ≤ 18446744073709551615) (w : World) :
    Calls Try.prog 18 #[.int .i64 (zagV u)] w fun e w' => e = .returned (.int .u64 u) ∧ w = w' :=
  (zig_any (zagV u) (zag_bd u h1 h2).1 (zag_bd u h1 h2).2 w).mono fun e w' ⟨he, hw⟩ => ⟨by rw [he, zig_zag u h1], hw⟩
theorem wholehalves (u : Int) (h1 : 0 ≤ u) (h2 : u ≤ 18446744073709551615) (w : World) :
    Calls Try.prog 29 #[.int .u32 (u / 4294967296), .int .u32 (u % 4294967296)] w fun e w' => e = .returned (.int .u64 u) ∧ w = w' :=
  (whole_any (u / 4294967296) (u % 4294967296) (by omega) (by omega) (by omega) (by omega) w).mono fun e w' ⟨he, hw⟩ => ⟨by rw [he, show u / 4294967296 * 4294967296 + u % 4294967296 = u from by omega], hw⟩
theorem halveswhole (a b : Int) (h1 : 0 ≤ a) (h2 : a ≤ 4294967295) (h3 : 0 ≤ b) (h4 : b ≤ 4294967295) (w : World) :
    Calls Try.prog 27 #[.int .u64 (a * 4294967296 + b)] w fun e w' => e = .returned (.tuple #[.int .u32 a, .int .u32 b]) ∧ w = w' :=
  (halves_any (a * 4294967296 + b) (by omega) (by omega) w).mono fun e w' ⟨he, hw⟩ => ⟨by rw [he, show (a * 4294967296 + b) / 4294967296 = a from by omega, show (a * 4294967296 + b) % 4294967296 = b from by omega], hw⟩
theorem ticks_of (a : Int) (w : World) :
    Calls Try.prog 13 #[.int .i64 (a * 1024)] w fun e w' => e = .returned (.int .i64 a) ∧ w = w' :=
  (ticks_any (a * 1024) w).mono fun e w' ⟨he, hw⟩ => ⟨by rw [he, show a * 1024 / 1024 = a from by omega], hw⟩
theorem up_of (a : Int) (h : -9007199254740992 ≤ a ∧ a ≤ 9007199254740991) (w : World) :
    Calls Try.prog 14 #[.int .i64 (a * 1024)] w fun e w' => e = .returned (.int .i64 a) ∧ w = w' :=
  (up_any (a * 1024) (by omega) (by omega) w).mono fun e w' ⟨he, hw⟩ => ⟨by rw [he, show upV (a * 1024) = a from by unfold upV; rw [if_pos (by omega)]; omega], hw⟩
theorem rest_of (a : Int) (w : World) :
    Calls Try.prog 16 #[.int .i64 (a * 1024)] w fun e w' => e = .returned (.int .i64 0) ∧ w = w' :=
  (rest_any (a * 1024) w).mono fun e w' ⟨he, hw⟩ => ⟨by rw [he, show a * 1024 % 1024 = 0 from by omega], hw⟩
theorem near_bd (a b : Int) : -9223372036854775808 ≤ nearV a b ∧ nearV a b ≤ 9223372036854775807 := by unfold nearV wrap64; omega
theorem near_mod (a b : Int) (h3 : 0 ≤ b) (h4 : b ≤ 4294967295) : nearV a b % 4294967296 = b := by unfold nearV wrap64 lowV; omega
theorem near_gap (a b : Int) : wrap64 (nearV a b - a) = lowV (b - lowV a) := by unfold nearV wrap64 lowV; omega
theorem near_back (a d : Int) (h1 : -2147483648 ≤ d) (h2 : d ≤ 2147483647) : nearV a (wrap64 (a + d) % 4294967296) = wrap64 (a + d) := by unfold nearV wrap64 lowV; omega
@[go_sem] theorem eq8 (b0 b1 b2 b3 b4 b5 b6 b7 : Int) (w : World) : (Op.equalIn 10000 34 (.agg #[.int .u8 b0, .int .u8 b1, .int .u8 b2, .int .u8 b3, .int .u8 b4, .int .u8 b5, .int .u8 b6, .int .u8 b7]) (.agg #[.int .u8 b0, .int .u8 b1, .int .u8 b2, .int .u8 b3, .int .u8 b4, .int .u8 b5, .int .u8 b6, .int .u8 b7])).run Try.prog w = .ok true w := by
  obtain ⟨i, hi⟩ := Option.isSome_iff_exists.1 (show (Try.prog.info? 5).isSome = true from by kernel_rfl)
  rw [run_equalIn_array w 9999 _ _ Try.underlying34 hi]
  rw [show List.range 8 = [0,1,2,3,4,5,6,7] from rfl, show Try.prog.cellsOf 5 = 1 from by kernel_rfl]
  simp [Op.eqItems, part, go_sem]
end Go.Proofs.Ytlfngdgaffbloaa.Units
