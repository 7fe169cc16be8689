/- Contracts of package span (layer 1) and of the document's own answers for it: sums, differences, middles, sizes, clamping. -/
import Derived.Test.YtjdllkmnhckpaaaRows
import Derived.WalkKit
import Derived.WalkLawsBesides
import Derived.WalkSpells
import Derived.ProofKit
import Derived.Lib.Hide
import Derived.Test.YtjdllkmnhckpaaaMathA
namespace Go.Proofs.Ytjdllkmnhckpaaa.Span
open Go.ChangeShapes Go.WideShapes Go.ChangeAt Go.RowKit
set_option linter.unusedVariables false

/-- The number, or 0 if it is no int64. -/
def fitV (x : Int) : Int := if -9223372036854775808 ≤ x ∧ x ≤ 9223372036854775807 then x else 0
/-- Whether it is an int64. -/
def fitB (x : Int) : Bool := decide (-9223372036854775808 ≤ x ∧ x ≤ 9223372036854775807)

theorem fitV_bd (x : Int) : -9223372036854775808 ≤ fitV x ∧ fitV x ≤ 9223372036854775807 := by
  unfold fitV; split <;> omega
theorem fit_yes (x : Int) (h : -9223372036854775808 ≤ x ∧ x ≤ 9223372036854775807) : fitV x = x ∧ fitB x = true := by
  unfold fitV fitB; simp [h]
theorem fit_no (x : Int) (h : ¬ (-9223372036854775808 ≤ x ∧ x ≤ 9223372036854775807)) : fitV x = 0 ∧ fitB x = false := by
  unfold fitV fitB; rw [if_neg h]; simp [h]

theorem ret_ib {k : IntKind} {a b : Int} {c d : Bool} (h : a = b) (h' : c = d) : Ending.returned (.tuple #[.int k a, .bool c]) = Ending.returned (.tuple #[.int k b, .bool d]) := by rw [h, h']
theorem ret_int {k : IntKind} {a b : Int} (h : a = b) : Ending.returned (.int k a) = .returned (.int k b) := by rw [h]

theorem add_any (a b : Int) (ha : -9223372036854775808 ≤ a ∧ a ≤ 9223372036854775807) (hb : -9223372036854775808 ≤ b ∧ b ≤ 9223372036854775807) (w : World) :
    Calls Try.prog 11 #[.int .i64 a, .int .i64 b] w fun e w' => e = .returned (.tuple #[.int .i64 (fitV (a + b)), .bool (fitB (a + b))]) ∧ w = w' := by
  obtain ⟨ha1, ha2⟩ := ha
  obtain ⟨hb1, hb2⟩ := hb
  go_enter Try.func11, Try.ntmps11
  go_wp2
  all_goals
    go_ret2
    first
    | exact ⟨ret_ib (fit_yes _ (by omega)).1.symm (fit_yes _ (by omega)).2.symm, rfl⟩
    | exact ⟨ret_ib (fit_no _ (by omega)).1.symm (fit_no _ (by omega)).2.symm, rfl⟩

theorem radd_any (a b : Int) (ha : -9223372036854775808 ≤ a ∧ a ≤ 9223372036854775807) (hb : -9223372036854775808 ≤ b ∧ b ≤ 9223372036854775807) (w : World) :
    Calls Try.prog 12 #[.int .i64 a, .int .i64 b] w fun e w' => e = .returned (.tuple #[.int .i64 (fitV (a + b)), .bool (fitB (a + b))]) ∧ w = w' := by
  obtain ⟨ha1, ha2⟩ := ha
  obtain ⟨hb1, hb2⟩ := hb
  go_enter Try.func12, Try.ntmps12
  go_wp2
  all_goals
    go_ret2
    first
    | exact ⟨ret_ib (fit_yes _ (by omega)).1.symm (fit_yes _ (by omega)).2.symm, rfl⟩
    | exact ⟨ret_ib (fit_no _ (by omega)).1.symm (fit_no _ (by omega)).2.symm, rfl⟩

theorem sub_any (a b : Int) (ha : -9223372036854775808 ≤ a ∧ a ≤ 9223372036854775807) (hb : -9223372036854775808 ≤ b ∧ b ≤ 9223372036854775807) (w : World) :
    Calls Try.prog 13 #[.int .i64 a, .int .i64 b] w fun e w' => e = .returned (.tuple #[.int .i64 (fitV (a - b)), .bool (fitB (a - b))]) ∧ w = w' := by
  obtain ⟨ha1, ha2⟩ := ha
  obtain ⟨hb1, hb2⟩ := hb
  go_enter Try.func13, Try.ntmps13
  go_wp2
  all_goals
    go_ret2
    first
    | exact ⟨ret_ib (fit_yes _ (by omega)).1.symm (fit_yes _ (by omega)).2.symm, rfl⟩
    | exact ⟨ret_ib (fit_no _ (by omega)).1.symm (fit_no _ (by omega)).2.symm, rfl⟩

theorem rsub_any (a b : Int) (ha : -9223372036854775808 ≤ a ∧ a ≤ 9223372036854775807) (hb : -9223372036854775808 ≤ b ∧ b ≤ 9223372036854775807) (w : World) :
    Calls Try.prog 14 #[.int .i64 a, .int .i64 b] w fun e w' => e = .returned (.tuple #[.int .i64 (fitV (a - b)), .bool (fitB (a - b))]) ∧ w = w' := by
  obtain ⟨ha1, ha2⟩ := ha
  obtain ⟨hb1, hb2⟩ := hb
  go_enter Try.func14, Try.ntmps14
  go_wp2
  all_goals
    go_ret2
    first
    | exact ⟨ret_ib (fit_yes _ (by omega)).1.symm (fit_yes _ (by omega)).2.symm, rfl⟩
    | exact ⟨ret_ib (fit_no _ (by omega)).1.symm (fit_no _ (by omega)).2.symm, rfl⟩

def clampV (x lo hi : Int) : Int := if x < lo then lo else if hi < x then hi else x

theorem clamp_any (x lo hi : Int) (w : World) :
    Calls Try.prog 30 #[.int .i64 x, .int .i64 lo, .int .i64 hi] w fun e w' => e = .returned (.int .i64 (clampV x lo hi)) ∧ w = w' := by
  go_enter Try.func30, Try.ntmps30
  go_wp2
  all_goals
    go_ret
    exact ⟨ret_int (by unfold clampV; split <;> (try split) <;> omega), rfl⟩

theorem rclamp_any (x lo hi : Int) (w : World) :
    Calls Try.prog 31 #[.int .i64 x, .int .i64 lo, .int .i64 hi] w fun e w' => e = .returned (.int .i64 (clampV x lo hi)) ∧ w = w' := by
  go_enter Try.func31, Try.ntmps31
  go_wp2
  all_goals
    go_ret
    exact ⟨ret_int (by unfold clampV; split <;> (try split) <;> omega), rfl⟩

theorem abs_num (a : Int) (h : a < 0) (ha : -9223372036854775808 ≤ a) : IntKind.u64.wrap (-IntKind.u64.wrap a) = (a.natAbs : Int) := by
  simp only [IntKind.wrap_u64]; omega
theorem abs_any (a : Int) (ha : -9223372036854775808 ≤ a ∧ a ≤ 9223372036854775807) (w : World) :
    Calls Try.prog 26 #[.int .i64 a] w fun e w' => e = .returned (.int .u64 (a.natAbs : Int)) ∧ w = w' := by
  obtain ⟨ha1, ha2⟩ := ha
  go_enter Try.func26, Try.ntmps26
  go_wp2
  · go_ret
    exact ⟨ret_int (abs_num a (by omega) ha1), rfl⟩
  · go_ret
    exact ⟨ret_int (by omega), rfl⟩

theorem gap_num (a b : Int) (h : b ≤ a) (ha : a ≤ 9223372036854775807) (hb : -9223372036854775808 ≤ b) : IntKind.u64.wrap (IntKind.u64.wrap a - IntKind.u64.wrap b) = ((a - b).natAbs : Int) := by
  simp only [IntKind.wrap_u64]; omega
theorem gap_num' (a b : Int) (h : a < b) (ha : -9223372036854775808 ≤ a) (hb : b ≤ 9223372036854775807) : IntKind.u64.wrap (IntKind.u64.wrap b - IntKind.u64.wrap a) = ((a - b).natAbs : Int) := by
  simp only [IntKind.wrap_u64]; omega
theorem gap_any (a b : Int) (ha : -9223372036854775808 ≤ a ∧ a ≤ 9223372036854775807) (hb : -9223372036854775808 ≤ b ∧ b ≤ 9223372036854775807) (w : World) :
    Calls Try.prog 28 #[.int .i64 a, .int .i64 b] w fun e w' => e = .returned (.int .u64 ((a - b).natAbs : Int)) ∧ w = w' := by
  obtain ⟨ha1, ha2⟩ := ha
  obtain ⟨hb1, hb2⟩ := hb
  go_enter Try.func28, Try.ntmps28
  go_wp2
  · go_ret
    exact ⟨ret_int (gap_num' a b (by omega) ha1 hb2), rfl⟩
  · go_ret
    exact ⟨ret_int (gap_num a b (by omega) ha2 hb1), rfl⟩

theorem mid_any (a b : Int) (ha : -9223372036854775808 ≤ a ∧ a ≤ 9223372036854775807) (hb : -9223372036854775808 ≤ b ∧ b ≤ 9223372036854775807) (w : World) :
    Calls Try.prog 24 #[.int .i64 a, .int .i64 b] w fun e w' => e = .returned (.int .i64 ((a + b) / 2)) ∧ w = w' := by
  go_enter Try.func24, Try.ntmps24
  go_wp2
  go_ret
  refine ⟨ret_int ?_, rfl⟩
  rw [Math.mid_bits a b ha hb]
  exact IntWalk.wrap64_in _ (by omega)

theorem rabs_any (a : Int) (ha : -9223372036854775808 ≤ a ∧ a ≤ 9223372036854775807) (w : World) :
    Calls Try.prog 27 #[.int .i64 a] w fun e w' => e = .returned (.int .u64 (a.natAbs : Int)) ∧ w = w' := by
  obtain ⟨ha1, ha2⟩ := ha
  by_cases hm : a = -9223372036854775808
  · subst hm
    go_enter Try.func27, Try.ntmps27
    go_wp2
    go_ret
    exact ⟨rfl, rfl⟩
  · have h1 : -9223372036854775807 ≤ a := by omega
    have h2 : (a == -9223372036854775808) = false := beq_eq_false_iff_ne.2 hm
    clear hm
    by_cases h3 : a < 0
    · go_enter Try.func27, Try.ntmps27
      go_wp2
      go_ret
      exact ⟨ret_int (by omega), rfl⟩
    · go_enter Try.func27, Try.ntmps27
      go_wp2
      go_ret
      exact ⟨ret_int (by omega), rfl⟩

end Go.Proofs.Ytjdllkmnhckpaaa.Span
