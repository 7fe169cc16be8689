/- Contracts of the document's quotients (layer 1), for every layer. -/
import Derived.Test.YtcadmepfnafpmaaSpanB
namespace Go.Proofs.Ytcadmepfnafpmaa.Span
open Go.ChangeShapes Go.WideShapes Go.ChangeAt Go.RowKit
set_option linter.unusedVariables false

theorem rest_bd (a b : Int) (ha : -9223372036854775808 ≤ a ∧ a ≤ 9223372036854775807) : -9223372036854775808 ≤ a.tdiv b * b ∧ a.tdiv b * b ≤ 9223372036854775807 := by
  have h1 := Int.tdiv_mul_add_tmod a b
  have h2 : (a.tmod b).natAbs = a.natAbs % b.natAbs := Int.natAbs_tmod a b
  have h3 : a.natAbs % b.natAbs ≤ a.natAbs := Nat.mod_le _ _
  have h4 : 0 ≤ a → 0 ≤ a.tmod b := fun h => Int.tmod_nonneg _ h
  have h5 : a ≤ 0 → a.tmod b ≤ 0 := fun h => by have := Int.tmod_nonneg b (show 0 ≤ -a by omega); rw [Int.neg_tmod] at this; omega
  generalize a.tdiv b * b = q at *
  by_cases h : 0 ≤ a
  · have := h4 h; omega
  · have := h5 (by omega); omega
theorem rest_ne (a b : Int) : (a.tdiv b * b != a) = (a.tmod b != 0) := by
  have h1 := Int.tdiv_mul_add_tmod a b
  rw [Bool.eq_iff_iff, bne_iff_ne, bne_iff_ne]
  omega

theorem rdiv_no0 (a : Int) (w : World) :
    Calls Try.prog 32 #[.int .i64 a, .int .i64 0] w fun e w' => e = .returned (.tuple #[.int .i64 0, .bool false]) ∧ w = w' := by
  go_enter Try.func32, Try.ntmps32
  go_wp2
  go_ret2
  exact ⟨rfl, rfl⟩
theorem rdiv_nomin (w : World) :
    Calls Try.prog 32 #[.int .i64 (-9223372036854775808), .int .i64 (-1)] w fun e w' => e = .returned (.tuple #[.int .i64 0, .bool false]) ∧ w = w' := by
  go_enter Try.func32, Try.ntmps32
  go_wp2
  go_ret2
  exact ⟨rfl, rfl⟩
theorem rdiv_go (a b : Int) (ham hbm : Bool) (HA : (a == -9223372036854775808) = ham) (HB : (b == -1) = hbm) (hh : (ham && hbm) = false)
    (h0 : b ≠ 0) (t1 : -9223372036854775808 ≤ a.tdiv b) (t2 : a.tdiv b ≤ 9223372036854775807) (r1 : -9223372036854775808 ≤ a.tdiv b * b) (r2 : a.tdiv b * b ≤ 9223372036854775807)
    (HR : (a.tdiv b * b != a) = false) (w : World) :
    Calls Try.prog 32 #[.int .i64 a, .int .i64 b] w fun e w' => e = .returned (.tuple #[.int .i64 (a.tdiv b), .bool true]) ∧ w = w' := by
  have hb0 : (b == 0) = false := beq_eq_false_iff_ne.2 h0
  cases ham <;> cases hbm <;> try (exact absurd hh (by decide))
  all_goals
    clear hh
    go_enter Try.func32, Try.ntmps32
    go_wp2
    go_ret2
    exact ⟨rfl, rfl⟩
theorem rdiv_gos (a b : Int) (ham hbm sa sb : Bool) (HA : (a == -9223372036854775808) = ham) (HB : (b == -1) = hbm) (hh : (ham && hbm) = false)
    (h0 : b ≠ 0) (t1 : -4611686018427387904 ≤ a.tdiv b) (t2 : a.tdiv b ≤ 4611686018427387904) (r1 : -9223372036854775808 ≤ a.tdiv b * b) (r2 : a.tdiv b * b ≤ 9223372036854775807)
    (HR : (a.tdiv b * b != a) = true) (HSA : decide (a < 0) = sa) (HSB : decide (b < 0) = sb) (w : World) :
    Calls Try.prog 32 #[.int .i64 a, .int .i64 b] w fun e w' => e = .returned (.tuple #[.int .i64 (if sa != sb then a.tdiv b - 1 else a.tdiv b), .bool true]) ∧ w = w' := by
  have hb0 : (b == 0) = false := beq_eq_false_iff_ne.2 h0
  cases ham <;> cases hbm <;> cases sa <;> cases sb <;> try (exact absurd hh (by decide))
  all_goals
    clear hh
    go_enter Try.func32, Try.ntmps32
    go_wp2
    go_ret2
    exact ⟨rfl, rfl⟩
theorem rdiv_any (a b : Int) (ha : -9223372036854775808 ≤ a ∧ a ≤ 9223372036854775807) (hb : -9223372036854775808 ≤ b ∧ b ≤ 9223372036854775807) (w : World) :
    Calls Try.prog 32 #[.int .i64 a, .int .i64 b] w fun e w' => e = .returned (.tuple #[.int .i64 (divV a b), .bool (divB a b)]) ∧ w = w' := by
  by_cases h0 : b = 0
  · subst h0
    exact rdiv_no0 a w
  · by_cases hm : a = -9223372036854775808 ∧ b = -1
    · obtain ⟨rfl, rfl⟩ := hm
      exact rdiv_nomin w
    · have q := fit_yes _ (Math.fdiv_bd a b ha h0 hm)
      rw [show divV a b = a.fdiv b from by unfold divV; rw [if_neg h0, q.1], show divB a b = true from by unfold divB; rw [if_neg h0, q.2]]
      have hh : ((a == -9223372036854775808) && (b == -1)) = false := by
        rw [Bool.and_eq_false_iff, beq_eq_false_iff_ne, beq_eq_false_iff_ne]
        by_cases h : a = -9223372036854775808
        · exact Or.inr (fun h' => hm ⟨h, h'⟩)
        · exact Or.inl h
      have rb := rest_bd a b ha
      by_cases hr : a.tmod b = 0
      · have HR : (a.tdiv b * b != a) = false := by rw [rest_ne]; simp [hr]
        have tb := Math.tdiv_bd a b ha h0 hm
        rw [show a.fdiv b = a.tdiv b from by rw [Math.fdiv_of a b h0, if_neg (fun h => h.1 hr)]]
        exact rdiv_go a b _ _ rfl rfl hh h0 tb.1 tb.2 rb.1 rb.2 HR w
      · have HR : (a.tdiv b * b != a) = true := by rw [rest_ne]; simp [hr]
        have th := Math.tdiv_half a b ha h0 hr
        rw [show a.fdiv b = (if decide (a < 0) != decide (b < 0) then a.tdiv b - 1 else a.tdiv b) from by
          rw [Math.fdiv_of a b h0]
          by_cases h1 : a < 0 <;> by_cases h2 : b < 0 <;> simp [h1, h2, hr]]
        exact rdiv_gos a b _ _ _ _ rfl rfl hh h0 th.1 th.2 rb.1 rb.2 HR rfl rfl w

end Go.Proofs.Ytcadmepfnafpmaa.Span
