/- Contracts of package span (layer 1) and of the document's own answers for it: products; the document's quotients, middles and gaps. -/
import Derived.Shelf.Bits.Mul64
import Derived.Test.YtjdllkmnhckpaaaSpanB
namespace Go.Proofs.Ytjdllkmnhckpaaa.Span
open Go.ChangeShapes Go.WideShapes Go.ChangeAt Go.RowKit
set_option linter.unusedVariables false

def lays264_ren : Go.Shelf.Ren := ⟨fun | 264 => 32 | n => n, fun | 53 => 31 | 46 => 44 | n => n, fun | n => n⟩
theorem lays264 : Go.Proofs.Lays.n264 Try.prog lays264_ren := {
  mixed := by kernel_rfl
  f264 := Try.func32.trans (congrArg some (by kernel_rfl))
  t46 := Try.underlying44
  a46 := Try.isAgg44
  z46 := Try.sizeOf44
  v46 := Try.zeroValue44
  t53 := Try.underlying31
  a53 := Try.isAgg31
  z53 := Try.sizeOf31
  v53 := Try.zeroValue31 }

theorem mul64_lo (x y : Nat) (hx : x < 18446744073709551616) (hy : y < 18446744073709551616) (h : x * y < 18446744073709551616) (w : World) :
    Calls Try.prog 32 #[.int .u64 x, .int .u64 y] w fun e w' => e = .returned (.tuple #[.int .u64 0, .int .u64 ((x * y : Nat) : Int)]) ∧ w = w' := by
  refine (Any.bits_Mul64 lays264 x y hx hy w).mono fun e w' ⟨he, hw⟩ => ⟨?_, hw.symm⟩
  rw [he, Nat.div_eq_of_lt h, Nat.mod_eq_of_lt h]
  rfl
theorem mul64_hi (x y : Nat) (hx : x < 18446744073709551616) (hy : y < 18446744073709551616) (h : 18446744073709551616 ≤ x * y) (w : World) :
    Calls Try.prog 32 #[.int .u64 x, .int .u64 y] w fun e w' => ∃ hi lo : Int, e = .returned (.tuple #[.int .u64 hi, .int .u64 lo]) ∧ (hi != 0) = true ∧ w = w' := by
  refine (Any.bits_Mul64 lays264 x y hx hy w).mono fun e w' ⟨he, hw⟩ => ⟨_, _, he, ?_, hw.symm⟩
  have h1 : 1 ≤ x * y / 18446744073709551616 := (Nat.le_div_iff_mul_le (by omega)).2 (by omega)
  exact bne_iff_ne.2 (by omega)

theorem neg_size (s : Int) (h0 : 0 ≤ s) (h : s ≤ 9223372036854775808) : wrap64 (IntKind.u64.wrap (-s)) = -s := by
  rw [IntKind.wrap_u64]; unfold wrap64; omega
def sgn (s : Int) (b : Bool) : Int := if b then -s else s
theorem signed_any (s : Int) (b : Bool) (h0 : 0 ≤ s) (h1 : s < 18446744073709551616) (w : World) :
    Calls Try.prog 33 #[.int .u64 s, .bool b] w fun e w' => e = .returned (.tuple #[.int .i64 (fitV (sgn s b)), .bool (fitB (sgn s b))]) ∧ w = w' := by
  cases b
  · by_cases h2 : s ≤ 9223372036854775807
    · have HF : Hid _ := Lib.hid (fit_yes (sgn s false) (by simp [sgn]; omega))
      go_enter Try.func33, Try.ntmps33
      go_wp2
      go_ret2
      exact ⟨ret_ib HF.out.1.symm HF.out.2.symm, rfl⟩
    · have HF : Hid _ := Lib.hid (fit_no (sgn s false) (by simp [sgn]; omega))
      go_enter Try.func33, Try.ntmps33
      go_wp2
      go_ret2
      exact ⟨ret_ib HF.out.1.symm HF.out.2.symm, rfl⟩
  · by_cases h2 : s ≤ 9223372036854775808
    · have HN := Lib.hid (neg_size s h0 h2)
      have HF : Hid _ := Lib.hid (fit_yes (sgn s true) (by simp [sgn]; omega))
      go_enter Try.func33, Try.ntmps33
      go_wp2
      go_ret2
      exact ⟨ret_ib (by rw [HF.out.1]; exact HN.out) HF.out.2.symm, rfl⟩
    · have HF : Hid _ := Lib.hid (fit_no (sgn s true) (by simp [sgn]; omega))
      go_enter Try.func33, Try.ntmps33
      go_wp2
      go_ret2
      exact ⟨ret_ib HF.out.1.symm HF.out.2.symm, rfl⟩

theorem natAbs_lt (a : Int) (ha : -9223372036854775808 ≤ a ∧ a ≤ 9223372036854775807) : a.natAbs < 18446744073709551616 := by omega

theorem mul_sgn (a b : Int) : a * b = sgn ((a.natAbs * b.natAbs : Nat) : Int) (decide (a < 0) != decide (b < 0)) := by
  rw [Math.mul_natAbs a b]
  by_cases h1 : a < 0 <;> by_cases h2 : b < 0 <;> simp [h1, h2, sgn]

theorem mul_any (a b : Int) (ha : -9223372036854775808 ≤ a ∧ a ≤ 9223372036854775807) (hb : -9223372036854775808 ≤ b ∧ b ≤ 9223372036854775807) (w : World) :
    Calls Try.prog 16 #[.int .i64 a, .int .i64 b] w fun e w' => e = .returned (.tuple #[.int .i64 (fitV (a * b)), .bool (fitB (a * b))]) ∧ w = w' := by
  have A := Lib.hid (fun W => abs_any a ha W)
  have B := Lib.hid (fun W => abs_any b hb W)
  have HX := Lib.hid (natAbs_lt a ha)
  have HY := Lib.hid (natAbs_lt b hb)
  have HM := Lib.hid (mul_sgn a b)
  clear ha hb
  by_cases h : a.natAbs * b.natAbs < 18446744073709551616
  · have M := Lib.hid (fun W => mul64_lo _ _ HX.out HY.out h W)
    have S := Lib.hid (fun b' W => signed_any ((a.natAbs * b.natAbs : Nat) : Int) b' (by omega) (by omega) W)
    clear h
    go_enter Try.func16, Try.ntmps16
    go_wp2_with fail
    refine (A.out _).mono ?_; rintro e w' ⟨rfl, rfl⟩
    go_wp2_with fail
    refine (B.out _).mono ?_; rintro e w' ⟨rfl, rfl⟩
    go_wp2_with fail
    refine (M.out _).mono ?_; rintro e w' ⟨rfl, rfl⟩
    go_wp2_with fail
    refine (S.out _ _).mono ?_; rintro e w' ⟨rfl, rfl⟩
    go_wp2_with fail
    go_ret2
    rw [HM.out]
    exact ⟨rfl, rfl⟩
  · have M := Lib.hid (fun W => mul64_hi _ _ HX.out HY.out (by omega) W)
    have HF : Hid _ := Lib.hid (fit_no (a * b) (by rw [HM.out]; unfold sgn; split <;> omega))
    clear h
    go_enter Try.func16, Try.ntmps16
    go_wp2_with fail
    refine (A.out _).mono ?_; rintro e w' ⟨rfl, rfl⟩
    go_wp2_with fail
    refine (B.out _).mono ?_; rintro e w' ⟨rfl, rfl⟩
    go_wp2_with fail
    refine (M.out _).mono ?_; rintro e w' ⟨hi, lo, rfl, hhi, rfl⟩
    go_wp2_with fail
    go_ret2
    exact ⟨ret_ib HF.out.1.symm HF.out.2.symm, rfl⟩

/-! The document's own answers. -/
theorem rest_bd (a b : Int) (ha : -9223372036854775808 ≤ a ∧ a ≤ 9223372036854775807) : -9223372036854775808 ≤ a.tdiv b * b ∧ a.tdiv b * b ≤ 9223372036854775807 := by
  have h1 := Int.tdiv_mul_add_tmod a b
  have h2 : (a.tmod b).natAbs = a.natAbs % b.natAbs := Int.natAbs_tmod a b
  have h3 : a.natAbs % b.natAbs ≤ a.natAbs := Nat.mod_le _ _
  have h4 : 0 ≤ a → 0 ≤ a.tmod b := fun h => Int.tmod_nonneg _ h
  have h5 : a ≤ 0 → a.tmod b ≤ 0 := fun h => by have := Int.tmod_nonneg b (show 0 ≤ -a by omega); rw [Int.neg_tmod] at this; omega
  generalize a.tdiv b * b = q at *
  by_cases h : 0 ≤ a
  · have := h4 h; omega
  · have := h5 (by omega); omega
theorem rest_ne (a b : Int) : (a.tdiv b * b != a) = (a.tmod b != 0) := by
  have h1 := Int.tdiv_mul_add_tmod a b
  rw [Bool.eq_iff_iff, bne_iff_ne, bne_iff_ne]
  omega

theorem rdiv_no0 (a : Int) (w : World) :
    Calls Try.prog 19 #[.int .i64 a, .int .i64 0] w fun e w' => e = .returned (.tuple #[.int .i64 0, .bool false]) ∧ w = w' := by
  go_enter Try.func19, Try.ntmps19
  go_wp2
  go_ret2
  exact ⟨rfl, rfl⟩
theorem rdiv_nomin (w : World) :
    Calls Try.prog 19 #[.int .i64 (-9223372036854775808), .int .i64 (-1)] w fun e w' => e = .returned (.tuple #[.int .i64 0, .bool false]) ∧ w = w' := by
  go_enter Try.func19, Try.ntmps19
  go_wp2
  go_ret2
  exact ⟨rfl, rfl⟩
theorem rdiv_go (a b : Int) (ham hbm : Bool) (HA : (a == -9223372036854775808) = ham) (HB : (b == -1) = hbm) (hh : (ham && hbm) = false)
    (h0 : b ≠ 0) (t1 : -9223372036854775808 ≤ a.tdiv b) (t2 : a.tdiv b ≤ 9223372036854775807) (r1 : -9223372036854775808 ≤ a.tdiv b * b) (r2 : a.tdiv b * b ≤ 9223372036854775807)
    (HR : (a.tdiv b * b != a) = false) (w : World) :
    Calls Try.prog 19 #[.int .i64 a, .int .i64 b] w fun e w' => e = .returned (.tuple #[.int .i64 (a.tdiv b), .bool true]) ∧ w = w' := by
  have hb0 : (b == 0) = false := beq_eq_false_iff_ne.2 h0
  cases ham <;> cases hbm <;> try (exact absurd hh (by decide))
  all_goals
    clear hh
    go_enter Try.func19, Try.ntmps19
    go_wp2
    go_ret2
    exact ⟨rfl, rfl⟩
theorem rdiv_gos (a b : Int) (ham hbm sa sb : Bool) (HA : (a == -9223372036854775808) = ham) (HB : (b == -1) = hbm) (hh : (ham && hbm) = false)
    (h0 : b ≠ 0) (t1 : -4611686018427387904 ≤ a.tdiv b) (t2 : a.tdiv b ≤ 4611686018427387904) (r1 : -9223372036854775808 ≤ a.tdiv b * b) (r2 : a.tdiv b * b ≤ 9223372036854775807)
    (HR : (a.tdiv b * b != a) = true) (HSA : decide (a < 0) = sa) (HSB : decide (b < 0) = sb) (w : World) :
    Calls Try.prog 19 #[.int .i64 a, .int .i64 b] w fun e w' => e = .returned (.tuple #[.int .i64 (if sa != sb then a.tdiv b - 1 else a.tdiv b), .bool true]) ∧ w = w' := by
  have hb0 : (b == 0) = false := beq_eq_false_iff_ne.2 h0
  cases ham <;> cases hbm <;> cases sa <;> cases sb <;> try (exact absurd hh (by decide))
  all_goals
    clear hh
    go_enter Try.func19, Try.ntmps19
    go_wp2
    go_ret2
    exact ⟨rfl, rfl⟩
theorem rdiv_any (a b : Int) (ha : -9223372036854775808 ≤ a ∧ a ≤ 9223372036854775807) (hb : -9223372036854775808 ≤ b ∧ b ≤ 9223372036854775807) (w : World) :
    Calls Try.prog 19 #[.int .i64 a, .int .i64 b] w fun e w' => e = .returned (.tuple #[.int .i64 (divV a b), .bool (divB a b)]) ∧ w = w' := by
  by_cases h0 : b = 0
  · subst h0
    exact rdiv_no0 a w
  · by_cases hm : a = -9223372036854775808 ∧ b = -1
    · obtain ⟨rfl, rfl⟩ := hm
      exact rdiv_nomin w
    · have q := fit_yes _ (Math.fdiv_bd a b ha h0 hm)
      rw [show divV a b = a.fdiv b from by unfold divV; rw [if_neg h0, q.1], show divB a b = true from by unfold divB; rw [if_neg h0, q.2]]
      have hh : ((a == -9223372036854775808) && (b == -1)) = false := by
        rw [Bool.and_eq_false_iff, beq_eq_false_iff_ne, beq_eq_false_iff_ne]
        by_cases h : a = -9223372036854775808
        · exact Or.inr (fun h' => hm ⟨h, h'⟩)
        · exact Or.inl h
      have rb := rest_bd a b ha
      by_cases hr : a.tmod b = 0
      · have HR : (a.tdiv b * b != a) = false := by rw [rest_ne]; simp [hr]
        have tb := Math.tdiv_bd a b ha h0 hm
        rw [show a.fdiv b = a.tdiv b from by rw [Math.fdiv_of a b h0, if_neg (fun h => h.1 hr)]]
        exact rdiv_go a b _ _ rfl rfl hh h0 tb.1 tb.2 rb.1 rb.2 HR w
      · have HR : (a.tdiv b * b != a) = true := by rw [rest_ne]; simp [hr]
        have th := Math.tdiv_half a b ha h0 hr
        rw [show a.fdiv b = (if decide (a < 0) != decide (b < 0) then a.tdiv b - 1 else a.tdiv b) from by
          rw [Math.fdiv_of a b h0]
          by_cases h1 : a < 0 <;> by_cases h2 : b < 0 <;> simp [h1, h2, hr]]
        exact rdiv_gos a b _ _ _ _ rfl rfl hh h0 th.1 th.2 rb.1 rb.2 HR rfl rfl w

theorem rup_no0 (a : Int) (w : World) :
    Calls Try.prog 21 #[.int .i64 a, .int .i64 0] w fun e w' => e = .returned (.tuple #[.int .i64 0, .bool false]) ∧ w = w' := by
  go_enter Try.func21, Try.ntmps21
  go_wp2
  go_ret2
  exact ⟨rfl, rfl⟩
theorem rup_nomin (w : World) :
    Calls Try.prog 21 #[.int .i64 (-9223372036854775808), .int .i64 (-1)] w fun e w' => e = .returned (.tuple #[.int .i64 0, .bool false]) ∧ w = w' := by
  go_enter Try.func21, Try.ntmps21
  go_wp2
  go_ret2
  exact ⟨rfl, rfl⟩
theorem rup_go (a b : Int) (ham hbm : Bool) (HA : (a == -9223372036854775808) = ham) (HB : (b == -1) = hbm) (hh : (ham && hbm) = false)
    (h0 : b ≠ 0) (t1 : -9223372036854775808 ≤ a.tdiv b) (t2 : a.tdiv b ≤ 9223372036854775807) (r1 : -9223372036854775808 ≤ a.tdiv b * b) (r2 : a.tdiv b * b ≤ 9223372036854775807)
    (HR : (a.tdiv b * b != a) = false) (w : World) :
    Calls Try.prog 21 #[.int .i64 a, .int .i64 b] w fun e w' => e = .returned (.tuple #[.int .i64 (a.tdiv b), .bool true]) ∧ w = w' := by
  have hb0 : (b == 0) = false := beq_eq_false_iff_ne.2 h0
  cases ham <;> cases hbm <;> try (exact absurd hh (by decide))
  all_goals
    clear hh
    go_enter Try.func21, Try.ntmps21
    go_wp2
    go_ret2
    exact ⟨rfl, rfl⟩
theorem rup_gos (a b : Int) (ham hbm sa sb : Bool) (HA : (a == -9223372036854775808) = ham) (HB : (b == -1) = hbm) (hh : (ham && hbm) = false)
    (h0 : b ≠ 0) (t1 : -4611686018427387904 ≤ a.tdiv b) (t2 : a.tdiv b ≤ 4611686018427387904) (r1 : -9223372036854775808 ≤ a.tdiv b * b) (r2 : a.tdiv b * b ≤ 9223372036854775807)
    (HR : (a.tdiv b * b != a) = true) (HSA : decide (a < 0) = sa) (HSB : decide (b < 0) = sb) (w : World) :
    Calls Try.prog 21 #[.int .i64 a, .int .i64 b] w fun e w' => e = .returned (.tuple #[.int .i64 (if sa == sb then a.tdiv b + 1 else a.tdiv b), .bool true]) ∧ w = w' := by
  have hb0 : (b == 0) = false := beq_eq_false_iff_ne.2 h0
  cases ham <;> cases hbm <;> cases sa <;> cases sb <;> try (exact absurd hh (by decide))
  all_goals
    clear hh
    go_enter Try.func21, Try.ntmps21
    go_wp2
    go_ret2
    exact ⟨rfl, rfl⟩
theorem rup_any (a b : Int) (ha : -9223372036854775808 ≤ a ∧ a ≤ 9223372036854775807) (hb : -9223372036854775808 ≤ b ∧ b ≤ 9223372036854775807) (w : World) :
    Calls Try.prog 21 #[.int .i64 a, .int .i64 b] w fun e w' => e = .returned (.tuple #[.int .i64 (upV a b), .bool (upB a b)]) ∧ w = w' := by
  by_cases h0 : b = 0
  · subst h0
    exact rup_no0 a w
  · by_cases hm : a = -9223372036854775808 ∧ b = -1
    · obtain ⟨rfl, rfl⟩ := hm
      exact rup_nomin w
    · have q := fit_yes _ (Math.cdiv_bd a b ha h0 hm)
      rw [show upV a b = Math.cdiv a b from by unfold upV; rw [if_neg h0, q.1], show upB a b = true from by unfold upB; rw [if_neg h0, q.2]]
      have hh : ((a == -9223372036854775808) && (b == -1)) = false := by
        rw [Bool.and_eq_false_iff, beq_eq_false_iff_ne, beq_eq_false_iff_ne]
        by_cases h : a = -9223372036854775808
        · exact Or.inr (fun h' => hm ⟨h, h'⟩)
        · exact Or.inl h
      have rb := rest_bd a b ha
      by_cases hr : a.tmod b = 0
      · have HR : (a.tdiv b * b != a) = false := by rw [rest_ne]; simp [hr]
        have tb := Math.tdiv_bd a b ha h0 hm
        rw [show Math.cdiv a b = a.tdiv b from by rw [Math.cdiv_of a b h0, if_neg (fun h => h.1 hr)]]
        exact rup_go a b _ _ rfl rfl hh h0 tb.1 tb.2 rb.1 rb.2 HR w
      · have HR : (a.tdiv b * b != a) = true := by rw [rest_ne]; simp [hr]
        have th := Math.tdiv_half a b ha h0 hr
        rw [show Math.cdiv a b = (if decide (a < 0) == decide (b < 0) then a.tdiv b + 1 else a.tdiv b) from by
          rw [Math.cdiv_of a b h0]
          by_cases h1 : a < 0 <;> by_cases h2 : b < 0 <;> simp [h1, h2, hr]]
        exact rup_gos a b _ _ _ _ rfl rfl hh h0 th.1 th.2 rb.1 rb.2 HR rfl rfl w

end Go.Proofs.Ytjdllkmnhckpaaa.Span
