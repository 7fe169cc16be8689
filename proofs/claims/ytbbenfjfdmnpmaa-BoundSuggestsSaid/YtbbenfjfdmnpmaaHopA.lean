/- Contracts of package hops (layer 19) and of the document's own answers for it: numbers of links and delays; the chapter's example. -/
import Derived.Test.YtbbenfjfdmnpmaaHopN
import Derived.Test.YtbbenfjfdmnpmaaSpanA
namespace Go.Proofs.Ytbbenfjfdmnpmaa.Hop
open Go.ChangeShapes Go.WideShapes Go.ChangeAt Go.RowKit
set_option linter.unusedVariables false
theorem ret_b {a b : Bool} (h : a = b) : Ending.returned (.bool a) = .returned (.bool b) := by rw [h]
theorem hgood_any (h a b : Int) (w : World) :
    Calls Try.prog 39 #[.int .i64 h, .int .i64 a, .int .i64 b] w fun e w' => e = .returned (.bool (gdB h a b)) ∧ w = w' := by
  go_enter Try.func39, Try.ntmps39
  go_wp2
  all_goals
    go_ret
    exact ⟨ret_b (by unfold gdB; rw [Bool.eq_iff_iff]; simp only [decide_eq_true_iff, Bool.false_eq_true, false_iff]; omega), rfl⟩
theorem rgoodH_any (h a b : Int) (w : World) :
    Calls Try.prog 44 #[.int .i64 h, .int .i64 a, .int .i64 b] w fun e w' => e = .returned (.bool (gdB h a b)) ∧ w = w' := by
  go_enter Try.func44, Try.ntmps44
  go_wp2
  all_goals
    go_ret
    exact ⟨ret_b (by unfold gdB; rw [Bool.eq_iff_iff]; simp only [decide_eq_true_iff, Bool.false_eq_true, false_iff]; omega), rfl⟩
theorem spanH_any (h a b : Int) (w : World) :
    Calls Try.prog 42 #[.int .i64 h, .int .i64 a, .int .i64 b] w fun e w' => e = .returned (.tuple #[.int .i64 (loV h a b), .int .i64 (hiV h a b), .bool (gdB h a b)]) ∧ w = w' := by
  have CG := Lib.hid (fun W => hgood_any h a b W)
  unfold loV hiV
  cases hg : gdB h a b with
  | true =>
    obtain ⟨h0, h1, a0, ab, b1⟩ := gd_yes hg
    obtain ⟨p0, p1⟩ := mul_bd h0 h1 a0 (by omega)
    obtain ⟨q0, q1⟩ := mul_bd h0 h1 (show 0 ≤ b by omega) b1
    rw [hg] at CG
    clear hg
    rw [if_pos rfl, if_pos rfl]
    go_enter Try.func42, Try.ntmps42
    go_wp2_with fail
    refine (CG.out _).mono ?_; rintro e w' ⟨rfl, rfl⟩
    go_wp2_with fail
    go_ret3
    exact ⟨rfl, rfl⟩
  | false =>
    rw [hg] at CG
    clear hg
    rw [if_neg (by simp), if_neg (by simp)]
    go_enter Try.func42, Try.ntmps42
    go_wp2_with fail
    refine (CG.out _).mono ?_; rintro e w' ⟨rfl, rfl⟩
    go_wp2_with fail
    go_ret3
    exact ⟨rfl, rfl⟩
theorem errH_any (h a b r : Int) (w : World) :
    Calls Try.prog 22 #[.int .i64 h, .int .i64 a, .int .i64 b, .int .i64 r] w fun e w' => e = .returned (.tuple #[.int .i64 (errV h a b r), .bool (erB h a b r)]) ∧ w = w' := by
  have CS := Lib.hid (fun W => spanH_any h a b W)
  unfold loV hiV at CS
  unfold errV erB
  cases hg : gdB h a b with
  | true =>
    obtain ⟨h0, h1, a0, ab, b1⟩ := gd_yes hg
    obtain ⟨p0, p1⟩ := mul_bd h0 h1 a0 (by omega)
    obtain ⟨q0, q1⟩ := mul_bd h0 h1 (show 0 ≤ b by omega) b1
    have pq : h * a ≤ h * b := Int.mul_le_mul_of_nonneg_left ab h0
    rw [hg, if_pos rfl, if_pos rfl] at CS
    clear hg
    rw [← err_num, Bool.true_and]
    generalize h * a = x at *
    generalize h * b = y at *
    clear a0 ab b1 h0 h1
    by_cases h1 : r < 0
    · have e1 : decide (0 ≤ r ∧ r ≤ 64) = false := decide_eq_false (by omega)
      rw [e1, if_neg (by simp)]
      clear e1
      go_enter Try.func22, Try.ntmps22
      go_wp2_with fail
      refine (CS.out _).mono ?_; rintro e w' ⟨rfl, rfl⟩
      go_wp2_with fail
      go_ret2
      exact ⟨rfl, rfl⟩
    · by_cases h2 : 64 < r
      · have e1 : decide (0 ≤ r ∧ r ≤ 64) = false := decide_eq_false (by omega)
        rw [e1, if_neg (by simp)]
        clear e1
        go_enter Try.func22, Try.ntmps22
        go_wp2_with fail
        refine (CS.out _).mono ?_; rintro e w' ⟨rfl, rfl⟩
        go_wp2_with fail
        go_ret2
        exact ⟨rfl, rfl⟩
      · have e1 : decide (0 ≤ r ∧ r ≤ 64) = true := decide_eq_true (by omega)
        obtain ⟨m0, m1⟩ := mul_bd2 (show 0 ≤ r by omega) (show r ≤ 64 by omega) q0 q1
        rw [e1, if_pos rfl]
        clear e1
        go_enter Try.func22, Try.ntmps22
        go_wp2_with fail
        refine (CS.out _).mono ?_; rintro e w' ⟨rfl, rfl⟩
        go_wp2_with fail
        go_ret2
        exact ⟨rfl, rfl⟩
  | false =>
    rw [hg, if_neg (by simp), if_neg (by simp)] at CS
    clear hg
    rw [Bool.false_and, if_neg (by simp)]
    go_enter Try.func22, Try.ntmps22
    go_wp2_with fail
    refine (CS.out _).mono ?_; rintro e w' ⟨rfl, rfl⟩
    go_wp2_with fail
    go_ret2
    exact ⟨rfl, rfl⟩
theorem rerrH_any (h a b r : Int) (he : erB h a b r = true) (w : World) :
    Calls Try.prog 32 #[.int .i64 h, .int .i64 a, .int .i64 b, .int .i64 r] w fun e w' => e = .returned (.int .i64 (errV h a b r)) ∧ w = w' := by
  unfold errV
  rw [if_pos he]
  unfold erB at he
  rw [Bool.and_eq_true, decide_eq_true_iff] at he
  obtain ⟨hg, r0, r1⟩ := he
  obtain ⟨h0, h1, a0, ab, b1⟩ := gd_yes hg
  obtain ⟨m0, m1⟩ := mul_bd2 r0 r1 (show 0 ≤ b by omega) (show b ≤ 4032 by omega)
  obtain ⟨p0, p1⟩ : 0 ≤ h * ((b - a) * 512 + r * b) ∧ h * ((b - a) * 512 + r * b) ≤ 63 * 300000 :=
    ⟨Int.mul_nonneg h0 (by omega), Int.mul_le_mul h1 (by omega) (by omega) (by omega)⟩
  clear hg
  go_enter Try.func32, Try.ntmps32
  go_wp2_with fail
  go_ret
  exact ⟨rfl, rfl⟩
end Go.Proofs.Ytbbenfjfdmnpmaa.Hop
