/- Contracts of package rate (layer 20) and of the document's own answers for it: how fast and how slow clocks go; the chapter's example. -/
import Derived.Test.YtbbenfjfdmnpmaaSpanA
namespace Go.Proofs.Ytbbenfjfdmnpmaa.Rat
open Go.ChangeShapes Go.WideShapes Go.ChangeAt Go.RowKit
set_option linter.unusedVariables false
theorem rret_b {a b : Bool} (h : a = b) : Ending.returned (.bool a) = .returned (.bool b) := by rw [h]
/-- Whether a drift and a slewing may be. -/
def gdR (r s : Int) : Bool := decide (0 ≤ r ∧ r ≤ 64 ∧ 1 ≤ s ∧ s ≤ 256)
theorem gdR_yes {r s : Int} (g : gdR r s = true) : 0 ≤ r ∧ r ≤ 64 ∧ 1 ≤ s ∧ s ≤ 256 := of_decide_eq_true g
def fastV (r s : Int) : Int := if gdR r s = true then 1024 + r + s else 0
def slowV (r s : Int) : Int := if gdR r s = true then 1024 - r - s else 0
def ticksV (g s : Int) : Int := if g < 0 ∨ s < 1 then 0 else (min g 1152921504606846976) / s + 2
def incV (d : Int) : Int := Span.clampV d (-1024) 1047552 + 1024
theorem inc_bd (d : Int) : 0 ≤ incV d ∧ incV d ≤ 1048576 := by
  unfold incV Span.clampV; split <;> (try split) <;> omega
theorem ticks_in {g s : Int} (h0 : 0 ≤ g) (h1 : 1 ≤ s) : ticksV g s = (min g 1152921504606846976) / s + 2 := if_neg (by omega)
theorem quo_bd {g s : Int} (h0 : 0 ≤ g) (h1 : 1 ≤ s) : 0 ≤ (min g 1152921504606846976) / s ∧ (min g 1152921504606846976) / s ≤ 1152921504606846976 :=
  ⟨Int.ediv_nonneg (by omega) (by omega), Int.le_trans (Int.ediv_le_self _ (by omega)) (by omega)⟩
def fairB (d r : Int) : Bool := decide (0 ≤ r ∧ -r ≤ d ∧ d ≤ r)
theorem rtgood_any (r s : Int) (w : World) :
    Calls Try.prog 40 #[.int .i64 r, .int .i64 s] w fun e w' => e = .returned (.bool (gdR r s)) ∧ w = w' := by
  go_enter Try.func40, Try.ntmps40
  go_wp2
  all_goals
    go_ret
    exact ⟨rret_b (by unfold gdR; rw [Bool.eq_iff_iff]; simp only [decide_eq_true_iff, Bool.false_eq_true, false_iff]; omega), rfl⟩
theorem rrtgood_any (r s : Int) (w : World) :
    Calls Try.prog 27 #[.int .i64 r, .int .i64 s] w fun e w' => e = .returned (.bool (gdR r s)) ∧ w = w' := by
  go_enter Try.func27, Try.ntmps27
  go_wp2
  all_goals
    go_ret
    exact ⟨rret_b (by unfold gdR; rw [Bool.eq_iff_iff]; simp only [decide_eq_true_iff, Bool.false_eq_true, false_iff]; omega), rfl⟩
theorem rtfast_any (r s : Int) (w : World) :
    Calls Try.prog 20 #[.int .i64 r, .int .i64 s] w fun e w' => e = .returned (.int .i64 (fastV r s)) ∧ w = w' := by
  have CG := Lib.hid (fun W => rtgood_any r s W)
  unfold fastV
  cases hg : gdR r s with
  | true =>
    obtain ⟨r0, r1, s0, s1⟩ := gdR_yes hg
    rw [hg] at CG
    clear hg
    rw [if_pos rfl]
    go_enter Try.func20, Try.ntmps20
    go_wp2_with fail
    refine (CG.out _).mono ?_; rintro e w' ⟨rfl, rfl⟩
    go_wp2_with fail
    go_ret
    exact ⟨rfl, rfl⟩
  | false =>
    rw [hg] at CG
    clear hg
    rw [if_neg (by simp)]
    go_enter Try.func20, Try.ntmps20
    go_wp2_with fail
    refine (CG.out _).mono ?_; rintro e w' ⟨rfl, rfl⟩
    go_wp2_with fail
    go_ret
    exact ⟨rfl, rfl⟩
theorem rtslow_any (r s : Int) (w : World) :
    Calls Try.prog 21 #[.int .i64 r, .int .i64 s] w fun e w' => e = .returned (.int .i64 (slowV r s)) ∧ w = w' := by
  have CG := Lib.hid (fun W => rtgood_any r s W)
  unfold slowV
  cases hg : gdR r s with
  | true =>
    obtain ⟨r0, r1, s0, s1⟩ := gdR_yes hg
    rw [hg] at CG
    clear hg
    rw [if_pos rfl]
    go_enter Try.func21, Try.ntmps21
    go_wp2_with fail
    refine (CG.out _).mono ?_; rintro e w' ⟨rfl, rfl⟩
    go_wp2_with fail
    go_ret
    exact ⟨rfl, rfl⟩
  | false =>
    rw [hg] at CG
    clear hg
    rw [if_neg (by simp)]
    go_enter Try.func21, Try.ntmps21
    go_wp2_with fail
    refine (CG.out _).mono ?_; rintro e w' ⟨rfl, rfl⟩
    go_wp2_with fail
    go_ret
    exact ⟨rfl, rfl⟩
theorem rrtfast_any (r s : Int) (w : World) :
    Calls Try.prog 29 #[.int .i64 r, .int .i64 s] w fun e w' => e = .returned (.int .i64 (fastV r s)) ∧ w = w' := by
  have CG := Lib.hid (fun W => rrtgood_any r s W)
  unfold fastV
  cases hg : gdR r s with
  | true =>
    obtain ⟨r0, r1, s0, s1⟩ := gdR_yes hg
    rw [hg] at CG
    clear hg
    rw [if_pos rfl]
    go_enter Try.func29, Try.ntmps29
    go_wp2_with fail
    refine (CG.out _).mono ?_; rintro e w' ⟨rfl, rfl⟩
    go_wp2_with fail
    go_ret
    exact ⟨rfl, rfl⟩
  | false =>
    rw [hg] at CG
    clear hg
    rw [if_neg (by simp)]
    go_enter Try.func29, Try.ntmps29
    go_wp2_with fail
    refine (CG.out _).mono ?_; rintro e w' ⟨rfl, rfl⟩
    go_wp2_with fail
    go_ret
    exact ⟨rfl, rfl⟩
theorem rrtslow_any (r s : Int) (w : World) :
    Calls Try.prog 30 #[.int .i64 r, .int .i64 s] w fun e w' => e = .returned (.int .i64 (slowV r s)) ∧ w = w' := by
  have CG := Lib.hid (fun W => rrtgood_any r s W)
  unfold slowV
  cases hg : gdR r s with
  | true =>
    obtain ⟨r0, r1, s0, s1⟩ := gdR_yes hg
    rw [hg] at CG
    clear hg
    rw [if_pos rfl]
    go_enter Try.func30, Try.ntmps30
    go_wp2_with fail
    refine (CG.out _).mono ?_; rintro e w' ⟨rfl, rfl⟩
    go_wp2_with fail
    go_ret
    exact ⟨rfl, rfl⟩
  | false =>
    rw [hg] at CG
    clear hg
    rw [if_neg (by simp)]
    go_enter Try.func30, Try.ntmps30
    go_wp2_with fail
    refine (CG.out _).mono ?_; rintro e w' ⟨rfl, rfl⟩
    go_wp2_with fail
    go_ret
    exact ⟨rfl, rfl⟩
theorem rtticks_any (g s : Int) (hg : -9223372036854775808 ≤ g ∧ g ≤ 9223372036854775807) (hs : -9223372036854775808 ≤ s ∧ s ≤ 9223372036854775807) (w : World) :
    Calls Try.prog 43 #[.int .i64 g, .int .i64 s] w fun e w' => e = .returned (.int .i64 (ticksV g s)) ∧ w = w' := by
  obtain ⟨g0, g1⟩ := hg
  obtain ⟨s0, s1⟩ := hs
  by_cases h1 : g < 0
  · have hv : ticksV g s = 0 := if_pos (.inl h1)
    rw [hv]
    clear hv
    go_enter Try.func43, Try.ntmps43
    go_wp2_with fail
    go_ret
    exact ⟨rfl, rfl⟩
  · by_cases h2 : s < 1
    · have hv : ticksV g s = 0 := if_pos (.inr h2)
      rw [hv]
      clear hv
      go_enter Try.func43, Try.ntmps43
      go_wp2_with fail
      go_ret
      exact ⟨rfl, rfl⟩
    · have hv := ticks_in (show 0 ≤ g by omega) (show 1 ≤ s by omega)
      obtain ⟨q0, q1⟩ := quo_bd (show 0 ≤ g by omega) (show 1 ≤ s by omega)
      have e1 : decide (g < 0) = false := decide_eq_false h1
      have e2 : decide (s < 1) = false := decide_eq_false h2
      have hne : s ≠ 0 := by omega
      have hg : 0 ≤ g := by omega
      have hs : 1 ≤ s := by omega
      have hw := Lib.hid hv
      by_cases h3 : 1152921504606846976 < g
      · rw [show min g 1152921504606846976 = 1152921504606846976 by omega] at *
        rw [hv]
        clear hv h1 h2
        go_enter Try.func43, Try.ntmps43
        go_wp2_with fail
        go_ret
        exact ⟨rfl, rfl⟩
      · rw [show min g 1152921504606846976 = g by omega] at *
        rw [hv]
        clear hv h1 h2
        go_enter Try.func43, Try.ntmps43
        go_wp2_with fail
        go_ret
        exact ⟨rfl, rfl⟩
theorem rrtticks_any (g s : Int) (hg : -9223372036854775808 ≤ g ∧ g ≤ 9223372036854775807) (hs : -9223372036854775808 ≤ s ∧ s ≤ 9223372036854775807) (w : World) :
    Calls Try.prog 31 #[.int .i64 g, .int .i64 s] w fun e w' => e = .returned (.int .i64 (ticksV g s)) ∧ w = w' := by
  obtain ⟨g0, g1⟩ := hg
  obtain ⟨s0, s1⟩ := hs
  by_cases h1 : g < 0
  · have hv : ticksV g s = 0 := if_pos (.inl h1)
    rw [hv]
    clear hv
    go_enter Try.func31, Try.ntmps31
    go_wp2_with fail
    go_ret
    exact ⟨rfl, rfl⟩
  · by_cases h2 : s < 1
    · have hv : ticksV g s = 0 := if_pos (.inr h2)
      rw [hv]
      clear hv
      go_enter Try.func31, Try.ntmps31
      go_wp2_with fail
      go_ret
      exact ⟨rfl, rfl⟩
    · have hv := ticks_in (show 0 ≤ g by omega) (show 1 ≤ s by omega)
      obtain ⟨q0, q1⟩ := quo_bd (show 0 ≤ g by omega) (show 1 ≤ s by omega)
      have e1 : decide (g < 0) = false := decide_eq_false h1
      have e2 : decide (s < 1) = false := decide_eq_false h2
      have hne : s ≠ 0 := by omega
      have hg : 0 ≤ g := by omega
      have hs : 1 ≤ s := by omega
      have hw := Lib.hid hv
      by_cases h3 : 1152921504606846976 < g
      · rw [show min g 1152921504606846976 = 1152921504606846976 by omega] at *
        rw [hv]
        clear hv h1 h2
        go_enter Try.func31, Try.ntmps31
        go_wp2_with fail
        go_ret
        exact ⟨rfl, rfl⟩
      · rw [show min g 1152921504606846976 = g by omega] at *
        rw [hv]
        clear hv h1 h2
        go_enter Try.func31, Try.ntmps31
        go_wp2_with fail
        go_ret
        exact ⟨rfl, rfl⟩
end Go.Proofs.Ytbbenfjfdmnpmaa.Rat
