/- Contracts of package rate (layer 20) and of the document's own answers for it: how fast and how slow clocks go; the chapter's example. -/
import Derived.Test.YtfkhennfnlfcdaaSpanA
namespace Go.Proofs.Ytfkhennfnlfcdaa.Rat
open Go.ChangeShapes Go.WideShapes Go.ChangeAt Go.RowKit
set_option linter.unusedVariables false
theorem rret_b {a b : Bool} (h : a = b) : Ending.returned (.bool a) = .returned (.bool b) := by rw [h]
/-- Whether a drift and a slewing may be. -/
def gdR (r s : Int) : Bool := decide (0 ≤ r ∧ r ≤ 64 ∧ 1 ≤ s ∧ s ≤ 256)
theorem gdR_yes {r s : Int} (g : gdR r s = true) : 0 ≤ r ∧ r ≤ 64 ∧ 1 ≤ s ∧ s ≤ 256 := of_decide_eq_true g
def fastV (r s : Int) : Int := if gdR r s = true then 1024 + r + s else 0
def slowV (r s : Int) : Int := if gdR r s = true then 1024 - r - s else 0
def ticksV (g s : Int) : Int := if g < 0 ∨ s < 1 then 0 else (min g 1152921504606846976) / s + 2
def incV (d : Int) : Int := Span.clampV d (-1024) 1047552 + 1024
theorem inc_bd (d : Int) : 0 ≤ incV d ∧ incV d ≤ 1048576 := by
  unfold incV Span.clampV; split <;> (try split) <;> omega
theorem ticks_in {g s : Int} (h0 : 0 ≤ g) (h1 : 1 ≤ s) : ticksV g s = (min g 1152921504606846976) / s + 2 := if_neg (by omega)
theorem quo_bd {g s : Int} (h0 : 0 ≤ g) (h1 : 1 ≤ s) : 0 ≤ (min g 1152921504606846976) / s ∧ (min g 1152921504606846976) / s ≤ 1152921504606846976 :=
  ⟨Int.ediv_nonneg (by omega) (by omega), Int.le_trans (Int.ediv_le_self _ (by omega)) (by omega)⟩
def fairB (d r : Int) : Bool := decide (0 ≤ r ∧ -r ≤ d ∧ d ≤ r)
theorem rtgood_any (r s : Int) (w : World) :
    Calls Try.prog 10 #[.int .i64 r, .int .i64 s] w fun e w' => e = .returned (.bool (gdR r s)) ∧ w = w' := by
  go_enter Try.func10, Try.ntmps10
  go_wp2
  all_goals
    go_ret
    exact ⟨rret_b (by unfold gdR; rw [Bool.eq_iff_iff]; simp only [decide_eq_true_iff, Bool.false_eq_true, false_iff]; omega), rfl⟩
theorem rrtgood_any (r s : Int) (w : World) :
    Calls Try.prog 11 #[.int .i64 r, .int .i64 s] w fun e w' => e = .returned (.bool (gdR r s)) ∧ w = w' := by
  go_enter Try.func11, Try.ntmps11
  go_wp2
  all_goals
    go_ret
    exact ⟨rret_b (by unfold gdR; rw [Bool.eq_iff_iff]; simp only [decide_eq_true_iff, Bool.false_eq_true, false_iff]; omega), rfl⟩
theorem rtfast_any (r s : Int) (w : World) :
    Calls Try.prog 12 #[.int .i64 r, .int .i64 s] w fun e w' => e = .returned (.int .i64 (fastV r s)) ∧ w = w' := by
  have CG := Lib.hid (fun W => rtgood_any r s W)
  unfold fastV
  cases hg : gdR r s with
  | true =>
    obtain ⟨r0, r1, s0, s1⟩ := gdR_yes hg
    rw [hg] at CG
    clear hg
    rw [if_pos rfl]
    go_enter Try.func12, Try.ntmps12
    go_wp2_with fail
    refine (CG.out _).mono ?_; rintro e w' ⟨rfl, rfl⟩
    go_wp2_with fail
    go_ret
    exact ⟨rfl, rfl⟩
  | false =>
    rw [hg] at CG
    clear hg
    rw [if_neg (by simp)]
    go_enter Try.func12, Try.ntmps12
    go_wp2_with fail
    refine (CG.out _).mono ?_; rintro e w' ⟨rfl, rfl⟩
    go_wp2_with fail
    go_ret
    exact ⟨rfl, rfl⟩
theorem rtslow_any (r s : Int) (w : World) :
    Calls Try.prog 14 #[.int .i64 r, .int .i64 s] w fun e w' => e = .returned (.int .i64 (slowV r s)) ∧ w = w' := by
  have CG := Lib.hid (fun W => rtgood_any r s W)
  unfold slowV
  cases hg : gdR r s with
  | true =>
    obtain ⟨r0, r1, s0, s1⟩ := gdR_yes hg
    rw [hg] at CG
    clear hg
    rw [if_pos rfl]
    go_enter Try.func14, Try.ntmps14
    go_wp2_with fail
    refine (CG.out _).mono ?_; rintro e w' ⟨rfl, rfl⟩
    go_wp2_with fail
    go_ret
    exact ⟨rfl, rfl⟩
  | false =>
    rw [hg] at CG
    clear hg
    rw [if_neg (by simp)]
    go_enter Try.func14, Try.ntmps14
    go_wp2_with fail
    refine (CG.out _).mono ?_; rintro e w' ⟨rfl, rfl⟩
    go_wp2_with fail
    go_ret
    exact ⟨rfl, rfl⟩
theorem rrtfast_any (r s : Int) (w : World) :
    Calls Try.prog 13 #[.int .i64 r, .int .i64 s] w fun e w' => e = .returned (.int .i64 (fastV r s)) ∧ w = w' := by
  have CG := Lib.hid (fun W => rrtgood_any r s W)
  unfold fastV
  cases hg : gdR r s with
  | true =>
    obtain ⟨r0, r1, s0, s1⟩ := gdR_yes hg
    rw [hg] at CG
    clear hg
    rw [if_pos rfl]
    go_enter Try.func13, Try.ntmps13
    go_wp2_with fail
    refine (CG.out _).mono ?_; rintro e w' ⟨rfl, rfl⟩
    go_wp2_with fail
    go_ret
    exact ⟨rfl, rfl⟩
  | false =>
    rw [hg] at CG
    clear hg
    rw [if_neg (by simp)]
    go_enter Try.func13, Try.ntmps13
    go_wp2_with fail
    refine (CG.out _).mono ?_; rintro e w' ⟨rfl, rfl⟩
    go_wp2_with fail
    go_ret
    exact ⟨rfl, rfl⟩
theorem rrtslow_any (r s : Int) (w : World) :
    Calls Try.prog 15 #[.int .i64 r, .int .i64 s] w fun e w' => e = .returned (.int .i64 (slowV r s)) ∧ w = w' := by
  have CG := Lib.hid (fun W => rrtgood_any r s W)
  unfold slowV
  cases hg : gdR r s with
  | true =>
    obtain ⟨r0, r1, s0, s1⟩ := gdR_yes hg
    rw [hg] at CG
    clear hg
    rw [if_pos rfl]
    go_enter Try.func15, Try.ntmps15
    go_wp2_with fail
    refine (CG.out _).mono ?_; rintro e w' ⟨rfl, rfl⟩
    go_wp2_with fail
    go_ret
    exact ⟨rfl, rfl⟩
  | false =>
    rw [hg] at CG
    clear hg
    rw [if_neg (by simp)]
    go_enter Try.func15, Try.ntmps15
    go_wp2_with fail
    refine (CG.out _).mono ?_; rintro e w' ⟨rfl, rfl⟩
    go_wp2_with fail
    go_ret
    exact ⟨rfl, rfl⟩
theorem rtinc_any (d : Int) (w : World) :
    Calls Try.prog 19 #[.int .i64 d] w fun e w' => e = .returned (.int .i64 (incV d)) ∧ w = w' := by
  have CC := Lib.hid (fun W => Span.clamp_any d (-1024) 1047552 W)
  obtain ⟨h0, h1⟩ := inc_bd d
  unfold incV at *
  generalize Span.clampV d (-1024) 1047552 = c at *
  go_enter Try.func19, Try.ntmps19
  go_wp2_with fail
  refine (CC.out _).mono ?_; rintro e w' ⟨rfl, rfl⟩
  go_wp2_with fail
  go_ret
  exact ⟨rfl, rfl⟩
theorem rrtinc_any (d : Int) (w : World) :
    Calls Try.prog 20 #[.int .i64 d] w fun e w' => e = .returned (.int .i64 (incV d)) ∧ w = w' := by
  have CC := Lib.hid (fun W => Span.rclamp_any d (-1024) 1047552 W)
  obtain ⟨h0, h1⟩ := inc_bd d
  unfold incV at *
  generalize Span.clampV d (-1024) 1047552 = c at *
  go_enter Try.func20, Try.ntmps20
  go_wp2_with fail
  refine (CC.out _).mono ?_; rintro e w' ⟨rfl, rfl⟩
  go_wp2_with fail
  go_ret
  exact ⟨rfl, rfl⟩
theorem rtticks_any (g s : Int) (hg : -9223372036854775808 ≤ g ∧ g ≤ 9223372036854775807) (hs : -9223372036854775808 ≤ s ∧ s ≤ 9223372036854775807) (w : World) :
    Calls Try.prog 17 #[.int .i64 g, .int .i64 s] w fun e w' => e = .returned (.int .i64 (ticksV g s)) ∧ w = w' := by
  obtain ⟨g0, g1⟩ := hg
  obtain ⟨s0, s1⟩ := hs
  by_cases h1 : g < 0
  · have hv : ticksV g s = 0 := if_pos (.inl h1)
    rw [hv]
    clear hv
    go_enter Try.func17, Try.ntmps17
    go_wp2_with fail
    go_ret
    exact ⟨rfl, rfl⟩
  · by_cases h2 : s < 1
    · have hv : ticksV g s = 0 := if_pos (.inr h2)
      rw [hv]
      clear hv
      go_enter Try.func17, Try.ntmps17
      go_wp2_with fail
      go_ret
      exact ⟨rfl, rfl⟩
    · have hv := ticks_in (show 0 ≤ g by omega) (show 1 ≤ s by omega)
      obtain ⟨q0, q1⟩ := quo_bd (show 0 ≤ g by omega) (show 1 ≤ s by omega)
      have e1 : decide (g < 0) = false := decide_eq_false h1
      have e2 : decide (s < 1) = false := decide_eq_false h2
      have hne : s ≠ 0 := by omega
      have hg : 0 ≤ g := by omega
      have hs : 1 ≤ s := by omega
      have hw := Lib.hid hv
      by_cases h3 : 1152921504606846976 < g
      · rw [show min g 1152921504606846976 = 1152921504606846976 by omega] at *
        rw [hv]
        clear hv h1 h2
        go_enter Try.func17, Try.ntmps17
        go_wp2_with fail
        go_ret
        exact ⟨rfl, rfl⟩
      · rw [show min g 1152921504606846976 = g by omega] at *
        rw [hv]
        clear hv h1 h2
        go_enter Try.func17, Try.ntmps17
        go_wp2_with fail
        go_ret
        exact ⟨rfl, rfl⟩
theorem rrtticks_any (g s : Int) (hg : -9223372036854775808 ≤ g ∧ g ≤ 9223372036854775807) (hs : -9223372036854775808 ≤ s ∧ s ≤ 9223372036854775807) (w : World) :
    Calls Try.prog 18 #[.int .i64 g, .int .i64 s] w fun e w' => e = .returned (.int .i64 (ticksV g s)) ∧ w = w' := by
  obtain ⟨g0, g1⟩ := hg
  obtain ⟨s0, s1⟩ := hs
  by_cases h1 : g < 0
  · have hv : ticksV g s = 0 := if_pos (.inl h1)
    rw [hv]
    clear hv
    go_enter Try.func18, Try.ntmps18
    go_wp2_with fail
    go_ret
    exact ⟨rfl, rfl⟩
  · by_cases h2 : s < 1
    · have hv : ticksV g s = 0 := if_pos (.inr h2)
      rw [hv]
      clear hv
      go_enter Try.func18, Try.ntmps18
      go_wp2_with fail
      go_ret
      exact ⟨rfl, rfl⟩
    · have hv := ticks_in (show 0 ≤ g by omega) (show 1 ≤ s by omega)
      obtain ⟨q0, q1⟩ := quo_bd (show 0 ≤ g by omega) (show 1 ≤ s by omega)
      have e1 : decide (g < 0) = false := decide_eq_false h1
      have e2 : decide (s < 1) = false := decide_eq_false h2
      have hne : s ≠ 0 := by omega
      have hg : 0 ≤ g := by omega
      have hs : 1 ≤ s := by omega
      have hw := Lib.hid hv
      by_cases h3 : 1152921504606846976 < g
      · rw [show min g 1152921504606846976 = 1152921504606846976 by omega] at *
        rw [hv]
        clear hv h1 h2
        go_enter Try.func18, Try.ntmps18
        go_wp2_with fail
        go_ret
        exact ⟨rfl, rfl⟩
      · rw [show min g 1152921504606846976 = g by omega] at *
        rw [hv]
        clear hv h1 h2
        go_enter Try.func18, Try.ntmps18
        go_wp2_with fail
        go_ret
        exact ⟨rfl, rfl⟩
theorem rtfair_any (d r : Int) (hd : -9223372036854775808 ≤ d ∧ d ≤ 9223372036854775807) (hr : -9223372036854775808 ≤ r ∧ r ≤ 9223372036854775807) (w : World) :
    Calls Try.prog 21 #[.int .i64 d, .int .i64 r] w fun e w' => e = .returned (.bool (fairB d r)) ∧ w = w' := by
  have CA := Lib.hid (fun W => Span.abs_any d hd W)
  obtain ⟨d0, d1⟩ := hd
  obtain ⟨r0, r1⟩ := hr
  by_cases h : 0 ≤ r
  · have HF : Hid (fairB d r = decide ((d.natAbs : Int) ≤ r)) := Lib.hid (by unfold fairB; rw [Bool.eq_iff_iff]; simp only [decide_eq_true_iff]; omega)
    rw [HF.out]
    have hn : (d.natAbs : Int) ≤ 9223372036854775808 := by omega
    have hn0 : 0 ≤ (d.natAbs : Int) := by omega
    generalize (d.natAbs : Int) = n at *
    have hw : IntKind.u64.wrap r = r := by simp only [IntKind.wrap_u64]; omega
    clear HF
    go_enter Try.func21, Try.ntmps21
    go_wp2_with fail
    refine (CA.out _).mono ?_; rintro e w' ⟨rfl, rfl⟩
    go_wp2_with fail
    go_ret
    exact ⟨rfl, rfl⟩
  · have HF : fairB d r = false := decide_eq_false (by omega)
    rw [HF]
    clear HF CA
    go_enter Try.func21, Try.ntmps21
    go_wp2_with fail
    go_ret
    exact ⟨rfl, rfl⟩
theorem rrtfair_any (d r : Int) (hr : 0 ≤ r ∧ r ≤ 9223372036854775807) (w : World) :
    Calls Try.prog 22 #[.int .i64 d, .int .i64 r] w fun e w' => e = .returned (.bool (fairB d r)) ∧ w = w' := by
  obtain ⟨r0, r1⟩ := hr
  by_cases h : d ≤ r
  · have HF : fairB d r = decide (-r ≤ d) := by unfold fairB; rw [Bool.eq_iff_iff]; simp only [decide_eq_true_iff]; omega
    rw [HF]
    clear HF
    go_enter Try.func22, Try.ntmps22
    go_wp2_with fail
    go_ret
    exact ⟨rret_b (by first | rfl | (rw [Bool.eq_iff_iff]; simp only [decide_eq_true_iff]; omega)), rfl⟩
  · have HF : fairB d r = false := decide_eq_false (by omega)
    rw [HF]
    clear HF
    go_enter Try.func22, Try.ntmps22
    go_wp2_with fail
    go_ret
    exact ⟨rfl, rfl⟩
theorem works20_any (w : World) :
    Calls Try.prog 16 #[] w fun e w' => e = .returned (.bool true) ∧ w = w' := by
  have C1 : Hid (∀ W, Calls Try.prog 12 #[.int .i64 1, .int .i64 32] W fun e w' => e = .returned (.int .i64 1057) ∧ W = w') := Lib.hid (fun W => rtfast_any 1 32 W)
  have C2 : Hid (∀ W, Calls Try.prog 14 #[.int .i64 1, .int .i64 32] W fun e w' => e = .returned (.int .i64 991) ∧ W = w') := Lib.hid (fun W => rtslow_any 1 32 W)
  have C3 : Hid (∀ W, Calls Try.prog 17 #[.int .i64 2000, .int .i64 991] W fun e w' => e = .returned (.int .i64 4) ∧ W = w') := Lib.hid (fun W => rtticks_any 2000 991 (by omega) (by omega) W)
  have C4 : Hid (∀ W, Calls Try.prog 19 #[.int .i64 (-3)] W fun e w' => e = .returned (.int .i64 1021) ∧ W = w') := Lib.hid (fun W => rtinc_any (-3) W)
  go_enter Try.func16, Try.ntmps16
  go_wp2_with fail
  refine (C1.out _).mono ?_; rintro e w' ⟨rfl, rfl⟩
  go_wp2_with fail
  refine (C2.out _).mono ?_; rintro e w' ⟨rfl, rfl⟩
  go_wp2_with fail
  refine (C3.out _).mono ?_; rintro e w' ⟨rfl, rfl⟩
  go_wp2_with fail
  refine (C4.out _).mono ?_; rintro e w' ⟨rfl, rfl⟩
  go_wp2_with fail
  go_ret
  exact ⟨rfl, rfl⟩
end Go.Proofs.Ytfkhennfnlfcdaa.Rat
