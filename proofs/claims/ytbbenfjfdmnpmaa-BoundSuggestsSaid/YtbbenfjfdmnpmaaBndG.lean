/- The document's own Good (layer 26). Written by gen/bnd_good.py. -/
import Derived.Test.YtbbenfjfdmnpmaaBndB
namespace Go.Proofs.Ytbbenfjfdmnpmaa.Bnd
open Go.ChangeShapes Go.WideShapes Go.ChangeAt Go.RowKit
set_option linter.unusedVariables false
theorem good_no {c : Cf} (h : Good c → False) : goodC c = false := by
  cases hq : goodC c with
  | false => rfl
  | true => exact (h (good_yes hq)).elim
set_option maxRecDepth 100000 in
set_option maxHeartbeats 4000000 in
theorem brgood_any (c : Cf) (w : World) :
    Calls Try.prog 9 #[cval c] w fun e w' => e = .returned (.bool (goodC c)) ∧ Below w.heap.size w w' := by
  have CR := Lib.hid (fun W => Rat.rrtgood_any c.rho c.slew W)
  have HG := Lib.hid (fun h : Good c => good_mk h)
  have HN := Lib.hid (fun h : Good c → False => good_no h)
  have HI := Lib.hid (fun g : Good c => (⟨g.n0, g.n1, g.a0, g.ab, g.b1, g.R, g.W, g.A⟩ : 2 ≤ c.n ∧ c.n ≤ 64 ∧ 1 ≤ c.dmin ∧ c.dmin ≤ c.dmax ∧ c.dmax ≤ 64 ∧ (1 ≤ c.round ∧ c.round ≤ 1099511627776) ∧ (1 ≤ c.window ∧ c.window ≤ 1099511627776) ∧ (1 ≤ c.attend ∧ c.attend ≤ 1099511627776)))
  have HR := Lib.hid (fun g : Good c => show Rat.gdR c.rho c.slew = true by have := g.r0; have := g.r1; have := g.s0; have := g.s1; unfold Rat.gdR; rw [decide_eq_true_iff]; omega)
  have HS := Lib.hid (fun h : Rat.gdR c.rho c.slew = true => Rat.gdR_yes h)
  generalize hq : goodC c = q at *
  have HM := Lib.hid (fun (a1 : 2 ≤ c.n) a2 a3 a4 a5 (h : Rat.gdR c.rho c.slew = true) a6 a7 a8 => HG.out ⟨a1, a2, a3, a4, a5, (HS.out h).1, (HS.out h).2.1, (HS.out h).2.2.1, (HS.out h).2.2.2, a6, a7, a8⟩)
  clear hq HG HS
  obtain ⟨n, lk, lL, lC, lS, f, a, b, r, s, R, W, A, x1, x2, x3, x4, x5⟩ := c
  unfold cval ccells
  dsimp only at *
  have BE := Lib.hid (show Below w.heap.size w (w.alloc (.cells #[.int .i64 n, .slice lk lL lC, .int .i64 f, .int .i64 a, .int .i64 b, .int .i64 r, .int .i64 s, .int .i64 R, .int .i64 W, .int .i64 A, .int .i64 x1, .int .i64 x2, .int .i64 x3, .int .i64 x4, .int .i64 x5] 24)) from (Below.refl _ _).alloc (Nat.le_refl _) _)
  by_cases t0 : 2 ≤ n
  rotate_left
  · obtain rfl : q = false := HN.out (fun g => by have := HI.out g; omega)
    clear HN HI HR HM
    go_enter Try.func9, Try.ntmps9
    go_wp2_with fail
    go_ret
    exact ⟨rfl, BE.out⟩
  by_cases t1 : n ≤ 64
  rotate_left
  · obtain rfl : q = false := HN.out (fun g => by have := HI.out g; omega)
    clear HN HI HR HM
    go_enter Try.func9, Try.ntmps9
    go_wp2_with fail
    go_ret
    exact ⟨rfl, BE.out⟩
  by_cases t2 : 1 ≤ a
  rotate_left
  · obtain rfl : q = false := HN.out (fun g => by have := HI.out g; omega)
    clear HN HI HR HM
    go_enter Try.func9, Try.ntmps9
    go_wp2_with fail
    go_ret
    exact ⟨rfl, BE.out⟩
  by_cases t3 : a ≤ b
  rotate_left
  · obtain rfl : q = false := HN.out (fun g => by have := HI.out g; omega)
    clear HN HI HR HM
    go_enter Try.func9, Try.ntmps9
    go_wp2_with fail
    go_ret
    exact ⟨rfl, BE.out⟩
  by_cases t4 : b ≤ 64
  rotate_left
  · obtain rfl : q = false := HN.out (fun g => by have := HI.out g; omega)
    clear HN HI HR HM
    go_enter Try.func9, Try.ntmps9
    go_wp2_with fail
    go_ret
    exact ⟨rfl, BE.out⟩
  cases hg : Rat.gdR r s with
  | false =>
    obtain rfl : q = false := HN.out (fun g => by have := HR.out g; rw [hg] at this; exact absurd this (by simp))
    rw [hg] at CR
    clear HN HI HR HM hg
    go_enter Try.func9, Try.ntmps9
    go_wp2_with fail
    refine (CR.out _).mono ?_; rintro e w' ⟨rfl, rfl⟩
    go_wp2_with fail
    go_ret
    exact ⟨rfl, BE.out⟩
  | true =>
  rw [hg] at CR
  by_cases u0 : 0 < R
  rotate_left
  · obtain rfl : q = false := HN.out (fun g => by have := HI.out g; omega)
    clear HN HI HR HM hg
    go_enter Try.func9, Try.ntmps9
    go_wp2_with fail
    refine (CR.out _).mono ?_; rintro e w' ⟨rfl, rfl⟩
    go_wp2_with fail
    go_ret
    exact ⟨rfl, BE.out⟩
  by_cases u1 : R ≤ 1099511627776
  rotate_left
  · obtain rfl : q = false := HN.out (fun g => by have := HI.out g; omega)
    clear HN HI HR HM hg
    go_enter Try.func9, Try.ntmps9
    go_wp2_with fail
    refine (CR.out _).mono ?_; rintro e w' ⟨rfl, rfl⟩
    go_wp2_with fail
    go_ret
    exact ⟨rfl, BE.out⟩
  by_cases u2 : 0 < W
  rotate_left
  · obtain rfl : q = false := HN.out (fun g => by have := HI.out g; omega)
    clear HN HI HR HM hg
    go_enter Try.func9, Try.ntmps9
    go_wp2_with fail
    refine (CR.out _).mono ?_; rintro e w' ⟨rfl, rfl⟩
    go_wp2_with fail
    go_ret
    exact ⟨rfl, BE.out⟩
  by_cases u3 : W ≤ 1099511627776
  rotate_left
  · obtain rfl : q = false := HN.out (fun g => by have := HI.out g; omega)
    clear HN HI HR HM hg
    go_enter Try.func9, Try.ntmps9
    go_wp2_with fail
    refine (CR.out _).mono ?_; rintro e w' ⟨rfl, rfl⟩
    go_wp2_with fail
    go_ret
    exact ⟨rfl, BE.out⟩
  by_cases u4 : 0 < A
  rotate_left
  · obtain rfl : q = false := HN.out (fun g => by have := HI.out g; omega)
    clear HN HI HR HM hg
    go_enter Try.func9, Try.ntmps9
    go_wp2_with fail
    refine (CR.out _).mono ?_; rintro e w' ⟨rfl, rfl⟩
    go_wp2_with fail
    go_ret
    exact ⟨rfl, BE.out⟩
  by_cases u5 : A ≤ 1099511627776
  rotate_left
  · obtain rfl : q = false := HN.out (fun g => by have := HI.out g; omega)
    clear HN HI HR HM hg
    have d5 : decide (A ≤ 1099511627776) = false := decide_eq_false u5
    go_enter Try.func9, Try.ntmps9
    go_wp2_with fail
    refine (CR.out _).mono ?_; rintro e w' ⟨rfl, rfl⟩
    go_wp2_with fail
    go_ret
    exact ⟨rfl, BE.out⟩
  obtain rfl : q = true := HM.out t0 t1 t2 t3 t4 hg ⟨u0, u1⟩ ⟨u2, u3⟩ ⟨u4, u5⟩
  clear HN HI HR HM hg
  go_enter Try.func9, Try.ntmps9
  go_wp2_with fail
  refine (CR.out _).mono ?_; rintro e w' ⟨rfl, rfl⟩
  go_wp2_with fail
  go_ret
  exact ⟨rfl, BE.out⟩
end Go.Proofs.Ytbbenfjfdmnpmaa.Bnd
