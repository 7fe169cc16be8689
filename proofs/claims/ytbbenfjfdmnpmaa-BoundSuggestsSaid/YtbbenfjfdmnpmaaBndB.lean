/- Contracts of package bound (layer 26): whether a configuration may be; ticks, how far clocks part, so much for each link. -/
import Derived.Test.YtbbenfjfdmnpmaaBndM
import Derived.Handy
namespace Go.Proofs.Ytbbenfjfdmnpmaa.Bnd
open Go.ChangeShapes Go.WideShapes Go.ChangeAt Go.RowKit
set_option linter.unusedVariables false
@[reducible] def ncells (m : Nm) : Array Value := #[.int .i64 m.hops, .int .i64 m.fast, .int .i64 m.slow, .int .i64 m.link, .int .i64 m.read, .int .i64 m.agree, .int .i64 m.start, .int .i64 m.eps, .int .i64 m.most, .int .i64 m.cold, .int .i64 m.rough, .int .i64 m.delta, .int .i64 m.down, .int .i64 m.join]
@[reducible] def nval (m : Nm) : Value := .agg (ncells m)
theorem period_any (x : Int) (w : World) :
    Calls Try.prog 41 #[.int .i64 x] w fun e w' => e = .returned (.bool (perB x)) ∧ w = w' := by
  unfold perB
  by_cases h : 1 ≤ x
  · have d : decide (1 ≤ x) = true := decide_eq_true h
    rw [d, Bool.true_and]
    go_enter Try.func41, Try.ntmps41
    go_wp2_with fail
    go_ret
    exact ⟨rfl, rfl⟩
  · have d : decide (1 ≤ x) = false := decide_eq_false h
    rw [d, Bool.false_and]
    go_enter Try.func41, Try.ntmps41
    go_wp2_with fail
    go_ret
    exact ⟨rfl, rfl⟩
set_option maxRecDepth 100000 in
theorem bticks_any (m : Nm) (g : Int) (hg : -9223372036854775808 ≤ g ∧ g ≤ 9223372036854775807) (hs : -9223372036854775808 ≤ m.slow ∧ m.slow ≤ 9223372036854775807) (w : World) :
    Calls Try.prog 26 #[nval m, .int .i64 g] w fun e w' => e = .returned (.int .i64 (Rat.ticksV g m.slow)) ∧ Below w.heap.size w w' := by
  have CT := Lib.hid (fun W => Rat.rtticks_any g m.slow hg hs W)
  generalize Rat.ticksV g m.slow = t at *
  clear hg hs
  obtain ⟨m0, m1, m2, m3, m4, m5, m6, m7, m8, m9, m10, m11, m12, m13⟩ := m
  unfold nval ncells
  dsimp only at *
  go_enter Try.func26, Try.ntmps26
  go_wp2_with fail
  refine (CT.out _).mono ?_; rintro e w' ⟨rfl, rfl⟩
  go_wp2_with fail
  go_ret
  exact ⟨rfl, by go_grown⟩
set_option maxRecDepth 100000 in
theorem parted_any (m : Nm) (r g y : Int) (hg : 0 ≤ g ∧ g ≤ 2199023255552) (hs : 704 ≤ m.slow ∧ m.slow ≤ 1023) (hr : 0 ≤ r ∧ r ≤ 64) (hy : 2 * r * Rat.ticksV g m.slow = y) (w : World) :
    Calls Try.prog 23 #[nval m, .int .i64 r, .int .i64 g] w fun e w' => e = .returned (.int .i64 y) ∧ Below w.heap.size w w' := by
  have CT := Lib.hid (fun W => bticks_any m g (by omega) (by omega) W)
  have tb := tk_bd hg.1 hs.1
  have pb := prod_bd hr.1 hr.2 (show 0 ≤ Rat.ticksV g m.slow by omega) (by omega)
  obtain ⟨r0, r1⟩ := hr
  rw [← hy]
  generalize Rat.ticksV g m.slow = t at *
  obtain ⟨p0, p1⟩ := pb
  clear hg hs tb hy
  have BE := Lib.hid (show Below w.heap.size w (w.alloc (.cells (ncells m) 26)) from (Below.refl _ _).alloc (Nat.le_refl _) _)
  obtain ⟨m0, m1, m2, m3, m4, m5, m6, m7, m8, m9, m10, m11, m12, m13⟩ := m
  unfold nval ncells at *
  dsimp only at *
  go_enter Try.func23, Try.ntmps23
  go_wp2_with fail
  refine (CT.out _).mono ?_; rintro e w' ⟨rfl, hB⟩
  have B1 := Lib.hid (BE.out.trans (hB.mono BE.out.size))
  clear hB
  go_wp2_with fail
  go_ret
  exact ⟨rfl, B1.out⟩
set_option maxRecDepth 100000 in
theorem over_any (m : Nm) (g y : Int) (hy : m.hops * g = y) (h0 : -9223372036854775808 ≤ y ∧ y ≤ 9223372036854775807) (w : World) :
    Calls Try.prog 25 #[nval m, .int .i64 g] w fun e w' => e = .returned (.int .i64 y) ∧ Below w.heap.size w w' := by
  obtain ⟨m0, m1, m2, m3, m4, m5, m6, m7, m8, m9, m10, m11, m12, m13⟩ := m
  unfold nval ncells
  dsimp only at *
  obtain ⟨p0, p1⟩ := h0
  go_enter Try.func25, Try.ntmps25
  go_wp2_with fail
  go_ret
  exact ⟨rfl, by go_grown⟩
set_option maxRecDepth 100000 in
set_option maxHeartbeats 4000000 in
theorem bgood_any (c : Cf) (hn : -9223372036854775808 ≤ c.n ∧ c.n ≤ 9223372036854775807) (w : World) :
    Calls Try.prog 19 #[cval c] w fun e w' => e = .returned (.bool (goodC c)) ∧ Below w.heap.size w w' := by
  have CH := Lib.hid (fun W => Hop.hgood_any (c.n - 1) c.dmin c.dmax W)
  have CR := Lib.hid (fun W => Rat.rtgood_any c.rho c.slew W)
  have P1 := Lib.hid (fun W => period_any c.round W)
  have P2 := Lib.hid (fun W => period_any c.window W)
  have P3 := Lib.hid (fun W => period_any c.attend W)
  unfold goodC
  obtain ⟨n0, n1⟩ := hn
  obtain ⟨n, lk, lL, lC, lS, f, a, b, r, s, R, W, A, x1, x2, x3, x4, x5⟩ := c
  unfold cval ccells
  dsimp only at *
  have BE := Lib.hid (show Below w.heap.size w (w.alloc (.cells #[.int .i64 n, .slice lk lL lC, .int .i64 f, .int .i64 a, .int .i64 b, .int .i64 r, .int .i64 s, .int .i64 R, .int .i64 W, .int .i64 A, .int .i64 x1, .int .i64 x2, .int .i64 x3, .int .i64 x4, .int .i64 x5] 24)) from (Below.refl _ _).alloc (Nat.le_refl _) _)
  by_cases t0 : 2 ≤ n
  rotate_left
  · have d : decide (2 ≤ n) = false := decide_eq_false t0
    rw [d, Bool.false_and]
    go_enter Try.func19, Try.ntmps19
    go_wp2_with fail
    go_ret
    exact ⟨rfl, BE.out⟩
  have d0 : decide (2 ≤ n) = true := decide_eq_true t0
  rw [d0, Bool.true_and]
  by_cases t1 : n ≤ 64
  rotate_left
  · have d : decide (n ≤ 64) = false := decide_eq_false t1
    rw [d, Bool.false_and]
    go_enter Try.func19, Try.ntmps19
    go_wp2_with fail
    go_ret
    exact ⟨rfl, BE.out⟩
  have d1 : decide (n ≤ 64) = true := decide_eq_true t1
  rw [d1, Bool.true_and]
  by_cases t2 : 1 ≤ a
  rotate_left
  · have d : decide (1 ≤ a) = false := decide_eq_false t2
    rw [d, Bool.false_and]
    go_enter Try.func19, Try.ntmps19
    go_wp2_with fail
    go_ret
    exact ⟨rfl, BE.out⟩
  have d2 : decide (1 ≤ a) = true := decide_eq_true t2
  rw [d2, Bool.true_and]
  generalize Hop.gdB (n - 1) a b = g0 at *
  cases g0
  · rw [Bool.false_and]
    go_enter Try.func19, Try.ntmps19
    go_wp2_with fail
    refine (CH.out _).mono ?_; rintro e w' ⟨rfl, rfl⟩
    go_wp2_with fail
    go_ret
    exact ⟨rfl, BE.out⟩
  rw [Bool.true_and]
  generalize Rat.gdR r s = g1 at *
  cases g1
  · rw [Bool.false_and]
    go_enter Try.func19, Try.ntmps19
    go_wp2_with fail
    refine (CH.out _).mono ?_; rintro e w' ⟨rfl, rfl⟩
    go_wp2_with fail
    refine (CR.out _).mono ?_; rintro e w' ⟨rfl, rfl⟩
    go_wp2_with fail
    go_ret
    exact ⟨rfl, BE.out⟩
  rw [Bool.true_and]
  generalize perB R = g2 at *
  cases g2
  · rw [Bool.false_and]
    go_enter Try.func19, Try.ntmps19
    go_wp2_with fail
    refine (CH.out _).mono ?_; rintro e w' ⟨rfl, rfl⟩
    go_wp2_with fail
    refine (CR.out _).mono ?_; rintro e w' ⟨rfl, rfl⟩
    go_wp2_with fail
    refine (P1.out _).mono ?_; rintro e w' ⟨rfl, rfl⟩
    go_wp2_with fail
    go_ret
    exact ⟨rfl, BE.out⟩
  rw [Bool.true_and]
  generalize perB W = g3 at *
  cases g3
  · rw [Bool.false_and]
    go_enter Try.func19, Try.ntmps19
    go_wp2_with fail
    refine (CH.out _).mono ?_; rintro e w' ⟨rfl, rfl⟩
    go_wp2_with fail
    refine (CR.out _).mono ?_; rintro e w' ⟨rfl, rfl⟩
    go_wp2_with fail
    refine (P1.out _).mono ?_; rintro e w' ⟨rfl, rfl⟩
    go_wp2_with fail
    refine (P2.out _).mono ?_; rintro e w' ⟨rfl, rfl⟩
    go_wp2_with fail
    go_ret
    exact ⟨rfl, BE.out⟩
  rw [Bool.true_and]
  generalize perB A = g4 at *
  go_enter Try.func19, Try.ntmps19
  go_wp2_with fail
  refine (CH.out _).mono ?_; rintro e w' ⟨rfl, rfl⟩
  go_wp2_with fail
  refine (CR.out _).mono ?_; rintro e w' ⟨rfl, rfl⟩
  go_wp2_with fail
  refine (P1.out _).mono ?_; rintro e w' ⟨rfl, rfl⟩
  go_wp2_with fail
  refine (P2.out _).mono ?_; rintro e w' ⟨rfl, rfl⟩
  go_wp2_with fail
  refine (P3.out _).mono ?_; rintro e w' ⟨rfl, rfl⟩
  go_wp2_with fail
  go_ret
  exact ⟨rfl, BE.out⟩
end Go.Proofs.Ytbbenfjfdmnpmaa.Bnd
