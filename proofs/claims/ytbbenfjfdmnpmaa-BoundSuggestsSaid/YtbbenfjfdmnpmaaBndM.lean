/- Plain mathematics of layer 26: a cluster's numbers, and how great each is at most. -/
import Derived.Test.YtbbenfjfdmnpmaaBndV
import Derived.Test.YtbbenfjfdmnpmaaRdgB
import Derived.Test.YtbbenfjfdmnpmaaRatA
namespace Go.Proofs.Ytbbenfjfdmnpmaa.Bnd
set_option linter.unusedVariables false
/-- Whether a period may be. -/
def perB (x : Int) : Bool := decide (1 ≤ x) && decide (x ≤ 1099511627776)
theorem per_yes {x : Int} (h : perB x = true) : 1 ≤ x ∧ x ≤ 1099511627776 := by
  unfold perB at h; simp only [Bool.and_eq_true, decide_eq_true_iff] at h; exact h
/-- Whether a configuration may be. -/
def goodC (c : Cf) : Bool := decide (2 ≤ c.n) && (decide (c.n ≤ 64) && (decide (1 ≤ c.dmin) && (Hop.gdB (c.n - 1) c.dmin c.dmax && (Rat.gdR c.rho c.slew && (perB c.round && (perB c.window && perB c.attend))))))
structure Good (c : Cf) : Prop where
  n0 : 2 ≤ c.n
  n1 : c.n ≤ 64
  a0 : 1 ≤ c.dmin
  ab : c.dmin ≤ c.dmax
  b1 : c.dmax ≤ 64
  r0 : 0 ≤ c.rho
  r1 : c.rho ≤ 64
  s0 : 1 ≤ c.slew
  s1 : c.slew ≤ 256
  R : 1 ≤ c.round ∧ c.round ≤ 1099511627776
  W : 1 ≤ c.window ∧ c.window ≤ 1099511627776
  A : 1 ≤ c.attend ∧ c.attend ≤ 1099511627776
theorem good_yes {c : Cf} (h : goodC c = true) : Good c := by
  unfold goodC at h
  simp only [Bool.and_eq_true, decide_eq_true_iff] at h
  obtain ⟨h1, h2, h3, h4, h5, h6, h7, h8⟩ := h
  obtain ⟨-, -, -, g1, g2⟩ := Hop.gd_yes h4
  obtain ⟨r0, r1, s0, s1⟩ := Rat.gdR_yes h5
  exact ⟨h1, h2, h3, g1, g2, r0, r1, s0, s1, per_yes h6, per_yes h7, per_yes h8⟩
theorem good_mk {c : Cf} (h : Good c) : goodC c = true := by
  have h1 := h.n0; have h2 := h.n1; have h3 := h.a0; have h4 := h.ab; have h5 := h.b1; have h6 := h.r0; have h7 := h.r1; have h8 := h.s0; have h9 := h.s1
  have hR := h.R; have hW := h.W; have hA := h.A
  unfold goodC Hop.gdB Rat.gdR perB
  simp only [Bool.and_eq_true, decide_eq_true_iff]
  omega
/-- A cluster's numbers. -/
structure Nm where
  hops : Int
  fast : Int
  slow : Int
  link : Int
  read : Int
  agree : Int
  start : Int
  eps : Int
  most : Int
  cold : Int
  rough : Int
  delta : Int
  down : Int
  join : Int
def nm0 : Nm := ⟨0, 0, 0, 0, 0, 0, 0, 0, 0, 0, 0, 0, 0, 0⟩
def wayV (c : Cf) : Int := Hop.errV (c.n - 1) c.dmin c.dmax c.rho
def slowC (c : Cf) : Int := 1024 - c.rho - c.slew
def fastC (c : Cf) : Int := 1024 + c.rho + c.slew
def winV (c : Cf) : Int := 2 * c.rho * Rat.ticksV (2 * c.window) (slowC c)
def rndV (c : Cf) : Int := 2 * c.rho * Rat.ticksV (2 * c.round) (slowC c)
def readV (c : Cf) : Int := wayV c + winV c
def startV (c : Cf) : Int := 2 * readV c + 2 + rndV c
def epsV (c : Cf) : Int := startV c + 2 * readV c + 2 + rndV c + 2 * fastC c
def coldV (c : Cf) : Int := Rdg.rerV c.dmin c.dmax c.rho c.slew
def mostV (c : Cf) : Int := startV c + readV c + 2
def deltaV (c : Cf) : Int := (c.n - 1) * (c.dmax * fastC c + epsV c) + 2 * fastC c
def seV (c : Cf) : Int := 2 * epsV c + 2 * deltaV c
/-- All of them, of one that may be. -/
def num (c : Cf) : Nm where
  hops := c.n - 1
  fast := fastC c
  slow := slowC c
  link := c.dmax * fastC c
  read := readV c
  agree := 2 * readV c + 2
  start := startV c
  eps := epsV c
  most := mostV c
  cold := coldV c
  rough := epsV c + coldV c + mostV c + rndV c + 4 * fastC c
  delta := deltaV c
  down := Rat.ticksV (c.attend + seV c) (slowC c)
  join := 2 * c.dmax + 8 + Rat.ticksV (2 * c.round + 2 * c.window) (slowC c) + Rat.ticksV (2 * c.attend + seV c) (slowC c)
/-- The answer. -/
def ofN (c : Cf) : Nm := if goodC c = true then num c else nm0
def ofE (c : Cf) : Int := if goodC c = true then 0 else 17
theorem tk_bd {g s : Int} (g0 : 0 ≤ g) (s0 : 704 ≤ s) : 2 ≤ Rat.ticksV g s ∧ Rat.ticksV g s ≤ g / 704 + 2 := by
  rw [Rat.ticks_in g0 (by omega)]
  obtain ⟨q0, -⟩ := Rat.quo_bd g0 (show 1 ≤ s by omega)
  have h1 : min g 1152921504606846976 / s * s ≤ min g 1152921504606846976 := Int.ediv_mul_le _ (by omega)
  generalize min g 1152921504606846976 / s = q at *
  have h2 : q * 704 ≤ q * s := Int.mul_le_mul_of_nonneg_left s0 q0
  have h3 : min g 1152921504606846976 ≤ g := by omega
  have h4 : q ≤ g / 704 := by
    refine Int.le_ediv_of_mul_le (by omega) ?_
    generalize q * s = z at *
    omega
  omega
theorem prod_bd {r t : Int} (r0 : 0 ≤ r) (r1 : r ≤ 64) (t0 : 0 ≤ t) (t1 : t ≤ 3123612580) : 0 ≤ 2 * r * t ∧ 2 * r * t ≤ 400000000000 :=
  ⟨Int.mul_nonneg (by omega) t0, by have := Int.mul_le_mul (show 2 * r ≤ 128 by omega) t1 t0 (by omega : (0 : Int) ≤ 128); omega⟩
/-- How great each is. -/
structure Bd (c : Cf) (y z : Int) (m : Nm) : Prop where
  hops : 1 ≤ m.hops ∧ m.hops ≤ 63
  fast : 1025 ≤ m.fast ∧ m.fast ≤ 1344
  slow : 704 ≤ m.slow ∧ m.slow ≤ 1023
  link : 0 ≤ m.link ∧ m.link ≤ 86016
  way : 0 ≤ wayV c ∧ wayV c ≤ 20000000
  win : 0 ≤ y ∧ y ≤ 400000000000
  rnd : 0 ≤ z ∧ z ≤ 400000000000
  read : 0 ≤ m.read ∧ m.read ≤ 401000000000
  agree : 0 ≤ m.agree ∧ m.agree ≤ 803000000000
  start : 0 ≤ m.start ∧ m.start ≤ 1203000000000
  eps : 0 ≤ m.eps ∧ m.eps ≤ 2500000000000
  most : 0 ≤ m.most ∧ m.most ≤ 1700000000000
  cold : 0 ≤ m.cold ∧ m.cold ≤ 100000
  rough : 0 ≤ m.rough ∧ m.rough ≤ 5000000000000
  over : 0 ≤ m.hops * (m.link + m.eps) ∧ m.hops * (m.link + m.eps) ≤ 160000000000000
  delta : 0 ≤ m.delta ∧ m.delta ≤ 161000000000000
  down : 0 ≤ m.down ∧ m.down ≤ 1000000000000
  join1 : 0 ≤ Rat.ticksV (2 * c.round + 2 * c.window) m.slow ∧ Rat.ticksV (2 * c.round + 2 * c.window) m.slow ≤ 1000000000000
  join2 : 0 ≤ Rat.ticksV (2 * c.attend + seV c) m.slow ∧ Rat.ticksV (2 * c.attend + seV c) m.slow ≤ 1000000000000
theorem link_bd {b f : Int} (b0 : 0 ≤ b) (b1 : b ≤ 64) (f0 : 0 ≤ f) (f1 : f ≤ 1344) : 0 ≤ b * f ∧ b * f ≤ 86016 :=
  ⟨Int.mul_nonneg b0 f0, by have := Int.mul_le_mul b1 f1 f0 (by omega : (0 : Int) ≤ 64); omega⟩
theorem over_bd {h x : Int} (h0 : 0 ≤ h) (h1 : h ≤ 63) (x0 : 0 ≤ x) (x1 : x ≤ 2501000000000) : 0 ≤ h * x ∧ h * x ≤ 160000000000000 :=
  ⟨Int.mul_nonneg h0 x0, by have := Int.mul_le_mul h1 x1 x0 (by omega : (0 : Int) ≤ 63); omega⟩
theorem way_bdC {c : Cf} (g : Good c) : Hop.erB (c.n - 1) c.dmin c.dmax c.rho = true ∧ 0 ≤ wayV c ∧ wayV c ≤ 20000000 := by
  have h1 := g.n0; have h2 := g.n1; have h3 := g.a0; have h4 := g.ab; have h5 := g.b1; have h6 := g.r0; have h7 := g.r1
  have he : Hop.erB (c.n - 1) c.dmin c.dmax c.rho = true := by
    unfold Hop.erB Hop.gdB
    simp only [Bool.and_eq_true, decide_eq_true_iff]
    omega
  obtain ⟨m0, m1⟩ := Hop.mul_bd2 h6 h7 (show 0 ≤ c.dmax by omega) (show c.dmax ≤ 4032 by omega)
  refine ⟨he, ?_⟩
  unfold wayV Hop.errV
  rw [if_pos he]
  exact ⟨Int.mul_nonneg (by omega) (by omega), by have := Int.mul_le_mul (show c.n - 1 ≤ 63 by omega) (show (c.dmax - c.dmin) * 512 + c.rho * c.dmax ≤ 300000 by omega) (by omega) (by omega : (0 : Int) ≤ 63); omega⟩
theorem cold_bdC {c : Cf} (g : Good c) : Rdg.rerB c.dmin c.dmax c.rho c.slew = true ∧ 0 ≤ coldV c ∧ coldV c ≤ 100000 := by
  have h1 := g.n0; have h2 := g.n1; have h3 := g.a0; have h4 := g.ab; have h5 := g.b1; have h6 := g.r0; have h7 := g.r1; have h8 := g.s0; have h9 := g.s1
  have he : Rdg.rerB c.dmin c.dmax c.rho c.slew = true := by
    unfold Rdg.rerB Hop.gdB Rat.gdR
    simp only [Bool.and_eq_true, decide_eq_true_iff]
    omega
  obtain ⟨p0, p1⟩ := Rdg.way_bd h6 h7 h8 h9 (show 0 ≤ c.dmax by omega) h5
  refine ⟨he, ?_⟩
  unfold coldV Rdg.rerV
  rw [if_pos he]
  omega
theorem num_bd {c : Cf} (g : Good c) : Bd c (winV c) (rndV c) (num c) := by
  have h1 := g.n0; have h2 := g.n1; have h3 := g.a0; have h4 := g.ab; have h5 := g.b1; have h6 := g.r0; have h7 := g.r1; have h8 := g.s0; have h9 := g.s1
  obtain ⟨R0, R1⟩ := g.R
  obtain ⟨W0, W1⟩ := g.W
  obtain ⟨A0, A1⟩ := g.A
  have hf : 1025 ≤ fastC c ∧ fastC c ≤ 1344 := by unfold fastC; omega
  have hs : 704 ≤ slowC c ∧ slowC c ≤ 1023 := by unfold slowC; omega
  have hl := link_bd (show 0 ≤ c.dmax by omega) h5 (show 0 ≤ fastC c by omega) hf.2
  have hw := (way_bdC g).2
  have hc := (cold_bdC g).2
  have tw := tk_bd (show 0 ≤ 2 * c.window by omega) hs.1
  have tr := tk_bd (show 0 ≤ 2 * c.round by omega) hs.1
  have hy : 0 ≤ winV c ∧ winV c ≤ 400000000000 := prod_bd h6 h7 (by omega) (by omega)
  have hz : 0 ≤ rndV c ∧ rndV c ≤ 400000000000 := prod_bd h6 h7 (by omega) (by omega)
  have hr : 0 ≤ readV c ∧ readV c ≤ 401000000000 := by unfold readV; omega
  have hst : 0 ≤ startV c ∧ startV c ≤ 1203000000000 := by unfold startV; omega
  have hep : 0 ≤ epsV c ∧ epsV c ≤ 2500000000000 := by unfold epsV; omega
  have hmo : 0 ≤ mostV c ∧ mostV c ≤ 1700000000000 := by unfold mostV; omega
  have hov := over_bd (show 0 ≤ c.n - 1 by omega) (show c.n - 1 ≤ 63 by omega) (show 0 ≤ c.dmax * fastC c + epsV c by omega) (by omega)
  have hde : 0 ≤ deltaV c ∧ deltaV c ≤ 161000000000000 := by unfold deltaV; omega
  have hse : 0 ≤ seV c ∧ seV c ≤ 350000000000000 := by unfold seV; omega
  have t1 := tk_bd (show 0 ≤ c.attend + seV c by omega) hs.1
  have t2 := tk_bd (show 0 ≤ 2 * c.round + 2 * c.window by omega) hs.1
  have t3 := tk_bd (show 0 ≤ 2 * c.attend + seV c by omega) hs.1
  refine ⟨?_, hf, hs, hl, hw, hy, hz, hr, ?_, hst, hep, hmo, hc, ?_, hov, hde, ?_, ?_, ?_⟩
  all_goals (try unfold num)
  all_goals dsimp only
  all_goals omega
end Go.Proofs.Ytbbenfjfdmnpmaa.Bnd
