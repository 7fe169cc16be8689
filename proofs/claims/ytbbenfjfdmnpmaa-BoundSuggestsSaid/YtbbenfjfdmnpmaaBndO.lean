/- Contracts of package bound (layer 26): Of. Written by gen/bnd_of.py. -/
import Derived.Test.YtbbenfjfdmnpmaaBndK
import Derived.Deep.RegionHeld3
import Derived.Deep.RegionHeldLaw
namespace Go.Proofs.Ytbbenfjfdmnpmaa.Bnd
open Go.ChangeShapes Go.WideShapes Go.ChangeAt Go.RowKit
open Go.Proofs.Ytbbenfjfdmnpmaa.Rw
set_option linter.unusedVariables false
set_option linter.unusedSimpArgs false
set_option maxRecDepth 100000 in
set_option maxHeartbeats 4000000 in
theorem bof_good (c : Cf) (g0 : Good c) (w : World) :
    Calls Try.prog 8 #[cval c] w fun e w' => e = .returned (.tuple #[nval (num c), .int .i64 0]) ∧ Below w.heap.size w w' := by
  obtain ⟨m, x, y, z, ov, se, j1, j2, K⟩ := kit_of g0
  have CG := Lib.hid (fun W => bgood_any c (by have := g0.n0; have := g0.n1; omega) W)
  rw [good_mk g0] at CG
  rw [K.num]
  obtain ⟨n, lk, lL, lC, lS, fl, a, b, r, v, pr, pw, pa, x1, x2, x3, x4, x5⟩ := c
  obtain ⟨h, f, s, l, rd, ag, st, ep, mo, cd, ro, de, dn, jn⟩ := m
  have Q_hops : Hid (n - 1 = h) := Lib.hid K.hops
  have Q_link : Hid (b * f = l) := Lib.hid K.link
  have Q_read : Hid (x + y = rd) := Lib.hid K.read
  have Q_agree : Hid (2 * rd + 2 = ag) := Lib.hid K.agree
  have Q_start : Hid (ag + z = st) := Lib.hid K.start
  have Q_eps : Hid (st + 2 * rd + 2 + z + 2 * f = ep) := Lib.hid K.eps
  have Q_most : Hid (st + rd + 2 = mo) := Lib.hid K.most
  have Q_rough : Hid (ep + cd + mo + z + 4 * f = ro) := Lib.hid K.rough
  have Q_over : Hid (h * (l + ep) = ov) := Lib.hid K.over
  have Q_delta : Hid (ov + 2 * f = de) := Lib.hid K.delta
  have Q_settled : Hid (2 * ep + 2 * de = se) := Lib.hid K.settled
  have Q_join : Hid (2 * b + 8 + j1 + j2 = jn) := Lib.hid K.join
  obtain ⟨p0, q0⟩ : 1 ≤ h ∧ h ≤ 63 := K.hops_
  obtain ⟨p1, q1⟩ : 1025 ≤ f ∧ f ≤ 1344 := K.fast_
  obtain ⟨p2, q2⟩ : 704 ≤ s ∧ s ≤ 1023 := K.slow_
  obtain ⟨p3, q3⟩ : 0 ≤ l ∧ l ≤ 86016 := K.link_
  obtain ⟨p4, q4⟩ : 0 ≤ x ∧ x ≤ 20000000 := K.way_
  obtain ⟨p5, q5⟩ : 0 ≤ y ∧ y ≤ 400000000000 := K.win_
  obtain ⟨p6, q6⟩ : 0 ≤ z ∧ z ≤ 400000000000 := K.rnd_
  obtain ⟨p7, q7⟩ : 0 ≤ rd ∧ rd ≤ 401000000000 := K.read_
  obtain ⟨p8, q8⟩ : 0 ≤ ag ∧ ag ≤ 803000000000 := K.agree_
  obtain ⟨p9, q9⟩ : 0 ≤ st ∧ st ≤ 1203000000000 := K.start_
  obtain ⟨p10, q10⟩ : 0 ≤ ep ∧ ep ≤ 2500000000000 := K.eps_
  obtain ⟨p11, q11⟩ : 0 ≤ mo ∧ mo ≤ 1700000000000 := K.most_
  obtain ⟨p12, q12⟩ : 0 ≤ cd ∧ cd ≤ 100000 := K.cold_
  obtain ⟨p13, q13⟩ : 0 ≤ ro ∧ ro ≤ 5000000000000 := K.rough_
  obtain ⟨p14, q14⟩ : 0 ≤ ov ∧ ov ≤ 160000000000000 := K.over_
  obtain ⟨p15, q15⟩ : 0 ≤ de ∧ de ≤ 161000000000000 := K.delta_
  obtain ⟨p16, q16⟩ : 0 ≤ se ∧ se ≤ 350000000000000 := K.settled_
  obtain ⟨p17, q17⟩ : 0 ≤ dn ∧ dn ≤ 1000000000000 := K.down_
  obtain ⟨p18, q18⟩ : 0 ≤ j1 ∧ j1 ≤ 1000000000000 := K.join1_
  obtain ⟨p19, q19⟩ : 0 ≤ j2 ∧ j2 ≤ 1000000000000 := K.join2_
  obtain ⟨G0, G1, G2, G3, G4, G5, G6, G7, G8, ⟨G9, G10⟩, ⟨G11, G12⟩, ⟨G13, G14⟩⟩ := g0
  dsimp only at G0 G1 G2 G3 G4 G5 G6 G7 G8 G9 G10 G11 G12 G13 G14
  have CF : Hid (∀ W, Calls Try.prog 20 #[.int .i64 r, .int .i64 v] W fun e w' => e = .returned (.int .i64 f) ∧ W = w') := Lib.hid (fun W => by have := Rat.rtfast_any r v W; rwa [show Rat.fastV r v = f from K.fast] at this)
  have CS : Hid (∀ W, Calls Try.prog 21 #[.int .i64 r, .int .i64 v] W fun e w' => e = .returned (.int .i64 s) ∧ W = w') := Lib.hid (fun W => by have := Rat.rtslow_any r v W; rwa [show Rat.slowV r v = s from K.slow] at this)
  obtain ⟨ob, hob⟩ : ∃ o, Hop.erB h a b r = o := ⟨_, rfl⟩
  obtain ⟨oc, hoc⟩ : ∃ o, Rdg.rerB a b r v = o := ⟨_, rfl⟩
  have CE : Hid (∀ W, Calls Try.prog 22 #[.int .i64 h, .int .i64 a, .int .i64 b, .int .i64 r] W fun e w' => e = .returned (.tuple #[.int .i64 x, .bool ob]) ∧ W = w') := Lib.hid (fun W => by have := Hop.errH_any h a b r W; rwa [show Hop.errV h a b r = x from K.way, hob] at this)
  have CW : Hid (∀ W, Calls Try.prog 23 #[.agg #[.int .i64 h, .int .i64 f, .int .i64 s, .int .i64 0, .int .i64 0, .int .i64 0, .int .i64 0, .int .i64 0, .int .i64 0, .int .i64 0, .int .i64 0, .int .i64 0, .int .i64 0, .int .i64 0], .int .i64 r, .int .i64 (2 * pw)] W fun e w' => e = .returned (.int .i64 y) ∧ Below W.heap.size W w') := Lib.hid (fun W => parted_any ⟨h, f, s, 0, 0, 0, 0, 0, 0, 0, 0, 0, 0, 0⟩ r (2 * pw) y (by omega) (by dsimp only; omega) (by omega) K.win W)
  have CR : Hid (∀ W, Calls Try.prog 23 #[.agg #[.int .i64 h, .int .i64 f, .int .i64 s, .int .i64 0, .int .i64 0, .int .i64 0, .int .i64 0, .int .i64 0, .int .i64 0, .int .i64 0, .int .i64 0, .int .i64 0, .int .i64 0, .int .i64 0], .int .i64 r, .int .i64 (2 * pr)] W fun e w' => e = .returned (.int .i64 z) ∧ Below W.heap.size W w') := Lib.hid (fun W => parted_any ⟨h, f, s, 0, 0, 0, 0, 0, 0, 0, 0, 0, 0, 0⟩ r (2 * pr) z (by omega) (by dsimp only; omega) (by omega) K.rnd W)
  have CC : Hid (∀ W, Calls Try.prog 24 #[.int .i64 a, .int .i64 b, .int .i64 r, .int .i64 v] W fun e w' => e = .returned (.tuple #[.int .i64 cd, .bool oc]) ∧ W = w') := Lib.hid (fun W => by have := Rdg.err_any a b r v W; rwa [show Rdg.rerV a b r v = cd from K.cold, hoc] at this)
  have CO : Hid (∀ W, Calls Try.prog 25 #[.agg #[.int .i64 h, .int .i64 f, .int .i64 s, .int .i64 l, .int .i64 rd, .int .i64 ag, .int .i64 st, .int .i64 ep, .int .i64 mo, .int .i64 cd, .int .i64 ro, .int .i64 0, .int .i64 0, .int .i64 0], .int .i64 (l + ep)] W fun e w' => e = .returned (.int .i64 ov) ∧ Below W.heap.size W w') := Lib.hid (fun W => over_any ⟨h, f, s, l, rd, ag, st, ep, mo, cd, ro, 0, 0, 0⟩ (l + ep) ov K.over (by omega) W)
  have CD : Hid (∀ W, Calls Try.prog 26 #[.agg #[.int .i64 h, .int .i64 f, .int .i64 s, .int .i64 l, .int .i64 rd, .int .i64 ag, .int .i64 st, .int .i64 ep, .int .i64 mo, .int .i64 cd, .int .i64 ro, .int .i64 de, .int .i64 0, .int .i64 0], .int .i64 (pa + se)] W fun e w' => e = .returned (.int .i64 dn) ∧ Below W.heap.size W w') := Lib.hid (fun W => by have := bticks_any ⟨h, f, s, l, rd, ag, st, ep, mo, cd, ro, de, 0, 0⟩ (pa + se) (by omega) (by dsimp only; omega) W; rwa [show Rat.ticksV (pa + se) s = dn from K.down] at this)
  have C1 : Hid (∀ W, Calls Try.prog 26 #[.agg #[.int .i64 h, .int .i64 f, .int .i64 s, .int .i64 l, .int .i64 rd, .int .i64 ag, .int .i64 st, .int .i64 ep, .int .i64 mo, .int .i64 cd, .int .i64 ro, .int .i64 de, .int .i64 dn, .int .i64 0], .int .i64 (2 * pr + 2 * pw)] W fun e w' => e = .returned (.int .i64 j1) ∧ Below W.heap.size W w') := Lib.hid (fun W => by have := bticks_any ⟨h, f, s, l, rd, ag, st, ep, mo, cd, ro, de, dn, 0⟩ (2 * pr + 2 * pw) (by omega) (by dsimp only; omega) W; rwa [show Rat.ticksV (2 * pr + 2 * pw) s = j1 from K.join1] at this)
  have C2 : Hid (∀ W, Calls Try.prog 26 #[.agg #[.int .i64 h, .int .i64 f, .int .i64 s, .int .i64 l, .int .i64 rd, .int .i64 ag, .int .i64 st, .int .i64 ep, .int .i64 mo, .int .i64 cd, .int .i64 ro, .int .i64 de, .int .i64 dn, .int .i64 0], .int .i64 (2 * pa + se)] W fun e w' => e = .returned (.int .i64 j2) ∧ Below W.heap.size W w') := Lib.hid (fun W => by have := bticks_any ⟨h, f, s, l, rd, ag, st, ep, mo, cd, ro, de, dn, 0⟩ (2 * pa + se) (by omega) (by dsimp only; omega) W; rwa [show Rat.ticksV (2 * pa + se) s = j2 from K.join2] at this)
  clear K hob hoc
  unfold nval ncells cval ccells at *
  dsimp only at CG ⊢
  go_enter Try.func8, Try.ntmps8
  go_wp2_with fail
  refine (CG.out _).mono ?_; rintro e w1 ⟨rfl, hB⟩
  obtain ⟨hk1, hk2, hb1, hs1⟩ := boxes2 hB
  have HS1 := Lib.hid hs1
  have K1 := Lib.hid hk1
  have K2 := Lib.hid hk2
  have B1 := Lib.hid hb1
  clear hB hs1 hk1 hk2 hb1
  obtain ⟨c0, -, -, c3, c4, c5, c6, c7, c8, c9, -, -, -, -, -⟩ := conf15 K1.out
  have hne : w.heap.size ≠ w1.heap.size := by have := HS1.out; omega
  have HSK : Hid (∀ W, Below w1.heap.size w1 W → W.cell? ⟨w.heap.size, 0, none⟩ = some (.int .i64 n) ∧ W.cell? ⟨w.heap.size, 5, none⟩ = some (.int .i64 r) ∧ W.cell? ⟨w.heap.size, 6, none⟩ = some (.int .i64 v)) := Lib.hid (fun W hB => by
    obtain ⟨d0, -, -, d3, d4, d5, d6, d7, d8, d9, -, -, -, -, -⟩ := conf15 (K1.out.below2 hB (by have := HS1.out; omega))
    exact ⟨d0, d5, d6⟩)
  have HX0 : Hid (Bx w (w1.alloc (.cells #[.int .i64 h, .int .i64 f, .int .i64 s, .int .i64 0, .int .i64 0, .int .i64 0, .int .i64 0, .int .i64 0, .int .i64 0, .int .i64 0, .int .i64 0, .int .i64 0, .int .i64 0, .int .i64 0] 26)).drew 26 #[.int .i64 n, .slice lk lL lC, .int .i64 fl, .int .i64 a, .int .i64 b, .int .i64 r, .int .i64 v, .int .i64 pr, .int .i64 pw, .int .i64 pa, .int .i64 x1, .int .i64 x2, .int .i64 x3, .int .i64 x4, .int .i64 x5] #[.int .i64 0, .int .i64 0, .int .i64 0, .int .i64 0, .int .i64 0, .int .i64 0, .int .i64 0, .int .i64 0, .int .i64 0, .int .i64 0, .int .i64 0, .int .i64 0, .int .i64 0, .int .i64 0] w1.heap.size #[.int .i64 h, .int .i64 f, .int .i64 s, .int .i64 0, .int .i64 0, .int .i64 0, .int .i64 0, .int .i64 0, .int .i64 0, .int .i64 0, .int .i64 0, .int .i64 0, .int .i64 0, .int .i64 0]) := Lib.hid (by
    have hB : Below w1.heap.size w1 (w1.alloc (.cells #[.int .i64 h, .int .i64 f, .int .i64 s, .int .i64 0, .int .i64 0, .int .i64 0, .int .i64 0, .int .i64 0, .int .i64 0, .int .i64 0, .int .i64 0, .int .i64 0, .int .i64 0, .int .i64 0] 26)).drew := ((Below.refl _ _).alloc (Nat.le_refl _) _).drew
    exact ⟨B1.out.trans (hB.mono B1.out.size), K1.out.below hB, K2.out.below hB, Blk.below (Blk.new w1 _ _) (Below.refl _ _).drew, HS1.out⟩)
  have QW : Hid (IntKind.i64.wrap (n - 1) = h) := Lib.hid (by rw [← Q_hops.out]; simp only [IntKind.wrap_i64]; omega)
  go_upto_region 3 with fail
  go_cut [4] from 14 (fun p W => p = .pointer (some ⟨w1.heap.size, 0, none⟩) ∧ Hid (Bx w W 26 #[.int .i64 n, .slice lk lL lC, .int .i64 fl, .int .i64 a, .int .i64 b, .int .i64 r, .int .i64 v, .int .i64 pr, .int .i64 pw, .int .i64 pa, .int .i64 x1, .int .i64 x2, .int .i64 x3, .int .i64 x4, .int .i64 x5] #[.int .i64 0, .int .i64 0, .int .i64 0, .int .i64 0, .int .i64 0, .int .i64 0, .int .i64 0, .int .i64 0, .int .i64 0, .int .i64 0, .int .i64 0, .int .i64 0, .int .i64 0, .int .i64 0] w1.heap.size #[.int .i64 h, .int .i64 f, .int .i64 s, .int .i64 0, .int .i64 0, .int .i64 0, .int .i64 0, .int .i64 0, .int .i64 0, .int .i64 0, .int .i64 0, .int .i64 0, .int .i64 0, .int .i64 0]))
  case first =>
    clear c0 c3 c4 c5 c6 c7 c8 c9
    refine wp_region_noPanic ?_
    go_region_held_law (fun W => W.cell? ⟨w.heap.size, 0, none⟩ = some (.int .i64 n) ∧ W.cell? ⟨w.heap.size, 5, none⟩ = some (.int .i64 r) ∧ W.cell? ⟨w.heap.size, 6, none⟩ = some (.int .i64 v)) ((refine HSK.out _ ?_; (first | assumption | exact Below.refl _ _ | exact (Below.refl _ _).drew | exact (Below.refl _ _).drew.alloc (Nat.le_refl _) _ | exact (Below.refl _ _).alloc (Nat.le_refl _) _ | go_grown)))
      (first | (go_at_call 20; (with_reducible refine (CF.out _).mono ?_); rintro e w' ⟨rfl, rfl⟩) | (go_at_call 21; (with_reducible refine (CS.out _).mono ?_); rintro e w' ⟨rfl, rfl⟩))
    all_goals
      refine NoPanic.normal ?_
      go_wp2_with fail
      go_meet
      case rel =>
        rw [QW.out]
        exact ⟨rfl, HX0⟩
  case rest =>
    obtain ⟨rfl, HX⟩ := hcut
    generalize wc = w2 at *
    have hg : w.heap.size + 2 ≤ w1.heap.size := HX.out.far
    clear c0 c3 c4 c5 c6 c7 c8 c9 HSK HX0 QW hne K1 K2 B1 HS1 CG CF CS
    generalize w1.heap.size = g at *
    clear hg
    clear w1
    obtain ⟨-, -, -, c3, c4, c5, -, -, -, -, -, -, -, -, -⟩ := conf15 HX.out.conf
    obtain ⟨u0, -, -, -, -, -, -, -, -, -, -, -, -, -⟩ := nums14 HX.out.num
    go_wp2_with fail
    refine (CE.out _).mono ?_; rintro e w' ⟨rfl, rfl⟩
    clear c3 c4 c5 u0
    obtain ⟨-, -, -, -, -, c5, -, -, c8, -, -, -, -, -, -⟩ := conf15 HX.out.conf
    go_wp2_with (refine load_nm rfl _ rfl g rfl #[.int .i64 h, .int .i64 f, .int .i64 s, .int .i64 0, .int .i64 0, .int .i64 0, .int .i64 0, .int .i64 0, .int .i64 0, .int .i64 0, .int .i64 0, .int .i64 0, .int .i64 0, .int .i64 0] rfl HX.out.num ?_)
    refine (CW.out _).mono ?_; rintro e w3 ⟨rfl, hB⟩
    have HX3 := Lib.hid (HX.out.later hB)
    clear hB HX
    clear c5 c8
    obtain ⟨-, -, -, -, -, c5, -, c7, -, -, -, -, -, -, -⟩ := conf15 HX3.out.conf
    go_wp2_with (refine load_nm rfl _ rfl g rfl #[.int .i64 h, .int .i64 f, .int .i64 s, .int .i64 0, .int .i64 0, .int .i64 0, .int .i64 0, .int .i64 0, .int .i64 0, .int .i64 0, .int .i64 0, .int .i64 0, .int .i64 0, .int .i64 0] rfl HX3.out.num ?_)
    refine (CR.out _).mono ?_; rintro e w4 ⟨rfl, hB⟩
    have HX4 := Lib.hid (HX3.out.later hB)
    clear hB HX3
    clear c5 c7
    have QL : Hid (wrap64 (b * f) = l) := Lib.hid (by rw [Q_link.out]; unfold wrap64; omega)
    go_upto_region 7 with fail
    obtain ⟨-, -, -, -, c4, -, -, -, -, -, -, -, -, -, -⟩ := conf15 HX4.out.conf
    obtain ⟨-, u1, -, u3, -, -, -, -, -, -, -, -, -, -⟩ := nums14 HX4.out.num
    have fz := HX4.out.num.free
    go_upto_region 8 with fail
    rw [QL.out]
    have HX5 := Lib.hid (HX4.out.put 3 (.int .i64 l) #[.int .i64 h, .int .i64 f, .int .i64 s, .int .i64 l, .int .i64 0, .int .i64 0, .int .i64 0, .int .i64 0, .int .i64 0, .int .i64 0, .int .i64 0, .int .i64 0, .int .i64 0, .int .i64 0] rfl)
    clear c4 u1 u3 fz HX4
    generalize w4.setCell ⟨g, 3, none⟩ (.int .i64 l) = w5 at *
    obtain ⟨-, -, -, -, u4, -, -, -, -, -, -, -, -, -⟩ := nums14 HX5.out.num
    have fz := HX5.out.num.free
    go_upto_region 9 with fail
    rw [Q_read.out]
    have HX6 := Lib.hid (HX5.out.put 4 (.int .i64 rd) #[.int .i64 h, .int .i64 f, .int .i64 s, .int .i64 l, .int .i64 rd, .int .i64 0, .int .i64 0, .int .i64 0, .int .i64 0, .int .i64 0, .int .i64 0, .int .i64 0, .int .i64 0, .int .i64 0] rfl)
    clear u4 fz HX5
    generalize w5.setCell ⟨g, 4, none⟩ (.int .i64 rd) = w6 at *
    obtain ⟨-, -, -, -, u4, u5, -, -, -, -, -, -, -, -⟩ := nums14 HX6.out.num
    have fz := HX6.out.num.free
    go_upto_region 10 with fail
    rw [Q_agree.out]
    have HX7 := Lib.hid (HX6.out.put 5 (.int .i64 ag) #[.int .i64 h, .int .i64 f, .int .i64 s, .int .i64 l, .int .i64 rd, .int .i64 ag, .int .i64 0, .int .i64 0, .int .i64 0, .int .i64 0, .int .i64 0, .int .i64 0, .int .i64 0, .int .i64 0] rfl)
    clear u4 u5 fz HX6
    generalize w6.setCell ⟨g, 5, none⟩ (.int .i64 ag) = w7 at *
    obtain ⟨-, -, -, -, -, u5, u6, -, -, -, -, -, -, -⟩ := nums14 HX7.out.num
    have fz := HX7.out.num.free
    go_upto_region 11 with fail
    rw [Q_start.out]
    have HX8 := Lib.hid (HX7.out.put 6 (.int .i64 st) #[.int .i64 h, .int .i64 f, .int .i64 s, .int .i64 l, .int .i64 rd, .int .i64 ag, .int .i64 st, .int .i64 0, .int .i64 0, .int .i64 0, .int .i64 0, .int .i64 0, .int .i64 0, .int .i64 0] rfl)
    clear u5 u6 fz HX7
    generalize w7.setCell ⟨g, 6, none⟩ (.int .i64 st) = w8 at *
    obtain ⟨-, u1, -, -, u4, -, u6, u7, -, -, -, -, -, -⟩ := nums14 HX8.out.num
    have fz := HX8.out.num.free
    go_upto_region 12 with fail
    rw [Q_eps.out]
    have HX9 := Lib.hid (HX8.out.put 7 (.int .i64 ep) #[.int .i64 h, .int .i64 f, .int .i64 s, .int .i64 l, .int .i64 rd, .int .i64 ag, .int .i64 st, .int .i64 ep, .int .i64 0, .int .i64 0, .int .i64 0, .int .i64 0, .int .i64 0, .int .i64 0] rfl)
    clear u1 u4 u6 u7 fz HX8
    generalize w8.setCell ⟨g, 7, none⟩ (.int .i64 ep) = w9 at *
    obtain ⟨-, -, -, -, u4, -, u6, -, u8, -, -, -, -, -⟩ := nums14 HX9.out.num
    have fz := HX9.out.num.free
    go_upto_region 13 with fail
    rw [Q_most.out]
    have HX10 := Lib.hid (HX9.out.put 8 (.int .i64 mo) #[.int .i64 h, .int .i64 f, .int .i64 s, .int .i64 l, .int .i64 rd, .int .i64 ag, .int .i64 st, .int .i64 ep, .int .i64 mo, .int .i64 0, .int .i64 0, .int .i64 0, .int .i64 0, .int .i64 0] rfl)
    clear u4 u6 u8 fz HX9
    generalize w9.setCell ⟨g, 8, none⟩ (.int .i64 mo) = w10 at *
    obtain ⟨-, -, -, c3, c4, c5, c6, -, -, -, -, -, -, -, -⟩ := conf15 HX10.out.conf
    obtain ⟨-, -, -, -, -, -, -, -, -, u9, -, -, -, -⟩ := nums14 HX10.out.num
    have fz := HX10.out.num.free
    go_wp2_with fail
    refine (CC.out _).mono ?_; rintro e w' ⟨rfl, rfl⟩
    go_upto_region 14 with fail
    have HX11 := Lib.hid (HX10.out.put 9 (.int .i64 cd) #[.int .i64 h, .int .i64 f, .int .i64 s, .int .i64 l, .int .i64 rd, .int .i64 ag, .int .i64 st, .int .i64 ep, .int .i64 mo, .int .i64 cd, .int .i64 0, .int .i64 0, .int .i64 0, .int .i64 0] rfl)
    clear c3 c4 c5 c6 u9 fz HX10
    generalize w10.setCell ⟨g, 9, none⟩ (.int .i64 cd) = w11 at *
    obtain ⟨-, u1, -, -, -, -, -, u7, u8, u9, u10, -, -, -⟩ := nums14 HX11.out.num
    have fz := HX11.out.num.free
    go_upto_region 15 with fail
    rw [Q_rough.out]
    have HX12 := Lib.hid (HX11.out.put 10 (.int .i64 ro) #[.int .i64 h, .int .i64 f, .int .i64 s, .int .i64 l, .int .i64 rd, .int .i64 ag, .int .i64 st, .int .i64 ep, .int .i64 mo, .int .i64 cd, .int .i64 ro, .int .i64 0, .int .i64 0, .int .i64 0] rfl)
    clear u1 u7 u8 u9 u10 fz HX11
    generalize w11.setCell ⟨g, 10, none⟩ (.int .i64 ro) = w12 at *
    have HXd := Lib.hid (HX12.out.later (Below.refl _ _).drew)
    have HXS : Hid (∀ W ms, Bx w W 26 #[.int .i64 n, .slice lk lL lC, .int .i64 fl, .int .i64 a, .int .i64 b, .int .i64 r, .int .i64 v, .int .i64 pr, .int .i64 pw, .int .i64 pa, .int .i64 x1, .int .i64 x2, .int .i64 x3, .int .i64 x4, .int .i64 x5] #[.int .i64 0, .int .i64 0, .int .i64 0, .int .i64 0, .int .i64 0, .int .i64 0, .int .i64 0, .int .i64 0, .int .i64 0, .int .i64 0, .int .i64 0, .int .i64 0, .int .i64 0, .int .i64 0] g ms → (∃ x, ms = #[.int .i64 h, .int .i64 f, .int .i64 s, .int .i64 l, .int .i64 rd, .int .i64 ag, .int .i64 st, .int .i64 ep, .int .i64 mo, .int .i64 cd, .int .i64 ro, .int .i64 0, .int .i64 0, .int .i64 0].setIfInBounds 11 x) → W.cell? ⟨g, 1, none⟩ = some (.int .i64 f) ∧ W.cell? ⟨g, 3, none⟩ = some (.int .i64 l) ∧ W.cell? ⟨g, 7, none⟩ = some (.int .i64 ep)) := Lib.hid (fun W ms h hm => by
      obtain ⟨x, rfl⟩ := hm
      exact ⟨h.num.cell 1, h.num.cell 3, h.num.cell 7⟩)
    have QW1 : Hid (IntKind.i64.wrap (l + ep) = l + ep) := Lib.hid (by simp only [IntKind.wrap_i64]; omega)
    have QW2 : Hid (IntKind.i64.wrap (ov + IntKind.i64.wrap (2 * f)) = de) := Lib.hid (by rw [← Q_delta.out]; simp only [IntKind.wrap_i64]; omega)
    rw [← QW1.out] at CO
    obtain ⟨-, u1, -, u3, -, -, -, u7, -, -, -, -, -, -⟩ := nums14 HX12.out.num
    refine wp_region_held_drew (S := (fun W => W.cell? ⟨g, 1, none⟩ = some (.int .i64 f) ∧ W.cell? ⟨g, 3, none⟩ = some (.int .i64 l) ∧ W.cell? ⟨g, 7, none⟩ = some (.int .i64 ep))) (by kernel_rfl) ?_ (fun hHeld => ?_)
    · exact HXS.out _ _ HXd.out ⟨_, rfl⟩
    refine wpAnyH_take (i := 1) (v := ?_) rfl (by kernel_rfl) (by kernel_rfl) (by kernel_rfl) (fun _ _ _ h => h) (Or.inl ⟨by kernel_rfl, ?_⟩) (by assumption) ?_
    rotate_left 1
    focus (intro w hSw; clear hSw; go_simp; try with_reducible rfl)
    try simp only [Act.put, List.getElem_toArray, List.getElem_cons_succ, List.getElem_cons_zero, List.setIfInBounds_toArray, List.set_cons_zero, List.set_cons_succ]
    refine wpAnyH_take (i := 2) (v := ?_) rfl (by kernel_rfl) (by kernel_rfl) (by kernel_rfl) (fun _ _ _ h => h) (Or.inl ⟨by kernel_rfl, ?_⟩) (by assumption) ?_
    rotate_left 1
    focus (intro w hSw; obtain ⟨s1, s3, s7⟩ := hSw; go_simp; try with_reducible rfl)
    try simp only [Act.put, List.getElem_toArray, List.getElem_cons_succ, List.getElem_cons_zero, List.setIfInBounds_toArray, List.set_cons_zero, List.set_cons_succ]
    refine wpAnyH_take (i := 3) (v := ?_) rfl (by kernel_rfl) (by kernel_rfl) (by kernel_rfl) (fun _ _ _ h => h) (Or.inl ⟨by kernel_rfl, ?_⟩) (by assumption) ?_
    rotate_left 1
    focus (intro w hSw; clear hSw; go_simp; try with_reducible rfl)
    try simp only [Act.put, List.getElem_toArray, List.getElem_cons_succ, List.getElem_cons_zero, List.setIfInBounds_toArray, List.set_cons_zero, List.set_cons_succ]
    refine wpAnyH_take (i := 4) (v := ?_) rfl (by kernel_rfl) (by kernel_rfl) (by kernel_rfl) (fun _ _ _ h => h) (Or.inl ⟨by kernel_rfl, ?_⟩) (by assumption) ?_
    rotate_left 1
    focus (intro w hSw; obtain ⟨s1, s3, s7⟩ := hSw; go_simp; try with_reducible rfl)
    try simp only [Act.put, List.getElem_toArray, List.getElem_cons_succ, List.getElem_cons_zero, List.setIfInBounds_toArray, List.set_cons_zero, List.set_cons_succ]
    refine wpAnyH_take (i := 5) (v := ?_) rfl (by kernel_rfl) (by kernel_rfl) (by kernel_rfl) (fun _ _ _ h => h) (Or.inl ⟨by kernel_rfl, ?_⟩) (by assumption) ?_
    rotate_left 1
    focus (intro w hSw; clear hSw; go_simp; try with_reducible rfl)
    try simp only [Act.put, List.getElem_toArray, List.getElem_cons_succ, List.getElem_cons_zero, List.setIfInBounds_toArray, List.set_cons_zero, List.set_cons_succ]
    refine wpAnyH_take (i := 7) (v := ?_) rfl (by kernel_rfl) (by kernel_rfl) (by kernel_rfl) (fun _ _ _ h => h) (Or.inl ⟨by kernel_rfl, ?_⟩) (by assumption) ?_
    rotate_left 1
    focus (intro w hSw; clear hSw; go_simp; try with_reducible rfl)
    try simp only [Act.put, List.getElem_toArray, List.getElem_cons_succ, List.getElem_cons_zero, List.setIfInBounds_toArray, List.set_cons_zero, List.set_cons_succ]
    refine wpAnyH_take (i := 8) (v := ?_) rfl (by kernel_rfl) (by kernel_rfl) (by kernel_rfl) (fun _ _ _ h => h) (Or.inl ⟨by kernel_rfl, ?_⟩) (by assumption) ?_
    rotate_left 1
    focus (intro w hSw; obtain ⟨s1, s3, s7⟩ := hSw; go_simp; try with_reducible rfl)
    try simp only [Act.put, List.getElem_toArray, List.getElem_cons_succ, List.getElem_cons_zero, List.setIfInBounds_toArray, List.set_cons_zero, List.set_cons_succ]
    refine wpAnyH_take (i := 9) (v := ?_) rfl (by kernel_rfl) (by kernel_rfl) (by kernel_rfl) (fun _ _ _ h => h) (Or.inl ⟨by kernel_rfl, ?_⟩) (by assumption) ?_
    rotate_left 1
    focus (intro w hSw; clear hSw; go_simp; try with_reducible rfl)
    try simp only [Act.put, List.getElem_toArray, List.getElem_cons_succ, List.getElem_cons_zero, List.setIfInBounds_toArray, List.set_cons_zero, List.set_cons_succ]
    refine wpAnyH_ready (rs := [0]) (by kernel_rfl) (by simp) ?_
    refine AllReadyH.cons rfl (fun K hK => ?_) ?_
    · obtain ⟨u0, u1, u2, u3, u4, u5, u6, u7, u8, u9, u10, u11, u12, u13⟩ := nums14 HXd.out.num
      go_simp
      clear u0 u1 u2 u3 u4 u5 u6 u7 u8 u9 u10 u11 u12 u13
      refine hK.out _ _ ?_ (fun hHeld => ?_)
      · exact HXS.out _ _ HXd.out ⟨_, rfl⟩
      clear hK K
      refine wpAnyH_ready (rs := [6]) (by kernel_rfl) (by simp) ?_
      refine AllReadyH.cons rfl (fun K hK => ?_) ?_
      · go_simp
        go_wp2_with (go_at_call 25; (with_reducible refine (CO.out _).mono ?_); rintro e w13 ⟨rfl, hB⟩)
        refine hK.out _ _ ?_ (fun hHeld => ?_)
        · exact HXS.out _ _ (HXd.out.later hB) ⟨_, rfl⟩
        clear hK K
        refine wpAnyH_take (i := 10) (v := ?_) rfl (by kernel_rfl) (by kernel_rfl) (by kernel_rfl) (fun _ _ _ h => h) (Or.inl ⟨by kernel_rfl, ?_⟩) (by assumption) ?_
        rotate_left 1
        focus (intro w hSw; clear hSw; go_simp; try with_reducible rfl)
        try simp only [Act.put, List.getElem_toArray, List.getElem_cons_succ, List.getElem_cons_zero, List.setIfInBounds_toArray, List.set_cons_zero, List.set_cons_succ]
        refine wpAnyH_take (i := 11) (v := ?_) rfl (by kernel_rfl) (by kernel_rfl) (by kernel_rfl) (fun _ _ _ h => h) (Or.inl ⟨by kernel_rfl, ?_⟩) (by assumption) ?_
        rotate_left 1
        focus (intro w hSw; clear hSw; go_simp; try with_reducible rfl)
        try simp only [Act.put, List.getElem_toArray, List.getElem_cons_succ, List.getElem_cons_zero, List.setIfInBounds_toArray, List.set_cons_zero, List.set_cons_succ]
        refine wpAnyH_ready (rs := [12]) (by kernel_rfl) (by simp) ?_
        refine AllReadyH.cons rfl (fun K hK => ?_) ?_
        · have fz := (HXd.out.later hB).num.free
          have u11 : w13.cell? ⟨g, 11, none⟩ = some (.int .i64 0) := (HXd.out.later hB).num.cell 11
          go_simp
          refine hK.out _ _ ?_ (fun hHeld => ?_)
          · exact HXS.out _ _ ((HXd.out.later hB).put 11 _ _ rfl) ⟨_, rfl⟩
          clear hK K
          refine wpAnyH_done (by kernel_rfl) ?_ _
          rw [QW2.out]
          have HX15 := Lib.hid ((HXd.out.later hB).put 11 (.int .i64 de) #[.int .i64 h, .int .i64 f, .int .i64 s, .int .i64 l, .int .i64 rd, .int .i64 ag, .int .i64 st, .int .i64 ep, .int .i64 mo, .int .i64 cd, .int .i64 ro, .int .i64 de, .int .i64 0, .int .i64 0] rfl)
          clear hB hHeld HXd HX12 CO QW1 QW2 HXS fz u11 u1 u3 u7
          generalize w13.setCell ⟨g, 11, none⟩ (.int .i64 de) = w15 at *
          obtain ⟨-, -, -, -, -, -, -, u7, -, -, -, u11, -, -⟩ := nums14 HX15.out.num
          go_upto_region 17 with fail
          rw [Q_settled.out]
          clear u7 u11
          obtain ⟨-, -, -, -, -, -, -, -, -, c9, -, -, -, -, -⟩ := conf15 HX15.out.conf
          go_wp2_with (refine load_nm rfl _ rfl g rfl #[.int .i64 h, .int .i64 f, .int .i64 s, .int .i64 l, .int .i64 rd, .int .i64 ag, .int .i64 st, .int .i64 ep, .int .i64 mo, .int .i64 cd, .int .i64 ro, .int .i64 de, .int .i64 0, .int .i64 0] rfl HX15.out.num ?_)
          refine (CD.out _).mono ?_; rintro e w16 ⟨rfl, hB⟩
          have HX16 := Lib.hid (HX15.out.later hB)
          clear hB HX15
          clear c9
          obtain ⟨-, -, -, -, -, -, -, -, -, -, -, -, u12, -⟩ := nums14 HX16.out.num
          have fz := HX16.out.num.free
          go_upto_region 18 with fail
          have HX17 := Lib.hid (HX16.out.put 12 (.int .i64 dn) #[.int .i64 h, .int .i64 f, .int .i64 s, .int .i64 l, .int .i64 rd, .int .i64 ag, .int .i64 st, .int .i64 ep, .int .i64 mo, .int .i64 cd, .int .i64 ro, .int .i64 de, .int .i64 dn, .int .i64 0] rfl)
          clear u12 fz HX16
          generalize w16.setCell ⟨g, 12, none⟩ (.int .i64 dn) = w17 at *
          have HXd := Lib.hid (HX17.out.later (Below.refl _ _).drew)
          have HXS : Hid (∀ W ms, Bx w W 26 #[.int .i64 n, .slice lk lL lC, .int .i64 fl, .int .i64 a, .int .i64 b, .int .i64 r, .int .i64 v, .int .i64 pr, .int .i64 pw, .int .i64 pa, .int .i64 x1, .int .i64 x2, .int .i64 x3, .int .i64 x4, .int .i64 x5] #[.int .i64 0, .int .i64 0, .int .i64 0, .int .i64 0, .int .i64 0, .int .i64 0, .int .i64 0, .int .i64 0, .int .i64 0, .int .i64 0, .int .i64 0, .int .i64 0, .int .i64 0, .int .i64 0] g ms → W.cell? ⟨w.heap.size, 4, none⟩ = some (.int .i64 b) ∧ W.cell? ⟨w.heap.size, 7, none⟩ = some (.int .i64 pr) ∧ W.cell? ⟨w.heap.size, 8, none⟩ = some (.int .i64 pw) ∧ W.cell? ⟨w.heap.size, 9, none⟩ = some (.int .i64 pa)) := Lib.hid (fun W ms h => ⟨h.conf.cell 4, h.conf.cell 7, h.conf.cell 8, h.conf.cell 9⟩)
          have QW1 : Hid (IntKind.i64.wrap (IntKind.i64.wrap (2 * pr) + IntKind.i64.wrap (2 * pw)) = 2 * pr + 2 * pw) := Lib.hid (by simp only [IntKind.wrap_i64]; omega)
          have QW2 : Hid (IntKind.i64.wrap (IntKind.i64.wrap (2 * pa) + se) = 2 * pa + se) := Lib.hid (by simp only [IntKind.wrap_i64]; omega)
          have QW3 : Hid (IntKind.i64.wrap (IntKind.i64.wrap (IntKind.i64.wrap (IntKind.i64.wrap (2 * b) + 8) + j1) + j2) = jn) := Lib.hid (by rw [← Q_join.out]; simp only [IntKind.wrap_i64]; omega)
          have HO : Hid ((#[.int .i64 h, .int .i64 f, .int .i64 s, .int .i64 l, .int .i64 rd, .int .i64 ag, .int .i64 st, .int .i64 ep, .int .i64 mo, .int .i64 cd, .int .i64 ro, .int .i64 de, .int .i64 dn, .int .i64 jn] : Array Value).all (·.oneCell') = true) := Lib.hid (nm_one ⟨h, f, s, l, rd, ag, st, ep, mo, cd, ro, de, dn, jn⟩)
          rw [← QW1.out] at C1
          rw [← QW2.out] at C2
          go_cut [] from 10 (fun W => Hid (Bx w W 26 #[.int .i64 n, .slice lk lL lC, .int .i64 fl, .int .i64 a, .int .i64 b, .int .i64 r, .int .i64 v, .int .i64 pr, .int .i64 pw, .int .i64 pa, .int .i64 x1, .int .i64 x2, .int .i64 x3, .int .i64 x4, .int .i64 x5] #[.int .i64 0, .int .i64 0, .int .i64 0, .int .i64 0, .int .i64 0, .int .i64 0, .int .i64 0, .int .i64 0, .int .i64 0, .int .i64 0, .int .i64 0, .int .i64 0, .int .i64 0, .int .i64 0] g #[.int .i64 h, .int .i64 f, .int .i64 s, .int .i64 l, .int .i64 rd, .int .i64 ag, .int .i64 st, .int .i64 ep, .int .i64 mo, .int .i64 cd, .int .i64 ro, .int .i64 de, .int .i64 dn, .int .i64 jn]))
          case first =>
            refine wp_region_held_drew (S := (fun W => W.cell? ⟨w.heap.size, 4, none⟩ = some (.int .i64 b) ∧ W.cell? ⟨w.heap.size, 7, none⟩ = some (.int .i64 pr) ∧ W.cell? ⟨w.heap.size, 8, none⟩ = some (.int .i64 pw) ∧ W.cell? ⟨w.heap.size, 9, none⟩ = some (.int .i64 pa))) (by kernel_rfl) ?_ (fun hHeld => ?_)
            · exact HXS.out _ _ HXd.out
            refine wpAnyH_take (i := 0) (v := ?_) rfl (by kernel_rfl) (by kernel_rfl) (by kernel_rfl) (fun _ _ _ h => h) (Or.inl ⟨by kernel_rfl, ?_⟩) (by assumption) ?_
            rotate_left 1
            focus (intro w hSw; clear hSw; go_simp; try with_reducible rfl)
            try simp only [Act.put, List.getElem_toArray, List.getElem_cons_succ, List.getElem_cons_zero, List.setIfInBounds_toArray, List.set_cons_zero, List.set_cons_succ]
            refine wpAnyH_take (i := 1) (v := ?_) rfl (by kernel_rfl) (by kernel_rfl) (by kernel_rfl) (fun _ _ _ h => h) (Or.inl ⟨by kernel_rfl, ?_⟩) (by assumption) ?_
            rotate_left 1
            focus (intro w hSw; obtain ⟨s4, s7, s8, s9⟩ := hSw; go_simp; try with_reducible rfl)
            try simp only [Act.put, List.getElem_toArray, List.getElem_cons_succ, List.getElem_cons_zero, List.setIfInBounds_toArray, List.set_cons_zero, List.set_cons_succ]
            refine wpAnyH_take (i := 2) (v := ?_) rfl (by kernel_rfl) (by kernel_rfl) (by kernel_rfl) (fun _ _ _ h => h) (Or.inl ⟨by kernel_rfl, ?_⟩) (by assumption) ?_
            rotate_left 1
            focus (intro w hSw; clear hSw; go_simp; try with_reducible rfl)
            try simp only [Act.put, List.getElem_toArray, List.getElem_cons_succ, List.getElem_cons_zero, List.setIfInBounds_toArray, List.set_cons_zero, List.set_cons_succ]
            refine wpAnyH_take (i := 3) (v := ?_) rfl (by kernel_rfl) (by kernel_rfl) (by kernel_rfl) (fun _ _ _ h => h) (Or.inl ⟨by kernel_rfl, ?_⟩) (by assumption) ?_
            rotate_left 1
            focus (intro w hSw; clear hSw; go_simp; try with_reducible rfl)
            try simp only [Act.put, List.getElem_toArray, List.getElem_cons_succ, List.getElem_cons_zero, List.setIfInBounds_toArray, List.set_cons_zero, List.set_cons_succ]
            refine wpAnyH_take (i := 5) (v := ?_) rfl (by kernel_rfl) (by kernel_rfl) (by kernel_rfl) (fun _ _ _ h => h) (Or.inl ⟨by kernel_rfl, ?_⟩) (by assumption) ?_
            rotate_left 1
            focus (intro w hSw; clear hSw; go_simp; try with_reducible rfl)
            try simp only [Act.put, List.getElem_toArray, List.getElem_cons_succ, List.getElem_cons_zero, List.setIfInBounds_toArray, List.set_cons_zero, List.set_cons_succ]
            refine wpAnyH_take (i := 6) (v := ?_) rfl (by kernel_rfl) (by kernel_rfl) (by kernel_rfl) (fun _ _ _ h => h) (Or.inl ⟨by kernel_rfl, ?_⟩) (by assumption) ?_
            rotate_left 1
            focus (intro w hSw; obtain ⟨s4, s7, s8, s9⟩ := hSw; go_simp; try with_reducible rfl)
            try simp only [Act.put, List.getElem_toArray, List.getElem_cons_succ, List.getElem_cons_zero, List.setIfInBounds_toArray, List.set_cons_zero, List.set_cons_succ]
            refine wpAnyH_take (i := 7) (v := ?_) rfl (by kernel_rfl) (by kernel_rfl) (by kernel_rfl) (fun _ _ _ h => h) (Or.inl ⟨by kernel_rfl, ?_⟩) (by assumption) ?_
            rotate_left 1
            focus (intro w hSw; clear hSw; go_simp; try with_reducible rfl)
            try simp only [Act.put, List.getElem_toArray, List.getElem_cons_succ, List.getElem_cons_zero, List.setIfInBounds_toArray, List.set_cons_zero, List.set_cons_succ]
            refine wpAnyH_take (i := 8) (v := ?_) rfl (by kernel_rfl) (by kernel_rfl) (by kernel_rfl) (fun _ _ _ h => h) (Or.inl ⟨by kernel_rfl, ?_⟩) (by assumption) ?_
            rotate_left 1
            focus (intro w hSw; clear hSw; go_simp; try with_reducible rfl)
            try simp only [Act.put, List.getElem_toArray, List.getElem_cons_succ, List.getElem_cons_zero, List.setIfInBounds_toArray, List.set_cons_zero, List.set_cons_succ]
            refine wpAnyH_take (i := 9) (v := ?_) rfl (by kernel_rfl) (by kernel_rfl) (by kernel_rfl) (fun _ _ _ h => h) (Or.inl ⟨by kernel_rfl, ?_⟩) (by assumption) ?_
            rotate_left 1
            focus (intro w hSw; obtain ⟨s4, s7, s8, s9⟩ := hSw; go_simp; try with_reducible rfl)
            try simp only [Act.put, List.getElem_toArray, List.getElem_cons_succ, List.getElem_cons_zero, List.setIfInBounds_toArray, List.set_cons_zero, List.set_cons_succ]
            refine wpAnyH_take (i := 10) (v := ?_) rfl (by kernel_rfl) (by kernel_rfl) (by kernel_rfl) (fun _ _ _ h => h) (Or.inl ⟨by kernel_rfl, ?_⟩) (by assumption) ?_
            rotate_left 1
            focus (intro w hSw; clear hSw; go_simp; try with_reducible rfl)
            try simp only [Act.put, List.getElem_toArray, List.getElem_cons_succ, List.getElem_cons_zero, List.setIfInBounds_toArray, List.set_cons_zero, List.set_cons_succ]
            refine wpAnyH_take (i := 11) (v := ?_) rfl (by kernel_rfl) (by kernel_rfl) (by kernel_rfl) (fun _ _ _ h => h) (Or.inl ⟨by kernel_rfl, ?_⟩) (by assumption) ?_
            rotate_left 1
            focus (intro w hSw; clear hSw; go_simp; try with_reducible rfl)
            try simp only [Act.put, List.getElem_toArray, List.getElem_cons_succ, List.getElem_cons_zero, List.setIfInBounds_toArray, List.set_cons_zero, List.set_cons_succ]
            refine wpAnyH_take (i := 15) (v := ?_) rfl (by kernel_rfl) (by kernel_rfl) (by kernel_rfl) (fun _ _ _ h => h) (Or.inl ⟨by kernel_rfl, ?_⟩) (by assumption) ?_
            rotate_left 1
            focus (intro w hSw; clear hSw; go_simp; try with_reducible rfl)
            try simp only [Act.put, List.getElem_toArray, List.getElem_cons_succ, List.getElem_cons_zero, List.setIfInBounds_toArray, List.set_cons_zero, List.set_cons_succ]
            refine wpAnyH_take (i := 16) (v := ?_) rfl (by kernel_rfl) (by kernel_rfl) (by kernel_rfl) (fun _ _ _ h => h) (Or.inl ⟨by kernel_rfl, ?_⟩) (by assumption) ?_
            rotate_left 1
            focus (intro w hSw; obtain ⟨s4, s7, s8, s9⟩ := hSw; go_simp; try with_reducible rfl)
            try simp only [Act.put, List.getElem_toArray, List.getElem_cons_succ, List.getElem_cons_zero, List.setIfInBounds_toArray, List.set_cons_zero, List.set_cons_succ]
            refine wpAnyH_take (i := 17) (v := ?_) rfl (by kernel_rfl) (by kernel_rfl) (by kernel_rfl) (fun _ _ _ h => h) (Or.inl ⟨by kernel_rfl, ?_⟩) (by assumption) ?_
            rotate_left 1
            focus (intro w hSw; clear hSw; go_simp; try with_reducible rfl)
            try simp only [Act.put, List.getElem_toArray, List.getElem_cons_succ, List.getElem_cons_zero, List.setIfInBounds_toArray, List.set_cons_zero, List.set_cons_succ]
            refine wpAnyH_take (i := 18) (v := ?_) rfl (by kernel_rfl) (by kernel_rfl) (by kernel_rfl) (fun _ _ _ h => h) (Or.inl ⟨by kernel_rfl, ?_⟩) (by assumption) ?_
            rotate_left 1
            focus (intro w hSw; clear hSw; go_simp; try with_reducible rfl)
            try simp only [Act.put, List.getElem_toArray, List.getElem_cons_succ, List.getElem_cons_zero, List.setIfInBounds_toArray, List.set_cons_zero, List.set_cons_succ]
            refine wpAnyH_take (i := 19) (v := ?_) rfl (by kernel_rfl) (by kernel_rfl) (by kernel_rfl) (fun _ _ _ h => h) (Or.inl ⟨by kernel_rfl, ?_⟩) (by assumption) ?_
            rotate_left 1
            focus (intro w hSw; clear hSw; go_simp; try with_reducible rfl)
            try simp only [Act.put, List.getElem_toArray, List.getElem_cons_succ, List.getElem_cons_zero, List.setIfInBounds_toArray, List.set_cons_zero, List.set_cons_succ]
            refine wpAnyH_ready (rs := [4, 14]) (by kernel_rfl) (by simp) ?_
            refine AllReadyH.cons rfl (fun K hK => ?_) ?_
            · obtain ⟨u0, u1, u2, u3, u4, u5, u6, u7, u8, u9, u10, u11, u12, u13⟩ := nums14 HXd.out.num
              go_simp
              clear u0 u1 u2 u3 u4 u5 u6 u7 u8 u9 u10 u11 u12 u13
              refine hK.out _ _ ?_ (fun hHeld => ?_)
              · exact HXS.out _ _ HXd.out
              clear hK K
              refine wpAnyH_ready (rs := [12, 14]) (by kernel_rfl) (by simp) ?_
              refine AllReadyH.cons rfl (fun K hK => ?_) ?_
              · go_simp
                go_wp2_with (go_at_call 26; (with_reducible refine (C1.out _).mono ?_); rintro e wA ⟨rfl, hA⟩)
                refine hK.out _ _ ?_ (fun hHeld => ?_)
                · exact HXS.out _ _ (HXd.out.later hA)
                clear hK K
                refine wpAnyH_take (i := 13) (v := ?_) rfl (by kernel_rfl) (by kernel_rfl) (by kernel_rfl) (fun _ _ _ h => h) (Or.inl ⟨by kernel_rfl, ?_⟩) (by assumption) ?_
                rotate_left 1
                focus (intro w hSw; clear hSw; go_simp; try with_reducible rfl)
                try simp only [Act.put, List.getElem_toArray, List.getElem_cons_succ, List.getElem_cons_zero, List.setIfInBounds_toArray, List.set_cons_zero, List.set_cons_succ]
                refine wpAnyH_ready (rs := [14]) (by kernel_rfl) (by simp) ?_
                refine AllReadyH.cons rfl (fun K hK => ?_) ?_
                · obtain ⟨u0, u1, u2, u3, u4, u5, u6, u7, u8, u9, u10, u11, u12, u13⟩ := nums14 (HXd.out.later hA).num
                  go_simp
                  clear u0 u1 u2 u3 u4 u5 u6 u7 u8 u9 u10 u11 u12 u13
                  refine hK.out _ _ ?_ (fun hHeld => ?_)
                  · exact HXS.out _ _ (HXd.out.later hA)
                  clear hK K
                  refine wpAnyH_ready (rs := [20]) (by kernel_rfl) (by simp) ?_
                  refine AllReadyH.cons rfl (fun K hK => ?_) ?_
                  · go_simp
                    go_wp2_with (go_at_call 26; (with_reducible refine (C2.out _).mono ?_); rintro e wB ⟨rfl, hB⟩)
                    refine hK.out _ _ ?_ (fun hHeld => ?_)
                    · exact HXS.out _ _ ((HXd.out.later hA).later hB)
                    clear hK K
                    refine wpAnyH_take (i := 21) (v := ?_) rfl (by kernel_rfl) (by kernel_rfl) (by kernel_rfl) (fun _ _ _ h => h) (Or.inl ⟨by kernel_rfl, ?_⟩) (by assumption) ?_
                    rotate_left 1
                    focus (intro w hSw; clear hSw; go_simp; try with_reducible rfl)
                    try simp only [Act.put, List.getElem_toArray, List.getElem_cons_succ, List.getElem_cons_zero, List.setIfInBounds_toArray, List.set_cons_zero, List.set_cons_succ]
                    refine wpAnyH_take (i := 22) (v := ?_) rfl (by kernel_rfl) (by kernel_rfl) (by kernel_rfl) (fun _ _ _ h => h) (Or.inl ⟨by kernel_rfl, ?_⟩) (by assumption) ?_
                    rotate_left 1
                    focus (intro w hSw; clear hSw; go_simp; try with_reducible rfl)
                    try simp only [Act.put, List.getElem_toArray, List.getElem_cons_succ, List.getElem_cons_zero, List.setIfInBounds_toArray, List.set_cons_zero, List.set_cons_succ]
                    refine wpAnyH_ready (rs := [23]) (by kernel_rfl) (by simp) ?_
                    refine AllReadyH.cons rfl (fun K hK => ?_) ?_
                    · have fz := ((HXd.out.later hA).later hB).num.free
                      have u13 : wB.cell? ⟨g, 13, none⟩ = some (.int .i64 0) := ((HXd.out.later hA).later hB).num.cell 13
                      go_simp
                      refine hK.out _ _ ?_ (fun hHeld => ?_)
                      · exact HXS.out _ _ (((HXd.out.later hA).later hB).put 13 _ _ rfl)
                      clear hK K
                      refine wpAnyH_done (by kernel_rfl) ?_ _
                      rw [QW3.out]
                      have HXe := Lib.hid (((HXd.out.later hA).later hB).put 13 (.int .i64 jn) #[.int .i64 h, .int .i64 f, .int .i64 s, .int .i64 l, .int .i64 rd, .int .i64 ag, .int .i64 st, .int .i64 ep, .int .i64 mo, .int .i64 cd, .int .i64 ro, .int .i64 de, .int .i64 dn, .int .i64 jn] rfl)
                      clear hA hB HXd QW1 QW2 QW3 HXS fz u13 C1 C2
                      generalize wB.setCell ⟨g, 13, none⟩ (.int .i64 jn) = wE at *
                      go_wp2_with fail
                      go_meet
                      case rel => exact HXe
                    exact AllReadyH.nil
                  exact AllReadyH.nil
                exact AllReadyH.nil
              refine AllReadyH.cons rfl (fun K hK => ?_) ?_
              · obtain ⟨u0, u1, u2, u3, u4, u5, u6, u7, u8, u9, u10, u11, u12, u13⟩ := nums14 HXd.out.num
                go_simp
                clear u0 u1 u2 u3 u4 u5 u6 u7 u8 u9 u10 u11 u12 u13
                refine hK.out _ _ ?_ (fun hHeld => ?_)
                · exact HXS.out _ _ HXd.out
                clear hK K
                refine wpAnyH_ready (rs := [12]) (by kernel_rfl) (by simp) ?_
                refine AllReadyH.cons rfl (fun K hK => ?_) ?_
                · go_simp
                  go_wp2_with (go_at_call 26; (with_reducible refine (C1.out _).mono ?_); rintro e wA ⟨rfl, hA⟩)
                  refine hK.out _ _ ?_ (fun hHeld => ?_)
                  · exact HXS.out _ _ (HXd.out.later hA)
                  clear hK K
                  refine wpAnyH_take (i := 13) (v := ?_) rfl (by kernel_rfl) (by kernel_rfl) (by kernel_rfl) (fun _ _ _ h => h) (Or.inl ⟨by kernel_rfl, ?_⟩) (by assumption) ?_
                  rotate_left 1
                  focus (intro w hSw; clear hSw; go_simp; try with_reducible rfl)
                  try simp only [Act.put, List.getElem_toArray, List.getElem_cons_succ, List.getElem_cons_zero, List.setIfInBounds_toArray, List.set_cons_zero, List.set_cons_succ]
                  refine wpAnyH_ready (rs := [20]) (by kernel_rfl) (by simp) ?_
                  refine AllReadyH.cons rfl (fun K hK => ?_) ?_
                  · go_simp
                    go_wp2_with (go_at_call 26; (with_reducible refine (C2.out _).mono ?_); rintro e wB ⟨rfl, hB⟩)
                    refine hK.out _ _ ?_ (fun hHeld => ?_)
                    · exact HXS.out _ _ ((HXd.out.later hA).later hB)
                    clear hK K
                    refine wpAnyH_take (i := 21) (v := ?_) rfl (by kernel_rfl) (by kernel_rfl) (by kernel_rfl) (fun _ _ _ h => h) (Or.inl ⟨by kernel_rfl, ?_⟩) (by assumption) ?_
                    rotate_left 1
                    focus (intro w hSw; clear hSw; go_simp; try with_reducible rfl)
                    try simp only [Act.put, List.getElem_toArray, List.getElem_cons_succ, List.getElem_cons_zero, List.setIfInBounds_toArray, List.set_cons_zero, List.set_cons_succ]
                    refine wpAnyH_take (i := 22) (v := ?_) rfl (by kernel_rfl) (by kernel_rfl) (by kernel_rfl) (fun _ _ _ h => h) (Or.inl ⟨by kernel_rfl, ?_⟩) (by assumption) ?_
                    rotate_left 1
                    focus (intro w hSw; clear hSw; go_simp; try with_reducible rfl)
                    try simp only [Act.put, List.getElem_toArray, List.getElem_cons_succ, List.getElem_cons_zero, List.setIfInBounds_toArray, List.set_cons_zero, List.set_cons_succ]
                    refine wpAnyH_ready (rs := [23]) (by kernel_rfl) (by simp) ?_
                    refine AllReadyH.cons rfl (fun K hK => ?_) ?_
                    · have fz := ((HXd.out.later hA).later hB).num.free
                      have u13 : wB.cell? ⟨g, 13, none⟩ = some (.int .i64 0) := ((HXd.out.later hA).later hB).num.cell 13
                      go_simp
                      refine hK.out _ _ ?_ (fun hHeld => ?_)
                      · exact HXS.out _ _ (((HXd.out.later hA).later hB).put 13 _ _ rfl)
                      clear hK K
                      refine wpAnyH_done (by kernel_rfl) ?_ _
                      rw [QW3.out]
                      have HXe := Lib.hid (((HXd.out.later hA).later hB).put 13 (.int .i64 jn) #[.int .i64 h, .int .i64 f, .int .i64 s, .int .i64 l, .int .i64 rd, .int .i64 ag, .int .i64 st, .int .i64 ep, .int .i64 mo, .int .i64 cd, .int .i64 ro, .int .i64 de, .int .i64 dn, .int .i64 jn] rfl)
                      clear hA hB HXd QW1 QW2 QW3 HXS fz u13 C1 C2
                      generalize wB.setCell ⟨g, 13, none⟩ (.int .i64 jn) = wE at *
                      go_wp2_with fail
                      go_meet
                      case rel => exact HXe
                    exact AllReadyH.nil
                  exact AllReadyH.nil
                exact AllReadyH.nil
              exact AllReadyH.nil
            refine AllReadyH.cons rfl (fun K hK => ?_) ?_
            · obtain ⟨u0, u1, u2, u3, u4, u5, u6, u7, u8, u9, u10, u11, u12, u13⟩ := nums14 HXd.out.num
              go_simp
              clear u0 u1 u2 u3 u4 u5 u6 u7 u8 u9 u10 u11 u12 u13
              refine hK.out _ _ ?_ (fun hHeld => ?_)
              · exact HXS.out _ _ HXd.out
              clear hK K
              refine wpAnyH_ready (rs := [4]) (by kernel_rfl) (by simp) ?_
              refine AllReadyH.cons rfl (fun K hK => ?_) ?_
              · obtain ⟨u0, u1, u2, u3, u4, u5, u6, u7, u8, u9, u10, u11, u12, u13⟩ := nums14 HXd.out.num
                go_simp
                clear u0 u1 u2 u3 u4 u5 u6 u7 u8 u9 u10 u11 u12 u13
                refine hK.out _ _ ?_ (fun hHeld => ?_)
                · exact HXS.out _ _ HXd.out
                clear hK K
                refine wpAnyH_ready (rs := [12]) (by kernel_rfl) (by simp) ?_
                refine AllReadyH.cons rfl (fun K hK => ?_) ?_
                · go_simp
                  go_wp2_with (go_at_call 26; (with_reducible refine (C1.out _).mono ?_); rintro e wA ⟨rfl, hA⟩)
                  refine hK.out _ _ ?_ (fun hHeld => ?_)
                  · exact HXS.out _ _ (HXd.out.later hA)
                  clear hK K
                  refine wpAnyH_take (i := 13) (v := ?_) rfl (by kernel_rfl) (by kernel_rfl) (by kernel_rfl) (fun _ _ _ h => h) (Or.inl ⟨by kernel_rfl, ?_⟩) (by assumption) ?_
                  rotate_left 1
                  focus (intro w hSw; clear hSw; go_simp; try with_reducible rfl)
                  try simp only [Act.put, List.getElem_toArray, List.getElem_cons_succ, List.getElem_cons_zero, List.setIfInBounds_toArray, List.set_cons_zero, List.set_cons_succ]
                  refine wpAnyH_ready (rs := [20]) (by kernel_rfl) (by simp) ?_
                  refine AllReadyH.cons rfl (fun K hK => ?_) ?_
                  · go_simp
                    go_wp2_with (go_at_call 26; (with_reducible refine (C2.out _).mono ?_); rintro e wB ⟨rfl, hB⟩)
                    refine hK.out _ _ ?_ (fun hHeld => ?_)
                    · exact HXS.out _ _ ((HXd.out.later hA).later hB)
                    clear hK K
                    refine wpAnyH_take (i := 21) (v := ?_) rfl (by kernel_rfl) (by kernel_rfl) (by kernel_rfl) (fun _ _ _ h => h) (Or.inl ⟨by kernel_rfl, ?_⟩) (by assumption) ?_
                    rotate_left 1
                    focus (intro w hSw; clear hSw; go_simp; try with_reducible rfl)
                    try simp only [Act.put, List.getElem_toArray, List.getElem_cons_succ, List.getElem_cons_zero, List.setIfInBounds_toArray, List.set_cons_zero, List.set_cons_succ]
                    refine wpAnyH_take (i := 22) (v := ?_) rfl (by kernel_rfl) (by kernel_rfl) (by kernel_rfl) (fun _ _ _ h => h) (Or.inl ⟨by kernel_rfl, ?_⟩) (by assumption) ?_
                    rotate_left 1
                    focus (intro w hSw; clear hSw; go_simp; try with_reducible rfl)
                    try simp only [Act.put, List.getElem_toArray, List.getElem_cons_succ, List.getElem_cons_zero, List.setIfInBounds_toArray, List.set_cons_zero, List.set_cons_succ]
                    refine wpAnyH_ready (rs := [23]) (by kernel_rfl) (by simp) ?_
                    refine AllReadyH.cons rfl (fun K hK => ?_) ?_
                    · have fz := ((HXd.out.later hA).later hB).num.free
                      have u13 : wB.cell? ⟨g, 13, none⟩ = some (.int .i64 0) := ((HXd.out.later hA).later hB).num.cell 13
                      go_simp
                      refine hK.out _ _ ?_ (fun hHeld => ?_)
                      · exact HXS.out _ _ (((HXd.out.later hA).later hB).put 13 _ _ rfl)
                      clear hK K
                      refine wpAnyH_done (by kernel_rfl) ?_ _
                      rw [QW3.out]
                      have HXe := Lib.hid (((HXd.out.later hA).later hB).put 13 (.int .i64 jn) #[.int .i64 h, .int .i64 f, .int .i64 s, .int .i64 l, .int .i64 rd, .int .i64 ag, .int .i64 st, .int .i64 ep, .int .i64 mo, .int .i64 cd, .int .i64 ro, .int .i64 de, .int .i64 dn, .int .i64 jn] rfl)
                      clear hA hB HXd QW1 QW2 QW3 HXS fz u13 C1 C2
                      generalize wB.setCell ⟨g, 13, none⟩ (.int .i64 jn) = wE at *
                      go_wp2_with fail
                      go_meet
                      case rel => exact HXe
                    exact AllReadyH.nil
                  exact AllReadyH.nil
                exact AllReadyH.nil
              exact AllReadyH.nil
            exact AllReadyH.nil
          case rest =>
            have HXe := hcut
            clear hcut
            generalize wc = wE at *
            go_upto_region 19 with fail
            refine open_end (by assumption) ?_
            intro Q2 K2 HQ2 hK2
            go_wp2_with (first | (refine load_nm rfl _ rfl g rfl #[.int .i64 h, .int .i64 f, .int .i64 s, .int .i64 l, .int .i64 rd, .int .i64 ag, .int .i64 st, .int .i64 ep, .int .i64 mo, .int .i64 cd, .int .i64 ro, .int .i64 de, .int .i64 dn, .int .i64 jn] rfl HXe.out.num ?_) | (refine store_nm rfl _ _ rfl (w.heap.size + 1) #[.int .i64 h, .int .i64 f, .int .i64 s, .int .i64 l, .int .i64 rd, .int .i64 ag, .int .i64 st, .int .i64 ep, .int .i64 mo, .int .i64 cd, .int .i64 ro, .int .i64 de, .int .i64 dn, .int .i64 jn] rfl rfl rfl HO.out #[.int .i64 0, .int .i64 0, .int .i64 0, .int .i64 0, .int .i64 0, .int .i64 0, .int .i64 0, .int .i64 0, .int .i64 0, .int .i64 0, .int .i64 0, .int .i64 0, .int .i64 0, .int .i64 0] HXe.out.res rfl ?_))
            refine HQ2.out _ _ ?_
            exact bodyPost_ret (results_nm rfl _ _ (w.heap.size + 1) #[.int .i64 h, .int .i64 f, .int .i64 s, .int .i64 l, .int .i64 rd, .int .i64 ag, .int .i64 st, .int .i64 ep, .int .i64 mo, .int .i64 cd, .int .i64 ro, .int .i64 de, .int .i64 dn, .int .i64 jn] _ rfl rfl (HXe.out.res.setRow _) rfl) rfl ⟨rfl, below_setRow HXe.out.below (by omega) _⟩
        exact AllReadyH.nil
      exact AllReadyH.nil
    exact AllReadyH.nil
end Go.Proofs.Ytbbenfjfdmnpmaa.Bnd
