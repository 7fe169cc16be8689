/- The document's own Of (layer 26). Written by gen/bnd_of.py. -/
import Derived.Test.YtbbenfjfdmnpmaaBndK
import Derived.Deep.RegionHeld3
import Derived.BigQuiet
import Derived.StillTailTactics
import Derived.Deep.RegionHeldLaw
namespace Go.Proofs.Ytbbenfjfdmnpmaa.Bnd
open Go.ChangeShapes Go.WideShapes Go.ChangeAt Go.RowKit
open Go.Proofs.Ytbbenfjfdmnpmaa.Rw
set_option linter.unusedVariables false
set_option linter.unusedSimpArgs false
set_option maxRecDepth 100000 in
set_option maxHeartbeats 4000000 in
theorem brof_good (c : Cf) (g0 : Good c) (w : World) :
    Calls Try.prog 12 #[cval c] w fun e w' => e = .returned (nval (num c)) ∧ Below w.heap.size w w' := by
  obtain ⟨m, x, y, z, ov, se, j1, j2, K⟩ := kit_of g0
  have hob := (way_bdC g0).1
  rw [K.num]
  obtain ⟨n, lk, lL, lC, lS, fl, a, b, r, v, pr, pw, pa, x1, x2, x3, x4, x5⟩ := c
  obtain ⟨h, f, s, l, rd, ag, st, ep, mo, cd, ro, de, dn, jn⟩ := m
  have Q_hops : Hid (n - 1 = h) := Lib.hid K.hops
  have Q_link : Hid (b * f = l) := Lib.hid K.link
  have Q_read : Hid (x + y = rd) := Lib.hid K.read
  have Q_agree : Hid (2 * rd + 2 = ag) := Lib.hid K.agree
  have Q_start : Hid (ag + z = st) := Lib.hid K.start
  have Q_eps : Hid (st + 2 * rd + 2 + z + 2 * f = ep) := Lib.hid K.eps
  have Q_most : Hid (st + rd + 2 = mo) := Lib.hid K.most
  have Q_rough : Hid (ep + cd + mo + z + 4 * f = ro) := Lib.hid K.rough
  have Q_over : Hid (h * (l + ep) = ov) := Lib.hid K.over
  have Q_delta : Hid (ov + 2 * f = de) := Lib.hid K.delta
  have Q_settled : Hid (2 * ep + 2 * de = se) := Lib.hid K.settled
  have Q_join : Hid (2 * b + 8 + j1 + j2 = jn) := Lib.hid K.join
  obtain ⟨p0, q0⟩ : 1 ≤ h ∧ h ≤ 63 := K.hops_
  obtain ⟨p1, q1⟩ : 1025 ≤ f ∧ f ≤ 1344 := K.fast_
  obtain ⟨p2, q2⟩ : 704 ≤ s ∧ s ≤ 1023 := K.slow_
  obtain ⟨p3, q3⟩ : 0 ≤ l ∧ l ≤ 86016 := K.link_
  obtain ⟨p4, q4⟩ : 0 ≤ x ∧ x ≤ 20000000 := K.way_
  obtain ⟨p5, q5⟩ : 0 ≤ y ∧ y ≤ 400000000000 := K.win_
  obtain ⟨p6, q6⟩ : 0 ≤ z ∧ z ≤ 400000000000 := K.rnd_
  obtain ⟨p7, q7⟩ : 0 ≤ rd ∧ rd ≤ 401000000000 := K.read_
  obtain ⟨p8, q8⟩ : 0 ≤ ag ∧ ag ≤ 803000000000 := K.agree_
  obtain ⟨p9, q9⟩ : 0 ≤ st ∧ st ≤ 1203000000000 := K.start_
  obtain ⟨p10, q10⟩ : 0 ≤ ep ∧ ep ≤ 2500000000000 := K.eps_
  obtain ⟨p11, q11⟩ : 0 ≤ mo ∧ mo ≤ 1700000000000 := K.most_
  obtain ⟨p12, q12⟩ : 0 ≤ cd ∧ cd ≤ 100000 := K.cold_
  obtain ⟨p13, q13⟩ : 0 ≤ ro ∧ ro ≤ 5000000000000 := K.rough_
  obtain ⟨p14, q14⟩ : 0 ≤ ov ∧ ov ≤ 160000000000000 := K.over_
  obtain ⟨p15, q15⟩ : 0 ≤ de ∧ de ≤ 161000000000000 := K.delta_
  obtain ⟨p16, q16⟩ : 0 ≤ se ∧ se ≤ 350000000000000 := K.settled_
  obtain ⟨p17, q17⟩ : 0 ≤ dn ∧ dn ≤ 1000000000000 := K.down_
  obtain ⟨p18, q18⟩ : 0 ≤ j1 ∧ j1 ≤ 1000000000000 := K.join1_
  obtain ⟨p19, q19⟩ : 0 ≤ j2 ∧ j2 ≤ 1000000000000 := K.join2_
  obtain ⟨G0, G1, G2, G3, G4, G5, G6, G7, G8, ⟨G9, G10⟩, ⟨G11, G12⟩, ⟨G13, G14⟩⟩ := g0
  dsimp only at G0 G1 G2 G3 G4 G5 G6 G7 G8 G9 G10 G11 G12 G13 G14
  have CF : Hid (∀ W, Calls Try.prog 29 #[.int .i64 r, .int .i64 v] W fun e w' => e = .returned (.int .i64 f) ∧ W = w') := Lib.hid (fun W => by have := Rat.rrtfast_any r v W; rwa [show Rat.fastV r v = f from K.fast] at this)
  have CS : Hid (∀ W, Calls Try.prog 30 #[.int .i64 r, .int .i64 v] W fun e w' => e = .returned (.int .i64 s) ∧ W = w') := Lib.hid (fun W => by have := Rat.rrtslow_any r v W; rwa [show Rat.slowV r v = s from K.slow] at this)
  obtain ⟨oc, hoc⟩ : ∃ o, Rdg.rerB a b r v = o := ⟨_, rfl⟩
  have CE : Hid (∀ W, Calls Try.prog 32 #[.int .i64 h, .int .i64 a, .int .i64 b, .int .i64 r] W fun e w' => e = .returned (.int .i64 x) ∧ W = w') := Lib.hid (fun W => by have := Hop.rerrH_any h a b r (by have := hob; dsimp only at this; rwa [show n - 1 = h from K.hops] at this) W; rwa [show Hop.errV h a b r = x from K.way] at this)
  have CC : Hid (∀ W, Calls Try.prog 33 #[.int .i64 a, .int .i64 b, .int .i64 r, .int .i64 v] W fun e w' => e = .returned (.tuple #[.int .i64 cd, .bool oc]) ∧ W = w') := Lib.hid (fun W => by have := Rdg.derr_any a b r v W; rwa [show Rdg.rerV a b r v = cd from K.cold, hoc] at this)
  obtain ⟨tr, htr⟩ : ∃ o, Rat.ticksV (2 * pr) s = o := ⟨_, rfl⟩
  obtain ⟨tw, htw⟩ : ∃ o, Rat.ticksV (2 * pw) s = o := ⟨_, rfl⟩
  have Q_tr : Hid (2 * r * tr = z) := Lib.hid (by rw [← htr]; exact K.rnd)
  have Q_tw : Hid (2 * r * tw = y) := Lib.hid (by rw [← htw]; exact K.win)
  have CTr : Hid (∀ W, Calls Try.prog 31 #[.int .i64 (2 * pr), .int .i64 s] W fun e w' => e = .returned (.int .i64 tr) ∧ W = w') := Lib.hid (fun W => by have := Rat.rrtticks_any (2 * pr) s (by omega) (by omega) W; rwa [htr] at this)
  have CTw : Hid (∀ W, Calls Try.prog 31 #[.int .i64 (2 * pw), .int .i64 s] W fun e w' => e = .returned (.int .i64 tw) ∧ W = w') := Lib.hid (fun W => by have := Rat.rrtticks_any (2 * pw) s (by omega) (by omega) W; rwa [htw] at this)
  have hs1 : pa + 2 * ep + 2 * de = pa + se := by have := Q_settled.out; omega
  have hs2 : 2 * pa + 2 * ep + 2 * de = 2 * pa + se := by have := Q_settled.out; omega
  have CD : Hid (∀ W, Calls Try.prog 31 #[.int .i64 (pa + 2 * ep + 2 * de), .int .i64 s] W fun e w' => e = .returned (.int .i64 dn) ∧ W = w') := Lib.hid (fun W => by have := Rat.rrtticks_any (pa + 2 * ep + 2 * de) s (by omega) (by omega) W; rwa [show Rat.ticksV (pa + 2 * ep + 2 * de) s = dn from by rw [hs1]; exact K.down] at this)
  have C1 : Hid (∀ W, Calls Try.prog 31 #[.int .i64 (2 * pr + 2 * pw), .int .i64 s] W fun e w' => e = .returned (.int .i64 j1) ∧ W = w') := Lib.hid (fun W => by have := Rat.rrtticks_any (2 * pr + 2 * pw) s (by omega) (by omega) W; rwa [show Rat.ticksV (2 * pr + 2 * pw) s = j1 from K.join1] at this)
  have C2 : Hid (∀ W, Calls Try.prog 31 #[.int .i64 (2 * pa + 2 * ep + 2 * de), .int .i64 s] W fun e w' => e = .returned (.int .i64 j2) ∧ W = w') := Lib.hid (fun W => by have := Rat.rrtticks_any (2 * pa + 2 * ep + 2 * de) s (by omega) (by omega) W; rwa [show Rat.ticksV (2 * pa + 2 * ep + 2 * de) s = j2 from by rw [hs2]; exact K.join2] at this)
  clear K hob hoc htr htw hs1 hs2
  unfold nval ncells cval ccells at *
  dsimp only
  go_enter Try.func12, Try.ntmps12
  go_upto_region 1 with fail
  obtain ⟨hk1, hk2, hb1, hs1⟩ := boxes2 (Below.refl (((w.alloc (.cells #[.int .i64 n, .slice lk lL lC, .int .i64 fl, .int .i64 a, .int .i64 b, .int .i64 r, .int .i64 v, .int .i64 pr, .int .i64 pw, .int .i64 pa, .int .i64 x1, .int .i64 x2, .int .i64 x3, .int .i64 x4, .int .i64 x5] 24)).alloc (.cells #[.int .i64 0, .int .i64 0, .int .i64 0, .int .i64 0, .int .i64 0, .int .i64 0, .int .i64 0, .int .i64 0, .int .i64 0, .int .i64 0, .int .i64 0, .int .i64 0, .int .i64 0, .int .i64 0] 32))).heap.size ((w.alloc (.cells #[.int .i64 n, .slice lk lL lC, .int .i64 fl, .int .i64 a, .int .i64 b, .int .i64 r, .int .i64 v, .int .i64 pr, .int .i64 pw, .int .i64 pa, .int .i64 x1, .int .i64 x2, .int .i64 x3, .int .i64 x4, .int .i64 x5] 24)).alloc (.cells #[.int .i64 0, .int .i64 0, .int .i64 0, .int .i64 0, .int .i64 0, .int .i64 0, .int .i64 0, .int .i64 0, .int .i64 0, .int .i64 0, .int .i64 0, .int .i64 0, .int .i64 0, .int .i64 0] 32)))
  have HS1 := Lib.hid hs1
  have K1 := Lib.hid hk1
  have K2 := Lib.hid hk2
  have B1 := Lib.hid hb1
  clear hs1 hk1 hk2 hb1
  generalize ((w.alloc (.cells #[.int .i64 n, .slice lk lL lC, .int .i64 fl, .int .i64 a, .int .i64 b, .int .i64 r, .int .i64 v, .int .i64 pr, .int .i64 pw, .int .i64 pa, .int .i64 x1, .int .i64 x2, .int .i64 x3, .int .i64 x4, .int .i64 x5] 24)).alloc (.cells #[.int .i64 0, .int .i64 0, .int .i64 0, .int .i64 0, .int .i64 0, .int .i64 0, .int .i64 0, .int .i64 0, .int .i64 0, .int .i64 0, .int .i64 0, .int .i64 0, .int .i64 0, .int .i64 0] 32)) = w1 at *
  have hne : w.heap.size ≠ w1.heap.size := by have := HS1.out; omega
  have HSK : Hid (∀ W, Below w1.heap.size w1 W → W.cell? ⟨w.heap.size, 0, none⟩ = some (.int .i64 n) ∧ W.cell? ⟨w.heap.size, 5, none⟩ = some (.int .i64 r) ∧ W.cell? ⟨w.heap.size, 6, none⟩ = some (.int .i64 v)) := Lib.hid (fun W hB => by
    obtain ⟨d0, -, -, d3, d4, d5, d6, d7, d8, d9, -, -, -, -, -⟩ := conf15 (K1.out.below2 hB (by have := HS1.out; omega))
    exact ⟨d0, d5, d6⟩)
  have HX0 : Hid (Bx w (w1.alloc (.cells #[.int .i64 h, .int .i64 f, .int .i64 s, .int .i64 0, .int .i64 0, .int .i64 0, .int .i64 0, .int .i64 0, .int .i64 0, .int .i64 0, .int .i64 0, .int .i64 0, .int .i64 0, .int .i64 0] 32)).drew 32 #[.int .i64 n, .slice lk lL lC, .int .i64 fl, .int .i64 a, .int .i64 b, .int .i64 r, .int .i64 v, .int .i64 pr, .int .i64 pw, .int .i64 pa, .int .i64 x1, .int .i64 x2, .int .i64 x3, .int .i64 x4, .int .i64 x5] #[.int .i64 0, .int .i64 0, .int .i64 0, .int .i64 0, .int .i64 0, .int .i64 0, .int .i64 0, .int .i64 0, .int .i64 0, .int .i64 0, .int .i64 0, .int .i64 0, .int .i64 0, .int .i64 0] w1.heap.size #[.int .i64 h, .int .i64 f, .int .i64 s, .int .i64 0, .int .i64 0, .int .i64 0, .int .i64 0, .int .i64 0, .int .i64 0, .int .i64 0, .int .i64 0, .int .i64 0, .int .i64 0, .int .i64 0]) := Lib.hid (by
    have hB : Below w1.heap.size w1 (w1.alloc (.cells #[.int .i64 h, .int .i64 f, .int .i64 s, .int .i64 0, .int .i64 0, .int .i64 0, .int .i64 0, .int .i64 0, .int .i64 0, .int .i64 0, .int .i64 0, .int .i64 0, .int .i64 0, .int .i64 0] 32)).drew := ((Below.refl _ _).alloc (Nat.le_refl _) _).drew
    exact ⟨B1.out.trans (hB.mono B1.out.size), K1.out.below hB, K2.out.below hB, Blk.below (Blk.new w1 _ _) (Below.refl _ _).drew, HS1.out⟩)
  have QW : Hid (IntKind.i64.wrap (n - 1) = h) := Lib.hid (by rw [← Q_hops.out]; simp only [IntKind.wrap_i64]; omega)
  go_cut [3] from 5 (fun p W => p = .pointer (some ⟨w1.heap.size, 0, none⟩) ∧ Hid (Bx w W 32 #[.int .i64 n, .slice lk lL lC, .int .i64 fl, .int .i64 a, .int .i64 b, .int .i64 r, .int .i64 v, .int .i64 pr, .int .i64 pw, .int .i64 pa, .int .i64 x1, .int .i64 x2, .int .i64 x3, .int .i64 x4, .int .i64 x5] #[.int .i64 0, .int .i64 0, .int .i64 0, .int .i64 0, .int .i64 0, .int .i64 0, .int .i64 0, .int .i64 0, .int .i64 0, .int .i64 0, .int .i64 0, .int .i64 0, .int .i64 0, .int .i64 0] w1.heap.size #[.int .i64 h, .int .i64 f, .int .i64 s, .int .i64 0, .int .i64 0, .int .i64 0, .int .i64 0, .int .i64 0, .int .i64 0, .int .i64 0, .int .i64 0, .int .i64 0, .int .i64 0, .int .i64 0]))
  case first =>
    refine wp_region_noPanic ?_
    go_region_held_law (fun W => W.cell? ⟨w.heap.size, 0, none⟩ = some (.int .i64 n) ∧ W.cell? ⟨w.heap.size, 5, none⟩ = some (.int .i64 r) ∧ W.cell? ⟨w.heap.size, 6, none⟩ = some (.int .i64 v)) ((refine HSK.out _ ?_; (first | assumption | exact Below.refl _ _ | exact (Below.refl _ _).drew | exact (Below.refl _ _).drew.alloc (Nat.le_refl _) _ | exact (Below.refl _ _).alloc (Nat.le_refl _) _ | go_grown)))
      (first | (go_at_call 29; (with_reducible refine (CF.out _).mono ?_); rintro e w' ⟨rfl, rfl⟩) | (go_at_call 30; (with_reducible refine (CS.out _).mono ?_); rintro e w' ⟨rfl, rfl⟩))
    all_goals
      refine NoPanic.normal ?_
      go_wp2_with fail
      go_meet
      case rel =>
        rw [QW.out]
        exact ⟨rfl, HX0⟩
  case rest =>
    obtain ⟨rfl, HX⟩ := hcut
    generalize wc = w2 at *
    clear HSK HX0 QW hne K1 K2 B1 HS1 CF CS
    generalize w1.heap.size = g at *
    clear w1
    have QZ : Hid (wrap64 (2 * r * tr) = z) := Lib.hid (by rw [Q_tr.out]; unfold wrap64; omega)
    have QL : Hid (wrap64 (b * f) = l) := Lib.hid (by rw [Q_link.out]; unfold wrap64; omega)
    go_upto_region 2 with fail
    obtain ⟨-, -, -, -, -, c5, -, c7, -, -, -, -, -, -, -⟩ := conf15 HX.out.conf
    obtain ⟨-, -, m2, -, -, -, -, -, -, -, -, -, -, -⟩ := nums14 HX.out.num
    go_cut [4] from 19 (fun p W => p = .int .i64 z ∧ Hid (Bx w W 32 #[.int .i64 n, .slice lk lL lC, .int .i64 fl, .int .i64 a, .int .i64 b, .int .i64 r, .int .i64 v, .int .i64 pr, .int .i64 pw, .int .i64 pa, .int .i64 x1, .int .i64 x2, .int .i64 x3, .int .i64 x4, .int .i64 x5] #[.int .i64 0, .int .i64 0, .int .i64 0, .int .i64 0, .int .i64 0, .int .i64 0, .int .i64 0, .int .i64 0, .int .i64 0, .int .i64 0, .int .i64 0, .int .i64 0, .int .i64 0, .int .i64 0] g #[.int .i64 h, .int .i64 f, .int .i64 s, .int .i64 0, .int .i64 0, .int .i64 0, .int .i64 0, .int .i64 0, .int .i64 0, .int .i64 0, .int .i64 0, .int .i64 0, .int .i64 0, .int .i64 0]))
    case first =>
      go_quiet (with_reducible exact quiet_sameB (CTr.out _))
      go_wp2_with fail
      go_meet
      case rel =>
        rw [QZ.out]
        exact ⟨rfl, Lib.hid (HX.out.later (Own.below_drewN (Below.refl _ _) _))⟩
    case rest =>
      clear HX c5 c7 m2
      obtain ⟨rfl, HX3⟩ := hcut
      generalize wc = w3 at *
      go_upto_region 3 with fail
      obtain ⟨-, -, -, -, c4, -, -, -, -, -, -, -, -, -, -⟩ := conf15 HX3.out.conf
      obtain ⟨-, m1, -, m3, -, -, -, -, -, -, -, -, -, -⟩ := nums14 HX3.out.num
      have fz := HX3.out.num.free
      go_upto_region 4 with fail
      rw [QL.out]
      have HX4 := Lib.hid (HX3.out.put 3 (.int .i64 l) #[.int .i64 h, .int .i64 f, .int .i64 s, .int .i64 l, .int .i64 0, .int .i64 0, .int .i64 0, .int .i64 0, .int .i64 0, .int .i64 0, .int .i64 0, .int .i64 0, .int .i64 0, .int .i64 0] rfl)
      clear c4 m1 m3 fz HX3
      generalize w3.setCell ⟨g, 3, none⟩ (.int .i64 l) = w4 at *
      have QA : Hid (IntKind.i64.wrap (2 * pw) = 2 * pw) := Lib.hid (by simp only [IntKind.wrap_i64]; omega)
      have QR : Hid (IntKind.i64.wrap (x + IntKind.i64.wrap (IntKind.i64.wrap (2 * r) * tw)) = rd) := Lib.hid (by
        rw [show IntKind.i64.wrap (2 * r) = 2 * r by simp only [IntKind.wrap_i64]; omega, Q_tw.out, ← Q_read.out]
        simp only [IntKind.wrap_i64]
        omega)
      rw [← QA.out] at CTw
      have HXd := Lib.hid (HX4.out.later (Below.refl _ _).drew)
      have HXS : Hid (∀ W ms, Bx w W 32 #[.int .i64 n, .slice lk lL lC, .int .i64 fl, .int .i64 a, .int .i64 b, .int .i64 r, .int .i64 v, .int .i64 pr, .int .i64 pw, .int .i64 pa, .int .i64 x1, .int .i64 x2, .int .i64 x3, .int .i64 x4, .int .i64 x5] #[.int .i64 0, .int .i64 0, .int .i64 0, .int .i64 0, .int .i64 0, .int .i64 0, .int .i64 0, .int .i64 0, .int .i64 0, .int .i64 0, .int .i64 0, .int .i64 0, .int .i64 0, .int .i64 0] g ms → (∃ x, ms = #[.int .i64 h, .int .i64 f, .int .i64 s, .int .i64 l, .int .i64 0, .int .i64 0, .int .i64 0, .int .i64 0, .int .i64 0, .int .i64 0, .int .i64 0, .int .i64 0, .int .i64 0, .int .i64 0].setIfInBounds 4 x) → W.cell? ⟨w.heap.size, 3, none⟩ = some (.int .i64 a) ∧ W.cell? ⟨w.heap.size, 4, none⟩ = some (.int .i64 b) ∧ W.cell? ⟨w.heap.size, 5, none⟩ = some (.int .i64 r) ∧ W.cell? ⟨w.heap.size, 8, none⟩ = some (.int .i64 pw) ∧ W.cell? ⟨g, 0, none⟩ = some (.int .i64 h) ∧ W.cell? ⟨g, 2, none⟩ = some (.int .i64 s)) := Lib.hid (fun W ms h hm => by
        obtain ⟨x, rfl⟩ := hm
        exact ⟨h.conf.cell 3, h.conf.cell 4, h.conf.cell 5, h.conf.cell 8, h.num.cell 0, h.num.cell 2⟩)
      go_upto_region 4 with fail
      have u4 : w4.drew.cell? ⟨g, 4, none⟩ = some (.int .i64 0) := HXd.out.num.cell 4
      have fz : ∀ i, w4.drew.frozen? ⟨g, i, none⟩ = false := HXd.out.num.free
      refine wp_region_noPanic ?_
      go_region_held_law (fun W => W.cell? ⟨w.heap.size, 3, none⟩ = some (.int .i64 a) ∧ W.cell? ⟨w.heap.size, 4, none⟩ = some (.int .i64 b) ∧ W.cell? ⟨w.heap.size, 5, none⟩ = some (.int .i64 r) ∧ W.cell? ⟨w.heap.size, 8, none⟩ = some (.int .i64 pw) ∧ W.cell? ⟨g, 0, none⟩ = some (.int .i64 h) ∧ W.cell? ⟨g, 2, none⟩ = some (.int .i64 s)) ((first | exact HXS.out _ _ HXd.out ⟨_, rfl⟩ | exact HXS.out _ _ (HXd.out.put 4 _ _ rfl) ⟨_, rfl⟩))
        (first | (go_at_call 32; (with_reducible refine (CE.out _).mono ?_); rintro e w' ⟨rfl, rfl⟩) | (go_at_call 31; (with_reducible refine (CTw.out _).mono ?_); rintro e w' ⟨rfl, rfl⟩))
      refine NoPanic.normal ?_
      rw [QR.out]
      have HX5 := Lib.hid ((HX4.out.put 4 (.int .i64 rd) #[.int .i64 h, .int .i64 f, .int .i64 s, .int .i64 l, .int .i64 rd, .int .i64 0, .int .i64 0, .int .i64 0, .int .i64 0, .int .i64 0, .int .i64 0, .int .i64 0, .int .i64 0, .int .i64 0] rfl).later (Below.refl _ _).drew)
      rename_i hHeld
      clear HXd HXS u4 fz hHeld HX4
      generalize (w4.setCell ⟨g, 4, none⟩ (.int .i64 rd)).drew = w5 at *
      obtain ⟨-, -, -, -, m4, m5, -, -, -, -, -, -, -, -⟩ := nums14 HX5.out.num
      have fz := HX5.out.num.free
      go_upto_region 6 with fail
      rw [Q_agree.out]
      have HX6 := Lib.hid (HX5.out.put 5 (.int .i64 ag) #[.int .i64 h, .int .i64 f, .int .i64 s, .int .i64 l, .int .i64 rd, .int .i64 ag, .int .i64 0, .int .i64 0, .int .i64 0, .int .i64 0, .int .i64 0, .int .i64 0, .int .i64 0, .int .i64 0] rfl)
      clear m4 m5 fz HX5
      generalize w5.setCell ⟨g, 5, none⟩ (.int .i64 ag) = w6 at *
      obtain ⟨-, -, -, -, -, m5, m6, -, -, -, -, -, -, -⟩ := nums14 HX6.out.num
      have fz := HX6.out.num.free
      go_upto_region 7 with fail
      rw [Q_start.out]
      have HX7 := Lib.hid (HX6.out.put 6 (.int .i64 st) #[.int .i64 h, .int .i64 f, .int .i64 s, .int .i64 l, .int .i64 rd, .int .i64 ag, .int .i64 st, .int .i64 0, .int .i64 0, .int .i64 0, .int .i64 0, .int .i64 0, .int .i64 0, .int .i64 0] rfl)
      clear m5 m6 fz HX6
      generalize w6.setCell ⟨g, 6, none⟩ (.int .i64 st) = w7 at *
      obtain ⟨-, m1, -, -, m4, -, m6, m7, -, -, -, -, -, -⟩ := nums14 HX7.out.num
      have fz := HX7.out.num.free
      go_upto_region 8 with fail
      rw [Q_eps.out]
      have HX8 := Lib.hid (HX7.out.put 7 (.int .i64 ep) #[.int .i64 h, .int .i64 f, .int .i64 s, .int .i64 l, .int .i64 rd, .int .i64 ag, .int .i64 st, .int .i64 ep, .int .i64 0, .int .i64 0, .int .i64 0, .int .i64 0, .int .i64 0, .int .i64 0] rfl)
      clear m1 m4 m6 m7 fz HX7
      generalize w7.setCell ⟨g, 7, none⟩ (.int .i64 ep) = w8 at *
      obtain ⟨-, -, -, -, m4, -, m6, -, m8, -, -, -, -, -⟩ := nums14 HX8.out.num
      have fz := HX8.out.num.free
      go_upto_region 9 with fail
      rw [Q_most.out]
      have HX9 := Lib.hid (HX8.out.put 8 (.int .i64 mo) #[.int .i64 h, .int .i64 f, .int .i64 s, .int .i64 l, .int .i64 rd, .int .i64 ag, .int .i64 st, .int .i64 ep, .int .i64 mo, .int .i64 0, .int .i64 0, .int .i64 0, .int .i64 0, .int .i64 0] rfl)
      clear m4 m6 m8 fz HX8
      generalize w8.setCell ⟨g, 8, none⟩ (.int .i64 mo) = w9 at *
      obtain ⟨-, -, -, c3, c4, c5, c6, -, -, -, -, -, -, -, -⟩ := conf15 HX9.out.conf
      obtain ⟨-, -, -, -, -, -, -, -, -, m9, -, -, -, -⟩ := nums14 HX9.out.num
      have fz := HX9.out.num.free
      go_wp2_with fail
      refine (CC.out _).mono ?_; rintro e w' ⟨rfl, rfl⟩
      go_upto_region 10 with fail
      have HX10 := Lib.hid (HX9.out.put 9 (.int .i64 cd) #[.int .i64 h, .int .i64 f, .int .i64 s, .int .i64 l, .int .i64 rd, .int .i64 ag, .int .i64 st, .int .i64 ep, .int .i64 mo, .int .i64 cd, .int .i64 0, .int .i64 0, .int .i64 0, .int .i64 0] rfl)
      clear c3 c4 c5 c6 m9 fz HX9
      generalize w9.setCell ⟨g, 9, none⟩ (.int .i64 cd) = w10 at *
      obtain ⟨-, m1, -, -, -, -, -, m7, m8, m9, m10, -, -, -⟩ := nums14 HX10.out.num
      have fz := HX10.out.num.free
      go_upto_region 11 with fail
      rw [Q_rough.out]
      have HX11 := Lib.hid (HX10.out.put 10 (.int .i64 ro) #[.int .i64 h, .int .i64 f, .int .i64 s, .int .i64 l, .int .i64 rd, .int .i64 ag, .int .i64 st, .int .i64 ep, .int .i64 mo, .int .i64 cd, .int .i64 ro, .int .i64 0, .int .i64 0, .int .i64 0] rfl)
      clear m1 m7 m8 m9 m10 fz HX10
      generalize w10.setCell ⟨g, 10, none⟩ (.int .i64 ro) = w11 at *
      have QO : Hid (wrap64 (wrap64 (h * (l + ep)) + 2 * f) = de) := Lib.hid (by rw [Q_over.out, ← Q_delta.out]; unfold wrap64; omega)
      obtain ⟨m0, m1, -, m3, -, -, -, m7, -, -, -, m11, -, -⟩ := nums14 HX11.out.num
      have fz := HX11.out.num.free
      go_upto_region 12 with fail
      rw [QO.out]
      have HX12 := Lib.hid (HX11.out.put 11 (.int .i64 de) #[.int .i64 h, .int .i64 f, .int .i64 s, .int .i64 l, .int .i64 rd, .int .i64 ag, .int .i64 st, .int .i64 ep, .int .i64 mo, .int .i64 cd, .int .i64 ro, .int .i64 de, .int .i64 0, .int .i64 0] rfl)
      clear m0 m1 m3 m7 m11 fz HX11
      generalize w11.setCell ⟨g, 11, none⟩ (.int .i64 de) = w12 at *
      obtain ⟨-, -, -, -, -, -, -, -, -, c9, -, -, -, -, -⟩ := conf15 HX12.out.conf
      obtain ⟨-, -, m2, -, -, -, -, m7, -, -, -, m11, m12, -⟩ := nums14 HX12.out.num
      have fz := HX12.out.num.free
      go_wp2_with fail
      refine (CD.out _).mono ?_; rintro e w' ⟨rfl, rfl⟩
      go_upto_region 13 with fail
      have HX13 := Lib.hid (HX12.out.put 12 (.int .i64 dn) #[.int .i64 h, .int .i64 f, .int .i64 s, .int .i64 l, .int .i64 rd, .int .i64 ag, .int .i64 st, .int .i64 ep, .int .i64 mo, .int .i64 cd, .int .i64 ro, .int .i64 de, .int .i64 dn, .int .i64 0] rfl)
      clear c9 m2 m7 m11 m12 fz HX12
      generalize w12.setCell ⟨g, 12, none⟩ (.int .i64 dn) = w13 at *
      have QA1 : Hid (IntKind.i64.wrap (IntKind.i64.wrap (2 * pr) + IntKind.i64.wrap (2 * pw)) = 2 * pr + 2 * pw) := Lib.hid (by simp only [IntKind.wrap_i64]; omega)
      have QA2 : Hid (IntKind.i64.wrap (IntKind.i64.wrap (IntKind.i64.wrap (2 * pa) + IntKind.i64.wrap (2 * ep)) + IntKind.i64.wrap (2 * de)) = 2 * pa + 2 * ep + 2 * de) := Lib.hid (by simp only [IntKind.wrap_i64]; omega)
      have QJ : Hid (IntKind.i64.wrap (IntKind.i64.wrap (IntKind.i64.wrap (IntKind.i64.wrap (2 * b) + 8) + j1) + j2) = jn) := Lib.hid (by rw [← Q_join.out]; simp only [IntKind.wrap_i64]; omega)
      rw [← QA1.out] at C1
      rw [← QA2.out] at C2
      have HXd := Lib.hid (HX13.out.later (Below.refl _ _).drew)
      have HXS : Hid (∀ W ms, Bx w W 32 #[.int .i64 n, .slice lk lL lC, .int .i64 fl, .int .i64 a, .int .i64 b, .int .i64 r, .int .i64 v, .int .i64 pr, .int .i64 pw, .int .i64 pa, .int .i64 x1, .int .i64 x2, .int .i64 x3, .int .i64 x4, .int .i64 x5] #[.int .i64 0, .int .i64 0, .int .i64 0, .int .i64 0, .int .i64 0, .int .i64 0, .int .i64 0, .int .i64 0, .int .i64 0, .int .i64 0, .int .i64 0, .int .i64 0, .int .i64 0, .int .i64 0] g ms → (∃ x, ms = #[.int .i64 h, .int .i64 f, .int .i64 s, .int .i64 l, .int .i64 rd, .int .i64 ag, .int .i64 st, .int .i64 ep, .int .i64 mo, .int .i64 cd, .int .i64 ro, .int .i64 de, .int .i64 dn, .int .i64 0].setIfInBounds 13 x) → W.cell? ⟨w.heap.size, 4, none⟩ = some (.int .i64 b) ∧ W.cell? ⟨w.heap.size, 7, none⟩ = some (.int .i64 pr) ∧ W.cell? ⟨w.heap.size, 8, none⟩ = some (.int .i64 pw) ∧ W.cell? ⟨w.heap.size, 9, none⟩ = some (.int .i64 pa) ∧ W.cell? ⟨g, 2, none⟩ = some (.int .i64 s) ∧ W.cell? ⟨g, 7, none⟩ = some (.int .i64 ep) ∧ W.cell? ⟨g, 11, none⟩ = some (.int .i64 de)) := Lib.hid (fun W ms h hm => by
        obtain ⟨x, rfl⟩ := hm
        exact ⟨h.conf.cell 4, h.conf.cell 7, h.conf.cell 8, h.conf.cell 9, h.num.cell 2, h.num.cell 7, h.num.cell 11⟩)
      go_upto_region 13 with fail
      have u13 : w13.drew.cell? ⟨g, 13, none⟩ = some (.int .i64 0) := HXd.out.num.cell 13
      have fz : ∀ i, w13.drew.frozen? ⟨g, i, none⟩ = false := HXd.out.num.free
      refine wp_region_noPanic ?_
      go_region_held_law (fun W => W.cell? ⟨w.heap.size, 4, none⟩ = some (.int .i64 b) ∧ W.cell? ⟨w.heap.size, 7, none⟩ = some (.int .i64 pr) ∧ W.cell? ⟨w.heap.size, 8, none⟩ = some (.int .i64 pw) ∧ W.cell? ⟨w.heap.size, 9, none⟩ = some (.int .i64 pa) ∧ W.cell? ⟨g, 2, none⟩ = some (.int .i64 s) ∧ W.cell? ⟨g, 7, none⟩ = some (.int .i64 ep) ∧ W.cell? ⟨g, 11, none⟩ = some (.int .i64 de)) ((first | exact HXS.out _ _ HXd.out ⟨_, rfl⟩ | exact HXS.out _ _ (HXd.out.put 13 _ _ rfl) ⟨_, rfl⟩))
        (first | (go_at_call 31; (with_reducible refine (C1.out _).mono ?_); rintro e w' ⟨rfl, rfl⟩) | (go_at_call 31; (with_reducible refine (C2.out _).mono ?_); rintro e w' ⟨rfl, rfl⟩))
      refine NoPanic.normal ?_
      rw [QJ.out]
      have HX14 := Lib.hid ((HX13.out.put 13 (.int .i64 jn) #[.int .i64 h, .int .i64 f, .int .i64 s, .int .i64 l, .int .i64 rd, .int .i64 ag, .int .i64 st, .int .i64 ep, .int .i64 mo, .int .i64 cd, .int .i64 ro, .int .i64 de, .int .i64 dn, .int .i64 jn] rfl).later (Below.refl _ _).drew)
      rename_i hHeld
      clear HXd HXS u13 fz hHeld HX13
      generalize (w13.setCell ⟨g, 13, none⟩ (.int .i64 jn)).drew = w14 at *
      have HO : Hid ((#[.int .i64 h, .int .i64 f, .int .i64 s, .int .i64 l, .int .i64 rd, .int .i64 ag, .int .i64 st, .int .i64 ep, .int .i64 mo, .int .i64 cd, .int .i64 ro, .int .i64 de, .int .i64 dn, .int .i64 jn] : Array Value).all (·.oneCell') = true) := Lib.hid (nm_one ⟨h, f, s, l, rd, ag, st, ep, mo, cd, ro, de, dn, jn⟩)
      have HXe := HX14
      clear HX14
      generalize w14 = wE at *
      go_upto_region 14 with fail
      refine open_end (by assumption) ?_
      intro Q2 K2 HQ2 hK2
      go_wp2_with (first | (refine load_rn rfl _ rfl g rfl #[.int .i64 h, .int .i64 f, .int .i64 s, .int .i64 l, .int .i64 rd, .int .i64 ag, .int .i64 st, .int .i64 ep, .int .i64 mo, .int .i64 cd, .int .i64 ro, .int .i64 de, .int .i64 dn, .int .i64 jn] rfl HXe.out.num ?_) | (refine store_rn rfl _ _ rfl (w.heap.size + 1) #[.int .i64 h, .int .i64 f, .int .i64 s, .int .i64 l, .int .i64 rd, .int .i64 ag, .int .i64 st, .int .i64 ep, .int .i64 mo, .int .i64 cd, .int .i64 ro, .int .i64 de, .int .i64 dn, .int .i64 jn] rfl rfl rfl HO.out #[.int .i64 0, .int .i64 0, .int .i64 0, .int .i64 0, .int .i64 0, .int .i64 0, .int .i64 0, .int .i64 0, .int .i64 0, .int .i64 0, .int .i64 0, .int .i64 0, .int .i64 0, .int .i64 0] HXe.out.res rfl ?_))
      refine HQ2.out _ _ ?_
      exact bodyPost_ret (results_rn rfl _ _ (w.heap.size + 1) #[.int .i64 h, .int .i64 f, .int .i64 s, .int .i64 l, .int .i64 rd, .int .i64 ag, .int .i64 st, .int .i64 ep, .int .i64 mo, .int .i64 cd, .int .i64 ro, .int .i64 de, .int .i64 dn, .int .i64 jn] rfl (HXe.out.res.setRow _) rfl) rfl ⟨rfl, below_setRow HXe.out.below (by omega) _⟩
end Go.Proofs.Ytbbenfjfdmnpmaa.Bnd
