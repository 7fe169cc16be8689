/- The document's own Enough (layer 26). Written by gen/bnd_ren.py. -/
import Derived.Test.YtbbenfjfdmnpmaaBndN
import Derived.Test.YtbbenfjfdmnpmaaBndR
import Derived.Test.YtbbenfjfdmnpmaaBndG
import Derived.BigQuiet
namespace Go.Proofs.Ytbbenfjfdmnpmaa.Bnd
open Go.ChangeShapes Go.WideShapes Go.ChangeAt Go.RowKit
open Go.Proofs.Ytbbenfjfdmnpmaa.Rw
set_option linter.unusedVariables false
set_option linter.unusedSimpArgs false
set_option maxRecDepth 100000 in
set_option maxHeartbeats 4000000 in
theorem ren_bad (c : Cf) (g0 : goodC c = false) (w : World) :
    Calls Try.prog 14 #[cval c] w fun e w' => e = .returned (.bool false) ∧ Below w.heap.size w w' := by
  have CO := Lib.hid (fun W => brgood_any c W)
  rw [g0] at CO
  clear g0
  obtain ⟨n, lk, lL, lC, lS, fl, a, b, r, v, pr, pw, pa, x1, x2, x3, x4, x5⟩ := c
  unfold cval ccells at *
  dsimp only at CO ⊢
  have BE := Lib.hid (show Below w.heap.size w (w.alloc (.cells #[.int .i64 n, .slice lk lL lC, .int .i64 fl, .int .i64 a, .int .i64 b, .int .i64 r, .int .i64 v, .int .i64 pr, .int .i64 pw, .int .i64 pa, .int .i64 x1, .int .i64 x2, .int .i64 x3, .int .i64 x4, .int .i64 x5] 24)) from (Below.refl _ _).alloc (Nat.le_refl _) _)
  go_enter Try.func14, Try.ntmps14
  go_wp2_with fail
  refine (CO.out _).mono ?_; rintro e w1 ⟨rfl, hB⟩
  have B1 := Lib.hid (BE.out.trans (hB.mono BE.out.size))
  clear hB BE
  go_wp2_with fail
  go_ret
  exact ⟨rfl, B1.out⟩
set_option maxRecDepth 100000 in
set_option maxHeartbeats 4000000 in
theorem ren_good (c : Cf) (g0 : Good c) (w : World) :
    Calls Try.prog 14 #[cval c] w fun e w' => e = .returned (.bool (enB c)) ∧ Below w.heap.size w w' := by
  have CG := Lib.hid (fun W => brgood_any c W)
  have CO := Lib.hid (fun W => brof_good c g0 W)
  have B := num_bd g0
  have HE : enB c = (decide (2 * (num c).rough + (num c).eps + (num c).hops * (num c).link + 4 * (num c).fast ≤ c.window) && (decide (4 * c.window ≤ c.round) && (decide (2 * (num c).delta ≤ c.attend) && decide ((num c).most ≤ c.slew * ((c.round - 2 * c.window) / (num c).fast - 2))))) := by
    unfold enB
    rw [good_mk g0, Bool.true_and, Bool.and_comm (decide (2 * (num c).delta ≤ c.attend))]
  rw [HE]
  rw [good_mk g0] at CG
  clear HE
  obtain ⟨p0, q0⟩ := B.hops
  obtain ⟨p1, q1⟩ := B.fast
  obtain ⟨p2, q2⟩ := B.link
  obtain ⟨p3, q3⟩ := B.eps
  obtain ⟨p4, q4⟩ := B.most
  obtain ⟨p5, q5⟩ := B.rough
  obtain ⟨p6, q6⟩ := B.delta
  obtain ⟨G9, G10⟩ := g0.R
  obtain ⟨G11, G12⟩ := g0.W
  obtain ⟨G13, G14⟩ := g0.A
  have G7 := g0.s0
  have G8 := g0.s1
  obtain ⟨hl0, hl1⟩ := hl_bd (show 0 ≤ (num c).hops by omega) q0 p2 q2
  generalize num c = m at *
  obtain ⟨n, lk, lL, lC, lS, fl, a, b, r, v, pr, pw, pa, x1, x2, x3, x4, x5⟩ := c
  obtain ⟨h, f, s, l, rd, ag, st, ep, mo, cd, ro, de, dn, jn⟩ := m
  clear B g0
  unfold nval ncells cval ccells at *
  dsimp only at *
  obtain ⟨hl, hhl⟩ : ∃ hl, h * l = hl := ⟨_, rfl⟩
  rw [hhl] at hl0 hl1 ⊢
  have BE := Lib.hid (show Below w.heap.size w (w.alloc (.cells #[.int .i64 n, .slice lk lL lC, .int .i64 fl, .int .i64 a, .int .i64 b, .int .i64 r, .int .i64 v, .int .i64 pr, .int .i64 pw, .int .i64 pa, .int .i64 x1, .int .i64 x2, .int .i64 x3, .int .i64 x4, .int .i64 x5] 24)) from (Below.refl _ _).alloc (Nat.le_refl _) _)
  have HC : Hid (∀ W, Below (w.alloc (.cells #[.int .i64 n, .slice lk lL lC, .int .i64 fl, .int .i64 a, .int .i64 b, .int .i64 r, .int .i64 v, .int .i64 pr, .int .i64 pw, .int .i64 pa, .int .i64 x1, .int .i64 x2, .int .i64 x3, .int .i64 x4, .int .i64 x5] 24)).heap.size (w.alloc (.cells #[.int .i64 n, .slice lk lL lC, .int .i64 fl, .int .i64 a, .int .i64 b, .int .i64 r, .int .i64 v, .int .i64 pr, .int .i64 pw, .int .i64 pa, .int .i64 x1, .int .i64 x2, .int .i64 x3, .int .i64 x4, .int .i64 x5] 24)) W → Blk W w.heap.size 24 #[.int .i64 n, .slice lk lL lC, .int .i64 fl, .int .i64 a, .int .i64 b, .int .i64 r, .int .i64 v, .int .i64 pr, .int .i64 pw, .int .i64 pa, .int .i64 x1, .int .i64 x2, .int .i64 x3, .int .i64 x4, .int .i64 x5]) := Lib.hid (fun W hB => Blk.below (Blk.new w _ _) hB)
  have hq0 := q_bd (p := pr - 2 * pw) (f := f)
  obtain ⟨q, hq⟩ : ∃ q, (pr - 2 * pw) / f = q := ⟨_, rfl⟩
  rw [hq] at hq0 ⊢
  have hsl := sl_bd (v := v) (q := q) G7 G8
  obtain ⟨sl, hs⟩ : ∃ sl, v * (q - 2) = sl := ⟨_, rfl⟩
  rw [hs] at hsl ⊢
  have HT : Hid (0 ≤ pr - 2 * pw → (pr - 2 * pw).tdiv f = q) := Lib.hid (fun h => by rw [Int.tdiv_eq_ediv_of_nonneg h, hq])
  have HQ := Lib.hid hq
  have HSl := Lib.hid hs
  have Hq0 := Lib.hid hq0
  have Hsl := Lib.hid hsl
  clear hq hs hq0 hsl
  by_cases t1 : 2 * ro + ep + hl + 4 * f ≤ pw
  rotate_left
  · have d1 : decide (2 * ro + ep + hl + 4 * f ≤ pw) = false := decide_eq_false t1
    rw [d1, Bool.false_and]
    go_enter Try.func14, Try.ntmps14
    go_wp2_with fail
    refine (CG.out _).mono ?_; rintro e w0 ⟨rfl, hB⟩
    have K0 := Lib.hid (HC.out _ hB)
    have B0 := Lib.hid (BE.out.trans (hB.mono BE.out.size))
    clear hB BE HC
    obtain ⟨c0, c1, c2, c3, c4, c5, c6, c7, c8, c9, c10, c11, c12, c13, c14⟩ := conf15 K0.out
    go_wp2_with fail
    refine (CO.out _).mono ?_; rintro e w1 ⟨rfl, hB⟩
    have K1 := Lib.hid (K0.out.below hB)
    have B1 := Lib.hid (B0.out.trans (hB.mono B0.out.size))
    have hlt := K1.out.lt
    clear hB K0 B0 c0 c1 c2 c3 c4 c5 c6 c7 c8 c9 c10 c11 c12 c13 c14
    go_upto_region 4 with fail
    have B2 := Lib.hid (B1.out.alloc B1.out.size (.cells #[.int .i64 h, .int .i64 f, .int .i64 s, .int .i64 l, .int .i64 rd, .int .i64 ag, .int .i64 st, .int .i64 ep, .int .i64 mo, .int .i64 cd, .int .i64 ro, .int .i64 de, .int .i64 dn, .int .i64 jn] 32))
    have K2 := Lib.hid (K1.out.alloc (.cells #[.int .i64 h, .int .i64 f, .int .i64 s, .int .i64 l, .int .i64 rd, .int .i64 ag, .int .i64 st, .int .i64 ep, .int .i64 mo, .int .i64 cd, .int .i64 ro, .int .i64 de, .int .i64 dn, .int .i64 jn] 32))
    have N2 := Lib.hid (Blk.new w1 32 #[.int .i64 h, .int .i64 f, .int .i64 s, .int .i64 l, .int .i64 rd, .int .i64 ag, .int .i64 st, .int .i64 ep, .int .i64 mo, .int .i64 cd, .int .i64 ro, .int .i64 de, .int .i64 dn, .int .i64 jn])
    clear B1 K1 hlt
    generalize (w1.alloc (.cells #[.int .i64 h, .int .i64 f, .int .i64 s, .int .i64 l, .int .i64 rd, .int .i64 ag, .int .i64 st, .int .i64 ep, .int .i64 mo, .int .i64 cd, .int .i64 ro, .int .i64 de, .int .i64 dn, .int .i64 jn] 32)) = w2 at *
    generalize w1.heap.size = g at *
    obtain ⟨-, -, -, -, -, -, c6, c7, c8, c9, -, -, -, -, -⟩ := conf15 K2.out
    obtain ⟨u0, u1, -, u3, -, -, -, u7, u8, -, u10, u11, -, -⟩ := nums14 N2.out
    go_wp2_with fail
    go_ret
    exact ⟨rfl, B2.out⟩
  have d1 : decide (2 * ro + ep + hl + 4 * f ≤ pw) = true := decide_eq_true t1
  rw [d1, Bool.true_and]
  by_cases t2 : 4 * pw ≤ pr
  rotate_left
  · have d2 : decide (4 * pw ≤ pr) = false := decide_eq_false t2
    rw [d2, Bool.false_and]
    go_enter Try.func14, Try.ntmps14
    go_wp2_with fail
    refine (CG.out _).mono ?_; rintro e w0 ⟨rfl, hB⟩
    have K0 := Lib.hid (HC.out _ hB)
    have B0 := Lib.hid (BE.out.trans (hB.mono BE.out.size))
    clear hB BE HC
    obtain ⟨c0, c1, c2, c3, c4, c5, c6, c7, c8, c9, c10, c11, c12, c13, c14⟩ := conf15 K0.out
    go_wp2_with fail
    refine (CO.out _).mono ?_; rintro e w1 ⟨rfl, hB⟩
    have K1 := Lib.hid (K0.out.below hB)
    have B1 := Lib.hid (B0.out.trans (hB.mono B0.out.size))
    have hlt := K1.out.lt
    clear hB K0 B0 c0 c1 c2 c3 c4 c5 c6 c7 c8 c9 c10 c11 c12 c13 c14
    go_upto_region 4 with fail
    have B2 := Lib.hid (B1.out.alloc B1.out.size (.cells #[.int .i64 h, .int .i64 f, .int .i64 s, .int .i64 l, .int .i64 rd, .int .i64 ag, .int .i64 st, .int .i64 ep, .int .i64 mo, .int .i64 cd, .int .i64 ro, .int .i64 de, .int .i64 dn, .int .i64 jn] 32))
    have K2 := Lib.hid (K1.out.alloc (.cells #[.int .i64 h, .int .i64 f, .int .i64 s, .int .i64 l, .int .i64 rd, .int .i64 ag, .int .i64 st, .int .i64 ep, .int .i64 mo, .int .i64 cd, .int .i64 ro, .int .i64 de, .int .i64 dn, .int .i64 jn] 32))
    have N2 := Lib.hid (Blk.new w1 32 #[.int .i64 h, .int .i64 f, .int .i64 s, .int .i64 l, .int .i64 rd, .int .i64 ag, .int .i64 st, .int .i64 ep, .int .i64 mo, .int .i64 cd, .int .i64 ro, .int .i64 de, .int .i64 dn, .int .i64 jn])
    clear B1 K1 hlt
    generalize (w1.alloc (.cells #[.int .i64 h, .int .i64 f, .int .i64 s, .int .i64 l, .int .i64 rd, .int .i64 ag, .int .i64 st, .int .i64 ep, .int .i64 mo, .int .i64 cd, .int .i64 ro, .int .i64 de, .int .i64 dn, .int .i64 jn] 32)) = w2 at *
    generalize w1.heap.size = g at *
    obtain ⟨-, -, -, -, -, -, c6, c7, c8, c9, -, -, -, -, -⟩ := conf15 K2.out
    obtain ⟨u0, u1, -, u3, -, -, -, u7, u8, -, u10, u11, -, -⟩ := nums14 N2.out
    go_wp2_with fail
    go_ret
    exact ⟨rfl, B2.out⟩
  have d2 : decide (4 * pw ≤ pr) = true := decide_eq_true t2
  rw [d2, Bool.true_and]
  by_cases t4 : 2 * de ≤ pa
  rotate_left
  · have d4 : decide (2 * de ≤ pa) = false := decide_eq_false t4
    rw [d4, Bool.false_and]
    go_enter Try.func14, Try.ntmps14
    go_wp2_with fail
    refine (CG.out _).mono ?_; rintro e w0 ⟨rfl, hB⟩
    have K0 := Lib.hid (HC.out _ hB)
    have B0 := Lib.hid (BE.out.trans (hB.mono BE.out.size))
    clear hB BE HC
    obtain ⟨c0, c1, c2, c3, c4, c5, c6, c7, c8, c9, c10, c11, c12, c13, c14⟩ := conf15 K0.out
    go_wp2_with fail
    refine (CO.out _).mono ?_; rintro e w1 ⟨rfl, hB⟩
    have K1 := Lib.hid (K0.out.below hB)
    have B1 := Lib.hid (B0.out.trans (hB.mono B0.out.size))
    have hlt := K1.out.lt
    clear hB K0 B0 c0 c1 c2 c3 c4 c5 c6 c7 c8 c9 c10 c11 c12 c13 c14
    go_upto_region 4 with fail
    have B2 := Lib.hid (B1.out.alloc B1.out.size (.cells #[.int .i64 h, .int .i64 f, .int .i64 s, .int .i64 l, .int .i64 rd, .int .i64 ag, .int .i64 st, .int .i64 ep, .int .i64 mo, .int .i64 cd, .int .i64 ro, .int .i64 de, .int .i64 dn, .int .i64 jn] 32))
    have K2 := Lib.hid (K1.out.alloc (.cells #[.int .i64 h, .int .i64 f, .int .i64 s, .int .i64 l, .int .i64 rd, .int .i64 ag, .int .i64 st, .int .i64 ep, .int .i64 mo, .int .i64 cd, .int .i64 ro, .int .i64 de, .int .i64 dn, .int .i64 jn] 32))
    have N2 := Lib.hid (Blk.new w1 32 #[.int .i64 h, .int .i64 f, .int .i64 s, .int .i64 l, .int .i64 rd, .int .i64 ag, .int .i64 st, .int .i64 ep, .int .i64 mo, .int .i64 cd, .int .i64 ro, .int .i64 de, .int .i64 dn, .int .i64 jn])
    clear B1 K1 hlt
    generalize (w1.alloc (.cells #[.int .i64 h, .int .i64 f, .int .i64 s, .int .i64 l, .int .i64 rd, .int .i64 ag, .int .i64 st, .int .i64 ep, .int .i64 mo, .int .i64 cd, .int .i64 ro, .int .i64 de, .int .i64 dn, .int .i64 jn] 32)) = w2 at *
    generalize w1.heap.size = g at *
    obtain ⟨-, -, -, -, -, -, c6, c7, c8, c9, -, -, -, -, -⟩ := conf15 K2.out
    obtain ⟨u0, u1, -, u3, -, -, -, u7, u8, -, u10, u11, -, -⟩ := nums14 N2.out
    go_wp2_with fail
    go_ret
    exact ⟨rfl, B2.out⟩
  have d4 : decide (2 * de ≤ pa) = true := decide_eq_true t4
  rw [d4, Bool.true_and]
  obtain ⟨z0, z1⟩ := Hq0.out (by omega) (by omega) p1
  obtain ⟨y0, y1⟩ := Hsl.out z0 z1
  have htd := HT.out (by omega)
  have hed := HQ.out
  have hsv := HSl.out
  have hne : f ≠ 0 := by omega
  have hnb : 0 ≤ pr - 2 * pw := by omega
  go_enter Try.func14, Try.ntmps14
  go_wp2_with fail
  refine (CG.out _).mono ?_; rintro e w0 ⟨rfl, hB⟩
  have K0 := Lib.hid (HC.out _ hB)
  have B0 := Lib.hid (BE.out.trans (hB.mono BE.out.size))
  clear hB BE HC
  obtain ⟨c0, c1, c2, c3, c4, c5, c6, c7, c8, c9, c10, c11, c12, c13, c14⟩ := conf15 K0.out
  go_wp2_with fail
  refine (CO.out _).mono ?_; rintro e w1 ⟨rfl, hB⟩
  have K1 := Lib.hid (K0.out.below hB)
  have B1 := Lib.hid (B0.out.trans (hB.mono B0.out.size))
  have hlt := K1.out.lt
  clear hB K0 B0 c0 c1 c2 c3 c4 c5 c6 c7 c8 c9 c10 c11 c12 c13 c14
  go_upto_region 4 with fail
  have B2 := Lib.hid (B1.out.alloc B1.out.size (.cells #[.int .i64 h, .int .i64 f, .int .i64 s, .int .i64 l, .int .i64 rd, .int .i64 ag, .int .i64 st, .int .i64 ep, .int .i64 mo, .int .i64 cd, .int .i64 ro, .int .i64 de, .int .i64 dn, .int .i64 jn] 32))
  have K2 := Lib.hid (K1.out.alloc (.cells #[.int .i64 h, .int .i64 f, .int .i64 s, .int .i64 l, .int .i64 rd, .int .i64 ag, .int .i64 st, .int .i64 ep, .int .i64 mo, .int .i64 cd, .int .i64 ro, .int .i64 de, .int .i64 dn, .int .i64 jn] 32))
  have N2 := Lib.hid (Blk.new w1 32 #[.int .i64 h, .int .i64 f, .int .i64 s, .int .i64 l, .int .i64 rd, .int .i64 ag, .int .i64 st, .int .i64 ep, .int .i64 mo, .int .i64 cd, .int .i64 ro, .int .i64 de, .int .i64 dn, .int .i64 jn])
  clear B1 K1 hlt
  generalize (w1.alloc (.cells #[.int .i64 h, .int .i64 f, .int .i64 s, .int .i64 l, .int .i64 rd, .int .i64 ag, .int .i64 st, .int .i64 ep, .int .i64 mo, .int .i64 cd, .int .i64 ro, .int .i64 de, .int .i64 dn, .int .i64 jn] 32)) = w2 at *
  generalize w1.heap.size = g at *
  obtain ⟨-, -, -, -, -, -, c6, c7, c8, c9, -, -, -, -, -⟩ := conf15 K2.out
  obtain ⟨u0, u1, -, u3, -, -, -, u7, u8, -, u10, u11, -, -⟩ := nums14 N2.out
  go_upto_region 6 with fail
  go_quiet (fail)
  go_wp2_with fail
  go_ret
  exact ⟨rfl, Own.below_drewN B2.out _⟩
theorem ren_any (c : Cf) (w : World) :
    Calls Try.prog 14 #[cval c] w fun e w' => e = .returned (.bool (enB c)) ∧ Below w.heap.size w w' := by
  cases hg : goodC c with
  | false =>
    rw [show enB c = false by unfold enB; rw [hg, Bool.false_and]]
    exact ren_bad c hg w
  | true => exact ren_good c (good_yes hg) w
end Go.Proofs.Ytbbenfjfdmnpmaa.Bnd
