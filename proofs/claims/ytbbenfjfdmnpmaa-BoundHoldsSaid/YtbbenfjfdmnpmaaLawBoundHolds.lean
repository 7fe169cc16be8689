/- If the periods are wide enough, a correction is made ahead of the next round's first beacon, a window is open long enough for all beacons, and what is not late is there ahead of its delivery. -/
import Derived.Test.YtbbenfjfdmnpmaaRows
import Derived.WalkKit
import Derived.ProofKit
import Derived.OpenShut
import Derived.ShutString
import Derived.ChangeOld
import Derived.Below
import Derived.Deep.Cut
import Derived.BigQuiet
import Derived.Test.YtbbenfjfdmnpmaaQuiB
import Derived.Test.YtbbenfjfdmnpmaaBndX
import Derived.Test.YtbbenfjfdmnpmaaBndL
namespace Go.Proofs.Ytbbenfjfdmnpmaa.lawBoundHolds
open Go.ChangeShapes Go.WideShapes Go.ChangeAt Go.RowKit
open Go.ChangeMaps (open_string shut_string)
set_option linter.unusedVariables false

theorem own : ownKnob Try.prog.godebug = none := by kernel_rfl
theorem laidOut : laidOutB Try.prog = true := by kernel_rfl

/-! The walk: the Go text returns true and writes nothing that was there. -/
set_option linter.unusedSimpArgs false in
set_option maxRecDepth 100000 in
set_option maxHeartbeats 4000000 in
theorem walk (a0 : Bnd.Cf) (a1 : Int) (w : World) (w0 : Bnd.OkCf w a0) (w1 : (Lit.int .u8 a1).wf = true) :
    Calls Try.prog 7 #[Bnd.cval a0, .int .u8 a1] w fun e w' => e = .returned (.bool true) ∧ Below w.heap.size w w' := by
  have hn := w0.n
  obtain ⟨y0, y1⟩ := bounds_u8 w1
  have C9 := Lib.hid (fun W => Bnd.works26_any W)
  have CO := Lib.hid (fun W => Bnd.bof_any a0 hn W)
  have CE := Lib.hid (fun W => Bnd.en_any a0 hn W)
  have CR := Lib.hid (fun W => Bnd.ren_any a0 W)
  unfold Bnd.ofN Bnd.ofE at CO
  clear w0 w1 hn
  cases he : Bnd.enB a0 with
  | false =>
    rw [he] at CE CR
    obtain ⟨m, hm⟩ : ∃ m, (if Bnd.goodC a0 = true then Bnd.num a0 else Bnd.nm0) = m := ⟨_, rfl⟩
    obtain ⟨er, her⟩ : ∃ m : Int, (if Bnd.goodC a0 = true then 0 else 17) = m := ⟨_, rfl⟩
    rw [hm, her] at CO
    clear he hm her
    obtain ⟨n, lk, lL, lC, lS, fl, a, b, r, v, pr, pw, pa, x1, x2, x3, x4, x5⟩ := a0
    obtain ⟨h, f, s, l, rd, ag, st, ep, mo, cd, ro, de, dn, jn⟩ := m
    unfold Bnd.cval Bnd.ccells at *
    dsimp only at *
    unfold Bnd.nval Bnd.ncells at *
    dsimp only at *
    have BE := Lib.hid (show Below w.heap.size w (w.alloc (.cells #[.int .i64 n, .slice lk lL lC, .int .i64 fl, .int .i64 a, .int .i64 b, .int .i64 r, .int .i64 v, .int .i64 pr, .int .i64 pw, .int .i64 pa, .int .i64 x1, .int .i64 x2, .int .i64 x3, .int .i64 x4, .int .i64 x5] 24)) from (Below.refl _ _).alloc (Nat.le_refl _) _)
    have HC : Hid (∀ W, Below (w.alloc (.cells #[.int .i64 n, .slice lk lL lC, .int .i64 fl, .int .i64 a, .int .i64 b, .int .i64 r, .int .i64 v, .int .i64 pr, .int .i64 pw, .int .i64 pa, .int .i64 x1, .int .i64 x2, .int .i64 x3, .int .i64 x4, .int .i64 x5] 24)).heap.size (w.alloc (.cells #[.int .i64 n, .slice lk lL lC, .int .i64 fl, .int .i64 a, .int .i64 b, .int .i64 r, .int .i64 v, .int .i64 pr, .int .i64 pw, .int .i64 pa, .int .i64 x1, .int .i64 x2, .int .i64 x3, .int .i64 x4, .int .i64 x5] 24)) W → Rw.Blk W w.heap.size 24 #[.int .i64 n, .slice lk lL lC, .int .i64 fl, .int .i64 a, .int .i64 b, .int .i64 r, .int .i64 v, .int .i64 pr, .int .i64 pw, .int .i64 pa, .int .i64 x1, .int .i64 x2, .int .i64 x3, .int .i64 x4, .int .i64 x5]) := Lib.hid (fun W hB => Rw.Blk.below (Rw.Blk.new w _ _) hB)
    go_enter Try.func7, Try.ntmps7
    go_wp2_with fail
    refine (CO.out _).mono ?_; rintro e w1 ⟨rfl, hB⟩
    have B1 := Lib.hid (BE.out.trans (hB.mono BE.out.size))
    have K1 := Lib.hid (HC.out _ hB)
    clear hB BE HC
    have B2 := Lib.hid (B1.out.alloc B1.out.size (.cells #[.int .i64 h, .int .i64 f, .int .i64 s, .int .i64 l, .int .i64 rd, .int .i64 ag, .int .i64 st, .int .i64 ep, .int .i64 mo, .int .i64 cd, .int .i64 ro, .int .i64 de, .int .i64 dn, .int .i64 jn] 26))
    have K2 := Lib.hid (K1.out.alloc (.cells #[.int .i64 h, .int .i64 f, .int .i64 s, .int .i64 l, .int .i64 rd, .int .i64 ag, .int .i64 st, .int .i64 ep, .int .i64 mo, .int .i64 cd, .int .i64 ro, .int .i64 de, .int .i64 dn, .int .i64 jn] 26))
    clear K1
    obtain ⟨c0, c1, c2, c3, c4, c5, c6, c7, c8, c9, c10, c11, c12, c13, c14⟩ := Bnd.conf15 K2.out
    go_wp2_with fail
    refine (CE.out _).mono ?_; rintro e w2 ⟨rfl, hB⟩
    have K3 := Lib.hid (K2.out.below hB)
    have B2b := Lib.hid (B2.out.trans (hB.mono B2.out.size))
    clear hB K2 B1 B2 c0 c1 c2 c3 c4 c5 c6 c7 c8 c9 c10 c11 c12 c13 c14
    obtain ⟨c0, c1, c2, c3, c4, c5, c6, c7, c8, c9, c10, c11, c12, c13, c14⟩ := Bnd.conf15 K3.out
    go_wp2_with fail
    refine (CR.out _).mono ?_; rintro e w3 ⟨rfl, hB⟩
    have B3 := Lib.hid (B2b.out.trans (hB.mono B2b.out.size))
    clear hB B2b K3 c0 c1 c2 c3 c4 c5 c6 c7 c8 c9 c10 c11 c12 c13 c14
    go_wp2_with fail
    refine (C9.out _).mono ?_; rintro e w4 ⟨rfl, hB⟩
    have B4 := Lib.hid (B3.out.trans (hB.mono B3.out.size))
    clear hB
    go_wp2_with fail
    go_ret
    exact ⟨rfl, B4.out⟩
  | true =>
    have hg : Bnd.goodC a0 = true := by unfold Bnd.enB at he; rw [Bool.and_eq_true] at he; exact he.1
    rw [he] at CE
    rw [hg, if_pos rfl, if_pos rfl] at CO
    unfold Bnd.enB at he
    simp only [Bool.and_eq_true, decide_eq_true_iff] at he
    obtain ⟨-, e1, e2, e3, e4⟩ := he
    have g0 := Bnd.good_yes hg
    have B := Bnd.num_bd g0
    have hde : (Bnd.num a0).delta = (Bnd.num a0).hops * ((Bnd.num a0).link + (Bnd.num a0).eps) + 2 * (Bnd.num a0).fast := rfl
    have hro : (Bnd.num a0).eps < (Bnd.num a0).rough := by
      have h1 : (Bnd.num a0).rough = (Bnd.num a0).eps + (Bnd.num a0).cold + (Bnd.num a0).most + Bnd.rndV a0 + 4 * (Bnd.num a0).fast := rfl
      have := B.cold; have := B.most; have := B.rnd; have := B.fast
      omega
    have hho : a0.n - 1 = (Bnd.num a0).hops := rfl
    obtain ⟨m, hm⟩ : ∃ m, Bnd.num a0 = m := ⟨_, rfl⟩
    rw [hm] at CO B e1 e3 e4 hde hro hho
    obtain ⟨p0, q0⟩ := B.hops
    obtain ⟨p1, q1⟩ := B.fast
    obtain ⟨p2, q2⟩ := B.link
    obtain ⟨p3, q3⟩ := B.eps
    obtain ⟨p4, q4⟩ := B.most
    obtain ⟨p5, q5⟩ := B.rough
    obtain ⟨p6, q6⟩ := B.delta
    obtain ⟨p7, q7⟩ := B.over
    obtain ⟨G9, G10⟩ := g0.R
    obtain ⟨G11, G12⟩ := g0.W
    obtain ⟨G13, G14⟩ := g0.A
    have G7 := g0.s0
    have G8 := g0.s1
    obtain ⟨hl0, hl1⟩ := Bnd.hl_bd (show 0 ≤ m.hops by omega) q0 p2 q2
    have hn2 : 2 ≤ a0.n := g0.n0
    have hpos : a0.n ≠ 0 := by omega
    obtain ⟨k, hk⟩ : ∃ k, a1 % a0.n = k := ⟨_, rfl⟩
    have k0 : 0 ≤ k := by rw [← hk]; exact Int.emod_nonneg _ hpos
    have k1 : k < a0.n := by rw [← hk]; exact Int.emod_lt_of_pos _ (by omega)
    have hkt : a1.tmod a0.n = k := by rw [Int.tmod_eq_emod_of_nonneg y0, hk]
    have CL := Lib.hid (fun W => Bnd.late_any m k m.eps (by omega) (by omega) (by omega) W)
    have HL : Bnd.lateV m k m.eps < m.delta := by
      unfold Bnd.lateV
      rw [if_pos ⟨k0, by omega, p3, by omega⟩, hde, ← Int.mul_add]
      have := Int.mul_le_mul_of_nonneg_right (show k ≤ m.hops by omega) (show 0 ≤ m.link + m.eps by omega)
      omega
    have HL0 : 0 ≤ Bnd.lateV m k m.eps := by
      unfold Bnd.lateV
      rw [if_pos ⟨k0, by omega, p3, by omega⟩, ← Int.mul_add]
      have := Int.mul_nonneg k0 (show 0 ≤ m.link + m.eps by omega)
      omega
    generalize Bnd.lateV m k m.eps = la at *
    obtain ⟨hl, hhl⟩ : ∃ hl, m.hops * m.link = hl := ⟨_, rfl⟩
    rw [hhl] at e1 hl0 hl1
    have hq2 : (a0.round - 2 * a0.window) / m.fast ≤ (a0.round - a0.window - m.eps) / m.fast := Int.ediv_le_ediv (by omega) (by omega)
    obtain ⟨z0, z1⟩ := Bnd.q_bd (p := a0.round - a0.window - m.eps) (f := m.fast) (by omega) (by omega) p1
    have hsl2 := Int.mul_le_mul_of_nonneg_left (show (a0.round - 2 * a0.window) / m.fast - 2 ≤ (a0.round - a0.window - m.eps) / m.fast - 2 by omega) (show 0 ≤ a0.slew by omega)
    have htd : (a0.round - a0.window - m.eps).tdiv m.fast = (a0.round - a0.window - m.eps) / m.fast := Int.tdiv_eq_ediv_of_nonneg (by omega)
    obtain ⟨q, hq⟩ : ∃ q, (a0.round - a0.window - m.eps) / m.fast = q := ⟨_, rfl⟩
    rw [hq] at hsl2 z0 z1 htd
    obtain ⟨r0, r1⟩ := Bnd.sl_bd G7 G8 z0 z1
    obtain ⟨sl, hs⟩ : ∃ sl, a0.slew * (q - 2) = sl := ⟨_, rfl⟩
    rw [hs] at hsl2 r0 r1
    have hmo : m.most ≤ sl := by omega
    have hne : m.fast ≠ 0 := by omega
    clear hg hm B g0 hde hho hq2 hsl2 e3 p7 q7
    obtain ⟨n, lk, lL, lC, lS, fl, a, b, r, v, pr, pw, pa, x1, x2, x3, x4, x5⟩ := a0
    obtain ⟨h, f, s, l, rd, ag, st, ep, mo, cd, ro, de, dn, jn⟩ := m
    unfold Bnd.cval Bnd.ccells at *
    dsimp only at *
    unfold Bnd.nval Bnd.ncells at *
    dsimp only at *
    have BE := Lib.hid (show Below w.heap.size w (w.alloc (.cells #[.int .i64 n, .slice lk lL lC, .int .i64 fl, .int .i64 a, .int .i64 b, .int .i64 r, .int .i64 v, .int .i64 pr, .int .i64 pw, .int .i64 pa, .int .i64 x1, .int .i64 x2, .int .i64 x3, .int .i64 x4, .int .i64 x5] 24)) from (Below.refl _ _).alloc (Nat.le_refl _) _)
    have HC : Hid (∀ W, Below (w.alloc (.cells #[.int .i64 n, .slice lk lL lC, .int .i64 fl, .int .i64 a, .int .i64 b, .int .i64 r, .int .i64 v, .int .i64 pr, .int .i64 pw, .int .i64 pa, .int .i64 x1, .int .i64 x2, .int .i64 x3, .int .i64 x4, .int .i64 x5] 24)).heap.size (w.alloc (.cells #[.int .i64 n, .slice lk lL lC, .int .i64 fl, .int .i64 a, .int .i64 b, .int .i64 r, .int .i64 v, .int .i64 pr, .int .i64 pw, .int .i64 pa, .int .i64 x1, .int .i64 x2, .int .i64 x3, .int .i64 x4, .int .i64 x5] 24)) W → Rw.Blk W w.heap.size 24 #[.int .i64 n, .slice lk lL lC, .int .i64 fl, .int .i64 a, .int .i64 b, .int .i64 r, .int .i64 v, .int .i64 pr, .int .i64 pw, .int .i64 pa, .int .i64 x1, .int .i64 x2, .int .i64 x3, .int .i64 x4, .int .i64 x5]) := Lib.hid (fun W hB => Rw.Blk.below (Rw.Blk.new w _ _) hB)
    have b1 : decide (mo ≤ sl) = true := decide_eq_true hmo
    have b2 : decide (ep + hl + 2 * f ≤ pw) = true := decide_eq_true (by omega)
    have b3 : decide (la < de) = true := decide_eq_true HL
    have b4 : decide (de < pa) = true := decide_eq_true (by omega)
    have b5 : decide (ep < ro) = true := decide_eq_true hro
    have b6 : decide (ro < pw) = true := decide_eq_true (by omega)
    have b7 : decide (n < 2) = false := decide_eq_false (by omega)
    have b8 : decide (f < 1) = false := decide_eq_false (by omega)
    have nb : 0 ≤ pr - pw - ep := by omega
    go_enter Try.func7, Try.ntmps7
    go_wp2_with fail
    refine (CO.out _).mono ?_; rintro e w1 ⟨rfl, hB⟩
    have B1 := Lib.hid (BE.out.trans (hB.mono BE.out.size))
    have K1 := Lib.hid (HC.out _ hB)
    clear hB BE HC
    have B2 := Lib.hid (B1.out.alloc B1.out.size (.cells #[.int .i64 h, .int .i64 f, .int .i64 s, .int .i64 l, .int .i64 rd, .int .i64 ag, .int .i64 st, .int .i64 ep, .int .i64 mo, .int .i64 cd, .int .i64 ro, .int .i64 de, .int .i64 dn, .int .i64 jn] 26))
    have K2 := Lib.hid (K1.out.alloc (.cells #[.int .i64 h, .int .i64 f, .int .i64 s, .int .i64 l, .int .i64 rd, .int .i64 ag, .int .i64 st, .int .i64 ep, .int .i64 mo, .int .i64 cd, .int .i64 ro, .int .i64 de, .int .i64 dn, .int .i64 jn] 26))
    have N2 := Lib.hid (Rw.Blk.new w1 26 #[.int .i64 h, .int .i64 f, .int .i64 s, .int .i64 l, .int .i64 rd, .int .i64 ag, .int .i64 st, .int .i64 ep, .int .i64 mo, .int .i64 cd, .int .i64 ro, .int .i64 de, .int .i64 dn, .int .i64 jn])
    clear K1
    obtain ⟨c0, c1, c2, c3, c4, c5, c6, c7, c8, c9, c10, c11, c12, c13, c14⟩ := Bnd.conf15 K2.out
    go_wp2_with fail
    refine (CE.out _).mono ?_; rintro e w2 ⟨rfl, hB⟩
    have K3 := Lib.hid (K2.out.below hB)
    have N3 := Lib.hid (N2.out.below hB)
    have B3 := Lib.hid (B2.out.trans (hB.mono B2.out.size))
    clear hB K2 N2 B1 B2 c0 c1 c2 c3 c4 c5 c6 c7 c8 c9 c10 c11 c12 c13 c14
    generalize w1.heap.size = g at *
    obtain ⟨c0, -, -, -, -, -, c6, c7, c8, c9, -, -, -, -, -⟩ := Bnd.conf15 K3.out
    obtain ⟨-, u1, -, -, -, -, -, u7, -, -, -, -, -, -⟩ := Bnd.nums14 N3.out
    go_upto_region 7 with fail
    go_quiet (fail)
    have B4 := Lib.hid (Own.below_drewN B3.out nq)
    have K4 := Lib.hid (K3.out.below (Own.below_drewN (Below.refl _ _) nq))
    have N4 := Lib.hid (N3.out.below (Own.below_drewN (Below.refl _ _) nq))
    clear c0 c6 c7 c8 c9 u1 u7
    generalize w2.drewN nq = w3 at *
    clear K3 N3 B3
    go_upto_region 8 with fail
    have c0 : ∀ z : Qui.Cls w3, z.V.cell? ⟨w.heap.size, 0, none⟩ = some (.int .i64 n) := fun z => (K4.out.below z.lies).cell 0
    have c1 : ∀ z : Qui.Cls w3, z.V.cell? ⟨w.heap.size, 1, none⟩ = some (.slice lk lL lC) := fun z => (K4.out.below z.lies).cell 1
    have c2 : ∀ z : Qui.Cls w3, z.V.cell? ⟨w.heap.size, 2, none⟩ = some (.int .i64 fl) := fun z => (K4.out.below z.lies).cell 2
    have c3 : ∀ z : Qui.Cls w3, z.V.cell? ⟨w.heap.size, 3, none⟩ = some (.int .i64 a) := fun z => (K4.out.below z.lies).cell 3
    have c4 : ∀ z : Qui.Cls w3, z.V.cell? ⟨w.heap.size, 4, none⟩ = some (.int .i64 b) := fun z => (K4.out.below z.lies).cell 4
    have c5 : ∀ z : Qui.Cls w3, z.V.cell? ⟨w.heap.size, 5, none⟩ = some (.int .i64 r) := fun z => (K4.out.below z.lies).cell 5
    have c6 : ∀ z : Qui.Cls w3, z.V.cell? ⟨w.heap.size, 6, none⟩ = some (.int .i64 v) := fun z => (K4.out.below z.lies).cell 6
    have c7 : ∀ z : Qui.Cls w3, z.V.cell? ⟨w.heap.size, 7, none⟩ = some (.int .i64 pr) := fun z => (K4.out.below z.lies).cell 7
    have c8 : ∀ z : Qui.Cls w3, z.V.cell? ⟨w.heap.size, 8, none⟩ = some (.int .i64 pw) := fun z => (K4.out.below z.lies).cell 8
    have c9 : ∀ z : Qui.Cls w3, z.V.cell? ⟨w.heap.size, 9, none⟩ = some (.int .i64 pa) := fun z => (K4.out.below z.lies).cell 9
    have c10 : ∀ z : Qui.Cls w3, z.V.cell? ⟨w.heap.size, 10, none⟩ = some (.int .i64 x1) := fun z => (K4.out.below z.lies).cell 10
    have c11 : ∀ z : Qui.Cls w3, z.V.cell? ⟨w.heap.size, 11, none⟩ = some (.int .i64 x2) := fun z => (K4.out.below z.lies).cell 11
    have c12 : ∀ z : Qui.Cls w3, z.V.cell? ⟨w.heap.size, 12, none⟩ = some (.int .i64 x3) := fun z => (K4.out.below z.lies).cell 12
    have c13 : ∀ z : Qui.Cls w3, z.V.cell? ⟨w.heap.size, 13, none⟩ = some (.int .i64 x4) := fun z => (K4.out.below z.lies).cell 13
    have c14 : ∀ z : Qui.Cls w3, z.V.cell? ⟨w.heap.size, 14, none⟩ = some (.int .i64 x5) := fun z => (K4.out.below z.lies).cell 14
    have u0 : ∀ z : Qui.Cls w3, z.V.cell? ⟨g, 0, none⟩ = some (.int .i64 h) := fun z => (N4.out.below z.lies).cell 0
    have u1 : ∀ z : Qui.Cls w3, z.V.cell? ⟨g, 1, none⟩ = some (.int .i64 f) := fun z => (N4.out.below z.lies).cell 1
    have u2 : ∀ z : Qui.Cls w3, z.V.cell? ⟨g, 2, none⟩ = some (.int .i64 s) := fun z => (N4.out.below z.lies).cell 2
    have u3 : ∀ z : Qui.Cls w3, z.V.cell? ⟨g, 3, none⟩ = some (.int .i64 l) := fun z => (N4.out.below z.lies).cell 3
    have u4 : ∀ z : Qui.Cls w3, z.V.cell? ⟨g, 4, none⟩ = some (.int .i64 rd) := fun z => (N4.out.below z.lies).cell 4
    have u5 : ∀ z : Qui.Cls w3, z.V.cell? ⟨g, 5, none⟩ = some (.int .i64 ag) := fun z => (N4.out.below z.lies).cell 5
    have u6 : ∀ z : Qui.Cls w3, z.V.cell? ⟨g, 6, none⟩ = some (.int .i64 st) := fun z => (N4.out.below z.lies).cell 6
    have u7 : ∀ z : Qui.Cls w3, z.V.cell? ⟨g, 7, none⟩ = some (.int .i64 ep) := fun z => (N4.out.below z.lies).cell 7
    have u8 : ∀ z : Qui.Cls w3, z.V.cell? ⟨g, 8, none⟩ = some (.int .i64 mo) := fun z => (N4.out.below z.lies).cell 8
    have u9 : ∀ z : Qui.Cls w3, z.V.cell? ⟨g, 9, none⟩ = some (.int .i64 cd) := fun z => (N4.out.below z.lies).cell 9
    have u10 : ∀ z : Qui.Cls w3, z.V.cell? ⟨g, 10, none⟩ = some (.int .i64 ro) := fun z => (N4.out.below z.lies).cell 10
    have u11 : ∀ z : Qui.Cls w3, z.V.cell? ⟨g, 11, none⟩ = some (.int .i64 de) := fun z => (N4.out.below z.lies).cell 11
    have u12 : ∀ z : Qui.Cls w3, z.V.cell? ⟨g, 12, none⟩ = some (.int .i64 dn) := fun z => (N4.out.below z.lies).cell 12
    have u13 : ∀ z : Qui.Cls w3, z.V.cell? ⟨g, 13, none⟩ = some (.int .i64 jn) := fun z => (N4.out.below z.lies).cell 13
    refine Qui.wp_region_quiet_below (by kernel_rfl) (by kernel_rfl) ?_
    repeat (go_big_quiet_step (first | (with_reducible exact Qui.cls_below (CL.out _)) | (with_reducible exact Qui.cls_below (C9.out _))))
    refine wpQuiet_nil ?_
    intro _ hw'
    obtain ⟨zz, rfl⟩ := hw'
    have B9 := Lib.hid (B4.out.trans (zz.lies.mono B4.out.size))
    generalize zz.V = V at *
    clear c0 c1 c2 c3 c4 c5 c6 c7 c8 c9 c10 c11 c12 c13 c14 u0 u1 u2 u3 u4 u5 u6 u7 u8 u9 u10 u11 u12 u13
    go_wp2_with fail
    go_ret
    exact ⟨rfl, B9.out⟩

set_option maxRecDepth 100000 in
theorem lifted (os : Os) (started : os.Started) (H : Type) (enc : TypeId × Value → H) :
    ReturnsInHanded {} Try.checked os 7 .any (Rows.boundHoldsSpec.pre6 enc Try.prog Try.f7 Rows.boundHoldsRow.domain false) (Rows.boundHoldsSpec.post enc Try.prog Try.f7 false true false false) := by
  refine returnsInHanded_of_change (C := Try.checked) own started (by kernel_rfl) Try.func7
    (ChangeSpec.witness6 (enc := enc) (C := Try.checked) false ⟨#[], #[(.agg #[.int .i64 0, .slice none 0 0, .int .i64 0, .int .i64 0, .int .i64 0, .int .i64 0, .int .i64 0, .int .i64 0, .int .i64 0, .int .i64 0, .int .i64 0, .int .i64 0, .int .i64 0, .int .i64 0, .int .i64 0]), .int .u8 0], []⟩ 8 (by kernel_rfl) (by kernel_rfl) (by kernel_rfl) (by kernel_rfl)) ?_
  intro W base args ds gs before hval0 hW hcnd _
  have hval : ∀ (j : Nat) t v, Try.f7.params[j]? = some t → args[j]? = some v → Value.okWide Try.prog W .any base t v := hval0
  have hW' := hW
  obtain ⟨p, q, hA0, hV, rfl, hfz, hnd⟩ := hW
  have hA : DataW.TrodAll enc Try.prog W 0 (fun _ => true) true Try.f7.params.toList args.toList ds p := hA0
  rw [Try.params7] at hA hval
  obtain ⟨v0, vs0, d0, ds0, p0, q0, hargs, rfl, rfl, h0, r0⟩ := trodAll_cons hA
  obtain ⟨v1, vs1, d1, ds1, p1, q1, rfl, rfl, rfl, h1, r1⟩ := trodAll_cons r0
  obtain ⟨rfl, rfl, rfl⟩ := trodAll_nil r1
  obtain rfl : args = #[v0, v1] := by cases args; simp_all
  obtain ⟨rfl, rfl⟩ := trodVars_none hV
  have k0 := h0
  have lt0 : ∀ x ∈ p0, x.block < W.heap.size := by obtain ⟨m, hm⟩ := k0; exact DataW.trod_lt m _ _ _ hm
  obtain ⟨a0, rfl, w0⟩ := Bnd.open_cf (hval 0 24 v0 rfl rfl) h0
  obtain ⟨a1, rfl, rfl, rfl, w1⟩ := open_int Try.underlying5 (hval 1 5 v1 rfl rfl) h1
  clear hA0 hval0
  refine (walk a0 a1 W w0 w1).mono fun e W' ⟨he, bel⟩ => ?_
  subst he
  exact ⟨_, rfl, _, _, _, [], _, [], hW', trodAll_mk1 (shut_bool Try.underlying4 _), (trodAll_cons_mk (Below.trod laidOut (by kernel_rfl) (of_decide_eq_true (by kernel_rfl)) k0 bel lt0) (trodAll_cons_mk (shut_int Try.underlying5 w1) trodAll_mk0)), rfl, bel.frame _, fun h => by cases h⟩

theorem over : Rows.boundHoldsRow.holds Try.pinned (OpenSpec.ofChange Rows.boundHoldsSpec) :=
  OpenClaim.holds_of_wide 7 Try.f7 rfl rfl rfl rfl rfl rfl rfl ⟨rfl, rfl, rfl, rfl, rfl⟩ rfl rfl rfl rfl rfl (by kernel_rfl) Try.func7 (by kernel_rfl)
    (of_decide_eq_true (by kernel_rfl)) (by unfold Func.isWrapper; first | (rw [if_pos (by decide +kernel)]; kernel_rfl) | (rw [if_neg (by decide +kernel)]; exact ⟨rfl, rfl⟩))
    (fun os started H enc _ => lifted os started H enc)

theorem proved : Rows.BoundHoldsSaid := over
#print axioms proved
end Go.Proofs.Ytbbenfjfdmnpmaa.lawBoundHolds
