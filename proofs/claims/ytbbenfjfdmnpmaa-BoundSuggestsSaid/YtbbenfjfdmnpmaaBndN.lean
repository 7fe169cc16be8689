/- Contracts of package bound (layer 26): Enough, the program's. Written by gen/bnd_en.py. -/
import Derived.Test.YtbbenfjfdmnpmaaBndE
import Derived.Test.YtbbenfjfdmnpmaaQuiB
namespace Go.Proofs.Ytbbenfjfdmnpmaa.Bnd
open Go.ChangeShapes Go.WideShapes Go.ChangeAt Go.RowKit
open Go.Proofs.Ytbbenfjfdmnpmaa.Rw
set_option linter.unusedVariables false
set_option linter.unusedSimpArgs false
/-- Whether periods are wide enough. -/
def enB (c : Cf) : Bool := goodC c && (decide (2 * (num c).rough + (num c).eps + (num c).hops * (num c).link + 4 * (num c).fast ≤ c.window) && (decide (4 * c.window ≤ c.round) && (decide ((num c).most ≤ c.slew * ((c.round - 2 * c.window) / (num c).fast - 2)) && decide (2 * (num c).delta ≤ c.attend))))
theorem hl_bd {h l : Int} (h0 : 0 ≤ h) (h1 : h ≤ 63) (l0 : 0 ≤ l) (l1 : l ≤ 86016) : 0 ≤ h * l ∧ h * l ≤ 5419008 :=
  ⟨Int.mul_nonneg h0 l0, by have := Int.mul_le_mul h1 l1 l0 (by omega : (0 : Int) ≤ 63); omega⟩
theorem q_bd {p f : Int} (p0 : 0 ≤ p) (p1 : p ≤ 1099511627776) (f0 : 1025 ≤ f) : 0 ≤ p / f ∧ p / f ≤ 1099511627776 :=
  ⟨Int.ediv_nonneg p0 (by omega), Int.le_trans (Int.ediv_le_self _ p0) p1⟩
theorem sl_bd {v q : Int} (v0 : 1 ≤ v) (v1 : v ≤ 256) (q0 : 0 ≤ q) (q1 : q ≤ 1099511627776) : -512 ≤ v * (q - 2) ∧ v * (q - 2) ≤ 281474976710656 := by
  rw [Int.mul_sub]
  have h1 : 0 ≤ v * q := Int.mul_nonneg (by omega) q0
  have h2 := Int.mul_le_mul v1 q1 q0 (by omega : (0 : Int) ≤ 256)
  omega
set_option maxRecDepth 100000 in
set_option maxHeartbeats 4000000 in
theorem en_bad (c : Cf) (hn : -9223372036854775808 ≤ c.n ∧ c.n ≤ 9223372036854775807) (g0 : goodC c = false) (w : World) :
    Calls Try.prog 13 #[cval c] w fun e w' => e = .returned (.bool false) ∧ Below w.heap.size w w' := by
  have CO := Lib.hid (fun W => bof_bad c hn g0 W)
  clear g0 hn
  obtain ⟨n, lk, lL, lC, lS, fl, a, b, r, v, pr, pw, pa, x1, x2, x3, x4, x5⟩ := c
  unfold nval ncells nm0 cval ccells at *
  dsimp only at CO ⊢
  have BE := Lib.hid (show Below w.heap.size w (w.alloc (.cells #[.int .i64 n, .slice lk lL lC, .int .i64 fl, .int .i64 a, .int .i64 b, .int .i64 r, .int .i64 v, .int .i64 pr, .int .i64 pw, .int .i64 pa, .int .i64 x1, .int .i64 x2, .int .i64 x3, .int .i64 x4, .int .i64 x5] 24)) from (Below.refl _ _).alloc (Nat.le_refl _) _)
  go_enter Try.func13, Try.ntmps13
  go_wp2_with fail
  refine (CO.out _).mono ?_; rintro e w1 ⟨rfl, hB⟩
  have B1 := Lib.hid (BE.out.trans (hB.mono BE.out.size))
  clear hB BE
  go_upto_region 2 with fail
  refine Qui.wp_region_quiet_below (by kernel_rfl) (by kernel_rfl) ?_
  repeat (go_big_quiet_step (fail))
  refine wpQuiet_nil ?_
  intro _ hw'
  obtain ⟨zz, rfl⟩ := hw'
  have B2 := Lib.hid ((B1.out.alloc B1.out.size _).trans (zz.lies.mono (B1.out.alloc B1.out.size _).size))
  generalize zz.V = V at *
  go_wp2_with fail
  go_ret
  exact ⟨rfl, B2.out⟩
set_option maxRecDepth 100000 in
set_option maxHeartbeats 4000000 in
theorem en_good (c : Cf) (g0 : Good c) (w : World) :
    Calls Try.prog 13 #[cval c] w fun e w' => e = .returned (.bool (enB c)) ∧ Below w.heap.size w w' := by
  have CO := Lib.hid (fun W => bof_good c g0 W)
  have B := num_bd g0
  have HE : enB c = (decide (2 * (num c).rough + (num c).eps + (num c).hops * (num c).link + 4 * (num c).fast ≤ c.window) && (decide (4 * c.window ≤ c.round) && (decide ((num c).most ≤ c.slew * ((c.round - 2 * c.window) / (num c).fast - 2)) && decide (2 * (num c).delta ≤ c.attend)))) := by
    unfold enB
    rw [good_mk g0, Bool.true_and]
  rw [HE]
  clear HE
  obtain ⟨p0, q0⟩ := B.hops
  obtain ⟨p1, q1⟩ := B.fast
  obtain ⟨p2, q2⟩ := B.link
  obtain ⟨p3, q3⟩ := B.eps
  obtain ⟨p4, q4⟩ := B.most
  obtain ⟨p5, q5⟩ := B.rough
  obtain ⟨p6, q6⟩ := B.delta
  obtain ⟨G9, G10⟩ := g0.R
  obtain ⟨G11, G12⟩ := g0.W
  obtain ⟨G13, G14⟩ := g0.A
  have G7 := g0.s0
  have G8 := g0.s1
  obtain ⟨hl0, hl1⟩ := hl_bd (show 0 ≤ (num c).hops by omega) q0 p2 q2
  have CV := Lib.hid (fun W => over_any (num c) (num c).link ((num c).hops * (num c).link) rfl (by omega) W)
  generalize num c = m at *
  obtain ⟨n, lk, lL, lC, lS, fl, a, b, r, v, pr, pw, pa, x1, x2, x3, x4, x5⟩ := c
  obtain ⟨h, f, s, l, rd, ag, st, ep, mo, cd, ro, de, dn, jn⟩ := m
  clear B g0
  unfold nval ncells cval ccells at *
  dsimp only at *
  generalize h * l = hl at *
  have BE := Lib.hid (show Below w.heap.size w (w.alloc (.cells #[.int .i64 n, .slice lk lL lC, .int .i64 fl, .int .i64 a, .int .i64 b, .int .i64 r, .int .i64 v, .int .i64 pr, .int .i64 pw, .int .i64 pa, .int .i64 x1, .int .i64 x2, .int .i64 x3, .int .i64 x4, .int .i64 x5] 24)) from (Below.refl _ _).alloc (Nat.le_refl _) _)
  have HC : Hid (∀ W, Below (w.alloc (.cells #[.int .i64 n, .slice lk lL lC, .int .i64 fl, .int .i64 a, .int .i64 b, .int .i64 r, .int .i64 v, .int .i64 pr, .int .i64 pw, .int .i64 pa, .int .i64 x1, .int .i64 x2, .int .i64 x3, .int .i64 x4, .int .i64 x5] 24)).heap.size (w.alloc (.cells #[.int .i64 n, .slice lk lL lC, .int .i64 fl, .int .i64 a, .int .i64 b, .int .i64 r, .int .i64 v, .int .i64 pr, .int .i64 pw, .int .i64 pa, .int .i64 x1, .int .i64 x2, .int .i64 x3, .int .i64 x4, .int .i64 x5] 24)) W → Blk W w.heap.size 24 #[.int .i64 n, .slice lk lL lC, .int .i64 fl, .int .i64 a, .int .i64 b, .int .i64 r, .int .i64 v, .int .i64 pr, .int .i64 pw, .int .i64 pa, .int .i64 x1, .int .i64 x2, .int .i64 x3, .int .i64 x4, .int .i64 x5]) := Lib.hid (fun W hB => Blk.below (Blk.new w _ _) hB)
  have hq0 := q_bd (p := pr - 2 * pw) (f := f)
  obtain ⟨q, hq⟩ : ∃ q, (pr - 2 * pw) / f = q := ⟨_, rfl⟩
  rw [hq] at hq0 ⊢
  have hsl := sl_bd (v := v) (q := q) G7 G8
  obtain ⟨sl, hs⟩ : ∃ sl, v * (q - 2) = sl := ⟨_, rfl⟩
  rw [hs] at hsl ⊢
  have HT : Hid (0 ≤ pr - 2 * pw → (pr - 2 * pw).tdiv f = q) := Lib.hid (fun h => by rw [Int.tdiv_eq_ediv_of_nonneg h, hq])
  have HQ := Lib.hid hq
  have HSl := Lib.hid hs
  have Hq0 := Lib.hid hq0
  have Hsl := Lib.hid hsl
  clear hq hs hq0 hsl
  by_cases t1 : 2 * ro + ep + hl + 4 * f ≤ pw
  rotate_left
  · have d1 : decide (2 * ro + ep + hl + 4 * f ≤ pw) = false := decide_eq_false t1
    rw [d1, Bool.false_and]
    go_enter Try.func13, Try.ntmps13
    go_wp2_with fail
    refine (CO.out _).mono ?_; rintro e w1 ⟨rfl, hB⟩
    have K1 := Lib.hid (HC.out _ hB)
    have B1 := Lib.hid (BE.out.trans (hB.mono BE.out.size))
    have hlt := K1.out.lt
    clear hB BE HC
    go_upto_region 2 with fail
    have HX : Hid (∀ V, Below (w1.alloc (.cells #[.int .i64 h, .int .i64 f, .int .i64 s, .int .i64 l, .int .i64 rd, .int .i64 ag, .int .i64 st, .int .i64 ep, .int .i64 mo, .int .i64 cd, .int .i64 ro, .int .i64 de, .int .i64 dn, .int .i64 jn] 26)).heap.size (w1.alloc (.cells #[.int .i64 h, .int .i64 f, .int .i64 s, .int .i64 l, .int .i64 rd, .int .i64 ag, .int .i64 st, .int .i64 ep, .int .i64 mo, .int .i64 cd, .int .i64 ro, .int .i64 de, .int .i64 dn, .int .i64 jn] 26)) V → Below w.heap.size w V ∧ Blk V w.heap.size 24 #[.int .i64 n, .slice lk lL lC, .int .i64 fl, .int .i64 a, .int .i64 b, .int .i64 r, .int .i64 v, .int .i64 pr, .int .i64 pw, .int .i64 pa, .int .i64 x1, .int .i64 x2, .int .i64 x3, .int .i64 x4, .int .i64 x5] ∧ Blk V w1.heap.size 26 #[.int .i64 h, .int .i64 f, .int .i64 s, .int .i64 l, .int .i64 rd, .int .i64 ag, .int .i64 st, .int .i64 ep, .int .i64 mo, .int .i64 cd, .int .i64 ro, .int .i64 de, .int .i64 dn, .int .i64 jn]) := Lib.hid (fun V hB =>
      have h1 := B1.out.alloc B1.out.size (.cells #[.int .i64 h, .int .i64 f, .int .i64 s, .int .i64 l, .int .i64 rd, .int .i64 ag, .int .i64 st, .int .i64 ep, .int .i64 mo, .int .i64 cd, .int .i64 ro, .int .i64 de, .int .i64 dn, .int .i64 jn] 26)
      ⟨h1.trans (hB.mono h1.size), (K1.out.alloc _).below hB, Blk.below (Blk.new w1 _ _) hB⟩)
    clear B1 K1 hlt
    generalize (w1.alloc (.cells #[.int .i64 h, .int .i64 f, .int .i64 s, .int .i64 l, .int .i64 rd, .int .i64 ag, .int .i64 st, .int .i64 ep, .int .i64 mo, .int .i64 cd, .int .i64 ro, .int .i64 de, .int .i64 dn, .int .i64 jn] 26)) = w2 at *
    generalize w1.heap.size = g at *
    have c6 : ∀ z : Qui.Cls w2, z.V.cell? ⟨w.heap.size, 6, none⟩ = some (.int .i64 v) := fun z => (HX.out _ z.lies).2.1.cell 6
    have c7 : ∀ z : Qui.Cls w2, z.V.cell? ⟨w.heap.size, 7, none⟩ = some (.int .i64 pr) := fun z => (HX.out _ z.lies).2.1.cell 7
    have c8 : ∀ z : Qui.Cls w2, z.V.cell? ⟨w.heap.size, 8, none⟩ = some (.int .i64 pw) := fun z => (HX.out _ z.lies).2.1.cell 8
    have c9 : ∀ z : Qui.Cls w2, z.V.cell? ⟨w.heap.size, 9, none⟩ = some (.int .i64 pa) := fun z => (HX.out _ z.lies).2.1.cell 9
    have u0 : ∀ z : Qui.Cls w2, z.V.cell? ⟨g, 0, none⟩ = some (.int .i64 h) := fun z => (HX.out _ z.lies).2.2.cell 0
    have u1 : ∀ z : Qui.Cls w2, z.V.cell? ⟨g, 1, none⟩ = some (.int .i64 f) := fun z => (HX.out _ z.lies).2.2.cell 1
    have u2 : ∀ z : Qui.Cls w2, z.V.cell? ⟨g, 2, none⟩ = some (.int .i64 s) := fun z => (HX.out _ z.lies).2.2.cell 2
    have u3 : ∀ z : Qui.Cls w2, z.V.cell? ⟨g, 3, none⟩ = some (.int .i64 l) := fun z => (HX.out _ z.lies).2.2.cell 3
    have u4 : ∀ z : Qui.Cls w2, z.V.cell? ⟨g, 4, none⟩ = some (.int .i64 rd) := fun z => (HX.out _ z.lies).2.2.cell 4
    have u5 : ∀ z : Qui.Cls w2, z.V.cell? ⟨g, 5, none⟩ = some (.int .i64 ag) := fun z => (HX.out _ z.lies).2.2.cell 5
    have u6 : ∀ z : Qui.Cls w2, z.V.cell? ⟨g, 6, none⟩ = some (.int .i64 st) := fun z => (HX.out _ z.lies).2.2.cell 6
    have u7 : ∀ z : Qui.Cls w2, z.V.cell? ⟨g, 7, none⟩ = some (.int .i64 ep) := fun z => (HX.out _ z.lies).2.2.cell 7
    have u8 : ∀ z : Qui.Cls w2, z.V.cell? ⟨g, 8, none⟩ = some (.int .i64 mo) := fun z => (HX.out _ z.lies).2.2.cell 8
    have u9 : ∀ z : Qui.Cls w2, z.V.cell? ⟨g, 9, none⟩ = some (.int .i64 cd) := fun z => (HX.out _ z.lies).2.2.cell 9
    have u10 : ∀ z : Qui.Cls w2, z.V.cell? ⟨g, 10, none⟩ = some (.int .i64 ro) := fun z => (HX.out _ z.lies).2.2.cell 10
    have u11 : ∀ z : Qui.Cls w2, z.V.cell? ⟨g, 11, none⟩ = some (.int .i64 de) := fun z => (HX.out _ z.lies).2.2.cell 11
    have u12 : ∀ z : Qui.Cls w2, z.V.cell? ⟨g, 12, none⟩ = some (.int .i64 dn) := fun z => (HX.out _ z.lies).2.2.cell 12
    have u13 : ∀ z : Qui.Cls w2, z.V.cell? ⟨g, 13, none⟩ = some (.int .i64 jn) := fun z => (HX.out _ z.lies).2.2.cell 13
    refine Qui.wp_region_quiet_below (by kernel_rfl) (by kernel_rfl) ?_
    repeat (go_big_quiet_step (first | (with_reducible exact Qui.cls_below (CV.out _))))
    refine wpQuiet_nil ?_
    intro _ hw'
    obtain ⟨zz, rfl⟩ := hw'
    have B9 := Lib.hid (HX.out _ zz.lies).1
    clear c6 c7 c8 c9 u0 u1 u2 u3 u4 u5 u6 u7 u8 u9 u10 u11 u12 u13 HX
    generalize zz.V = V at *
    go_wp2_with fail
    go_ret
    exact ⟨rfl, B9.out⟩
  have d1 : decide (2 * ro + ep + hl + 4 * f ≤ pw) = true := decide_eq_true t1
  rw [d1, Bool.true_and]
  by_cases t2 : 4 * pw ≤ pr
  rotate_left
  · have d2 : decide (4 * pw ≤ pr) = false := decide_eq_false t2
    rw [d2, Bool.false_and]
    go_enter Try.func13, Try.ntmps13
    go_wp2_with fail
    refine (CO.out _).mono ?_; rintro e w1 ⟨rfl, hB⟩
    have K1 := Lib.hid (HC.out _ hB)
    have B1 := Lib.hid (BE.out.trans (hB.mono BE.out.size))
    have hlt := K1.out.lt
    clear hB BE HC
    go_upto_region 2 with fail
    have HX : Hid (∀ V, Below (w1.alloc (.cells #[.int .i64 h, .int .i64 f, .int .i64 s, .int .i64 l, .int .i64 rd, .int .i64 ag, .int .i64 st, .int .i64 ep, .int .i64 mo, .int .i64 cd, .int .i64 ro, .int .i64 de, .int .i64 dn, .int .i64 jn] 26)).heap.size (w1.alloc (.cells #[.int .i64 h, .int .i64 f, .int .i64 s, .int .i64 l, .int .i64 rd, .int .i64 ag, .int .i64 st, .int .i64 ep, .int .i64 mo, .int .i64 cd, .int .i64 ro, .int .i64 de, .int .i64 dn, .int .i64 jn] 26)) V → Below w.heap.size w V ∧ Blk V w.heap.size 24 #[.int .i64 n, .slice lk lL lC, .int .i64 fl, .int .i64 a, .int .i64 b, .int .i64 r, .int .i64 v, .int .i64 pr, .int .i64 pw, .int .i64 pa, .int .i64 x1, .int .i64 x2, .int .i64 x3, .int .i64 x4, .int .i64 x5] ∧ Blk V w1.heap.size 26 #[.int .i64 h, .int .i64 f, .int .i64 s, .int .i64 l, .int .i64 rd, .int .i64 ag, .int .i64 st, .int .i64 ep, .int .i64 mo, .int .i64 cd, .int .i64 ro, .int .i64 de, .int .i64 dn, .int .i64 jn]) := Lib.hid (fun V hB =>
      have h1 := B1.out.alloc B1.out.size (.cells #[.int .i64 h, .int .i64 f, .int .i64 s, .int .i64 l, .int .i64 rd, .int .i64 ag, .int .i64 st, .int .i64 ep, .int .i64 mo, .int .i64 cd, .int .i64 ro, .int .i64 de, .int .i64 dn, .int .i64 jn] 26)
      ⟨h1.trans (hB.mono h1.size), (K1.out.alloc _).below hB, Blk.below (Blk.new w1 _ _) hB⟩)
    clear B1 K1 hlt
    generalize (w1.alloc (.cells #[.int .i64 h, .int .i64 f, .int .i64 s, .int .i64 l, .int .i64 rd, .int .i64 ag, .int .i64 st, .int .i64 ep, .int .i64 mo, .int .i64 cd, .int .i64 ro, .int .i64 de, .int .i64 dn, .int .i64 jn] 26)) = w2 at *
    generalize w1.heap.size = g at *
    have c6 : ∀ z : Qui.Cls w2, z.V.cell? ⟨w.heap.size, 6, none⟩ = some (.int .i64 v) := fun z => (HX.out _ z.lies).2.1.cell 6
    have c7 : ∀ z : Qui.Cls w2, z.V.cell? ⟨w.heap.size, 7, none⟩ = some (.int .i64 pr) := fun z => (HX.out _ z.lies).2.1.cell 7
    have c8 : ∀ z : Qui.Cls w2, z.V.cell? ⟨w.heap.size, 8, none⟩ = some (.int .i64 pw) := fun z => (HX.out _ z.lies).2.1.cell 8
    have c9 : ∀ z : Qui.Cls w2, z.V.cell? ⟨w.heap.size, 9, none⟩ = some (.int .i64 pa) := fun z => (HX.out _ z.lies).2.1.cell 9
    have u0 : ∀ z : Qui.Cls w2, z.V.cell? ⟨g, 0, none⟩ = some (.int .i64 h) := fun z => (HX.out _ z.lies).2.2.cell 0
    have u1 : ∀ z : Qui.Cls w2, z.V.cell? ⟨g, 1, none⟩ = some (.int .i64 f) := fun z => (HX.out _ z.lies).2.2.cell 1
    have u2 : ∀ z : Qui.Cls w2, z.V.cell? ⟨g, 2, none⟩ = some (.int .i64 s) := fun z => (HX.out _ z.lies).2.2.cell 2
    have u3 : ∀ z : Qui.Cls w2, z.V.cell? ⟨g, 3, none⟩ = some (.int .i64 l) := fun z => (HX.out _ z.lies).2.2.cell 3
    have u4 : ∀ z : Qui.Cls w2, z.V.cell? ⟨g, 4, none⟩ = some (.int .i64 rd) := fun z => (HX.out _ z.lies).2.2.cell 4
    have u5 : ∀ z : Qui.Cls w2, z.V.cell? ⟨g, 5, none⟩ = some (.int .i64 ag) := fun z => (HX.out _ z.lies).2.2.cell 5
    have u6 : ∀ z : Qui.Cls w2, z.V.cell? ⟨g, 6, none⟩ = some (.int .i64 st) := fun z => (HX.out _ z.lies).2.2.cell 6
    have u7 : ∀ z : Qui.Cls w2, z.V.cell? ⟨g, 7, none⟩ = some (.int .i64 ep) := fun z => (HX.out _ z.lies).2.2.cell 7
    have u8 : ∀ z : Qui.Cls w2, z.V.cell? ⟨g, 8, none⟩ = some (.int .i64 mo) := fun z => (HX.out _ z.lies).2.2.cell 8
    have u9 : ∀ z : Qui.Cls w2, z.V.cell? ⟨g, 9, none⟩ = some (.int .i64 cd) := fun z => (HX.out _ z.lies).2.2.cell 9
    have u10 : ∀ z : Qui.Cls w2, z.V.cell? ⟨g, 10, none⟩ = some (.int .i64 ro) := fun z => (HX.out _ z.lies).2.2.cell 10
    have u11 : ∀ z : Qui.Cls w2, z.V.cell? ⟨g, 11, none⟩ = some (.int .i64 de) := fun z => (HX.out _ z.lies).2.2.cell 11
    have u12 : ∀ z : Qui.Cls w2, z.V.cell? ⟨g, 12, none⟩ = some (.int .i64 dn) := fun z => (HX.out _ z.lies).2.2.cell 12
    have u13 : ∀ z : Qui.Cls w2, z.V.cell? ⟨g, 13, none⟩ = some (.int .i64 jn) := fun z => (HX.out _ z.lies).2.2.cell 13
    refine Qui.wp_region_quiet_below (by kernel_rfl) (by kernel_rfl) ?_
    repeat (go_big_quiet_step (first | (with_reducible exact Qui.cls_below (CV.out _))))
    refine wpQuiet_nil ?_
    intro _ hw'
    obtain ⟨zz, rfl⟩ := hw'
    have B9 := Lib.hid (HX.out _ zz.lies).1
    clear c6 c7 c8 c9 u0 u1 u2 u3 u4 u5 u6 u7 u8 u9 u10 u11 u12 u13 HX
    generalize zz.V = V at *
    go_wp2_with fail
    go_ret
    exact ⟨rfl, B9.out⟩
  have d2 : decide (4 * pw ≤ pr) = true := decide_eq_true t2
  rw [d2, Bool.true_and]
  obtain ⟨z0, z1⟩ := Hq0.out (by omega) (by omega) p1
  obtain ⟨y0, y1⟩ := Hsl.out z0 z1
  have htd := HT.out (by omega)
  have hed := HQ.out
  have hsv := HSl.out
  have hne : f ≠ 0 := by omega
  have hnb : 0 ≤ pr - 2 * pw := by omega
  by_cases t3 : mo ≤ sl
  rotate_left
  · have d3 : decide (mo ≤ sl) = false := decide_eq_false t3
    rw [d3, Bool.false_and]
    go_enter Try.func13, Try.ntmps13
    go_wp2_with fail
    refine (CO.out _).mono ?_; rintro e w1 ⟨rfl, hB⟩
    have K1 := Lib.hid (HC.out _ hB)
    have B1 := Lib.hid (BE.out.trans (hB.mono BE.out.size))
    have hlt := K1.out.lt
    clear hB BE HC
    go_upto_region 2 with fail
    have HX : Hid (∀ V, Below (w1.alloc (.cells #[.int .i64 h, .int .i64 f, .int .i64 s, .int .i64 l, .int .i64 rd, .int .i64 ag, .int .i64 st, .int .i64 ep, .int .i64 mo, .int .i64 cd, .int .i64 ro, .int .i64 de, .int .i64 dn, .int .i64 jn] 26)).heap.size (w1.alloc (.cells #[.int .i64 h, .int .i64 f, .int .i64 s, .int .i64 l, .int .i64 rd, .int .i64 ag, .int .i64 st, .int .i64 ep, .int .i64 mo, .int .i64 cd, .int .i64 ro, .int .i64 de, .int .i64 dn, .int .i64 jn] 26)) V → Below w.heap.size w V ∧ Blk V w.heap.size 24 #[.int .i64 n, .slice lk lL lC, .int .i64 fl, .int .i64 a, .int .i64 b, .int .i64 r, .int .i64 v, .int .i64 pr, .int .i64 pw, .int .i64 pa, .int .i64 x1, .int .i64 x2, .int .i64 x3, .int .i64 x4, .int .i64 x5] ∧ Blk V w1.heap.size 26 #[.int .i64 h, .int .i64 f, .int .i64 s, .int .i64 l, .int .i64 rd, .int .i64 ag, .int .i64 st, .int .i64 ep, .int .i64 mo, .int .i64 cd, .int .i64 ro, .int .i64 de, .int .i64 dn, .int .i64 jn]) := Lib.hid (fun V hB =>
      have h1 := B1.out.alloc B1.out.size (.cells #[.int .i64 h, .int .i64 f, .int .i64 s, .int .i64 l, .int .i64 rd, .int .i64 ag, .int .i64 st, .int .i64 ep, .int .i64 mo, .int .i64 cd, .int .i64 ro, .int .i64 de, .int .i64 dn, .int .i64 jn] 26)
      ⟨h1.trans (hB.mono h1.size), (K1.out.alloc _).below hB, Blk.below (Blk.new w1 _ _) hB⟩)
    clear B1 K1 hlt
    generalize (w1.alloc (.cells #[.int .i64 h, .int .i64 f, .int .i64 s, .int .i64 l, .int .i64 rd, .int .i64 ag, .int .i64 st, .int .i64 ep, .int .i64 mo, .int .i64 cd, .int .i64 ro, .int .i64 de, .int .i64 dn, .int .i64 jn] 26)) = w2 at *
    generalize w1.heap.size = g at *
    have c6 : ∀ z : Qui.Cls w2, z.V.cell? ⟨w.heap.size, 6, none⟩ = some (.int .i64 v) := fun z => (HX.out _ z.lies).2.1.cell 6
    have c7 : ∀ z : Qui.Cls w2, z.V.cell? ⟨w.heap.size, 7, none⟩ = some (.int .i64 pr) := fun z => (HX.out _ z.lies).2.1.cell 7
    have c8 : ∀ z : Qui.Cls w2, z.V.cell? ⟨w.heap.size, 8, none⟩ = some (.int .i64 pw) := fun z => (HX.out _ z.lies).2.1.cell 8
    have c9 : ∀ z : Qui.Cls w2, z.V.cell? ⟨w.heap.size, 9, none⟩ = some (.int .i64 pa) := fun z => (HX.out _ z.lies).2.1.cell 9
    have u0 : ∀ z : Qui.Cls w2, z.V.cell? ⟨g, 0, none⟩ = some (.int .i64 h) := fun z => (HX.out _ z.lies).2.2.cell 0
    have u1 : ∀ z : Qui.Cls w2, z.V.cell? ⟨g, 1, none⟩ = some (.int .i64 f) := fun z => (HX.out _ z.lies).2.2.cell 1
    have u2 : ∀ z : Qui.Cls w2, z.V.cell? ⟨g, 2, none⟩ = some (.int .i64 s) := fun z => (HX.out _ z.lies).2.2.cell 2
    have u3 : ∀ z : Qui.Cls w2, z.V.cell? ⟨g, 3, none⟩ = some (.int .i64 l) := fun z => (HX.out _ z.lies).2.2.cell 3
    have u4 : ∀ z : Qui.Cls w2, z.V.cell? ⟨g, 4, none⟩ = some (.int .i64 rd) := fun z => (HX.out _ z.lies).2.2.cell 4
    have u5 : ∀ z : Qui.Cls w2, z.V.cell? ⟨g, 5, none⟩ = some (.int .i64 ag) := fun z => (HX.out _ z.lies).2.2.cell 5
    have u6 : ∀ z : Qui.Cls w2, z.V.cell? ⟨g, 6, none⟩ = some (.int .i64 st) := fun z => (HX.out _ z.lies).2.2.cell 6
    have u7 : ∀ z : Qui.Cls w2, z.V.cell? ⟨g, 7, none⟩ = some (.int .i64 ep) := fun z => (HX.out _ z.lies).2.2.cell 7
    have u8 : ∀ z : Qui.Cls w2, z.V.cell? ⟨g, 8, none⟩ = some (.int .i64 mo) := fun z => (HX.out _ z.lies).2.2.cell 8
    have u9 : ∀ z : Qui.Cls w2, z.V.cell? ⟨g, 9, none⟩ = some (.int .i64 cd) := fun z => (HX.out _ z.lies).2.2.cell 9
    have u10 : ∀ z : Qui.Cls w2, z.V.cell? ⟨g, 10, none⟩ = some (.int .i64 ro) := fun z => (HX.out _ z.lies).2.2.cell 10
    have u11 : ∀ z : Qui.Cls w2, z.V.cell? ⟨g, 11, none⟩ = some (.int .i64 de) := fun z => (HX.out _ z.lies).2.2.cell 11
    have u12 : ∀ z : Qui.Cls w2, z.V.cell? ⟨g, 12, none⟩ = some (.int .i64 dn) := fun z => (HX.out _ z.lies).2.2.cell 12
    have u13 : ∀ z : Qui.Cls w2, z.V.cell? ⟨g, 13, none⟩ = some (.int .i64 jn) := fun z => (HX.out _ z.lies).2.2.cell 13
    refine Qui.wp_region_quiet_below (by kernel_rfl) (by kernel_rfl) ?_
    repeat (go_big_quiet_step (first | (with_reducible exact Qui.cls_below (CV.out _))))
    refine wpQuiet_nil ?_
    intro _ hw'
    obtain ⟨zz, rfl⟩ := hw'
    have B9 := Lib.hid (HX.out _ zz.lies).1
    clear c6 c7 c8 c9 u0 u1 u2 u3 u4 u5 u6 u7 u8 u9 u10 u11 u12 u13 HX
    generalize zz.V = V at *
    go_wp2_with fail
    go_ret
    exact ⟨rfl, B9.out⟩
  have d3 : decide (mo ≤ sl) = true := decide_eq_true t3
  rw [d3, Bool.true_and]
  go_enter Try.func13, Try.ntmps13
  go_wp2_with fail
  refine (CO.out _).mono ?_; rintro e w1 ⟨rfl, hB⟩
  have K1 := Lib.hid (HC.out _ hB)
  have B1 := Lib.hid (BE.out.trans (hB.mono BE.out.size))
  have hlt := K1.out.lt
  clear hB BE HC
  go_upto_region 2 with fail
  have HX : Hid (∀ V, Below (w1.alloc (.cells #[.int .i64 h, .int .i64 f, .int .i64 s, .int .i64 l, .int .i64 rd, .int .i64 ag, .int .i64 st, .int .i64 ep, .int .i64 mo, .int .i64 cd, .int .i64 ro, .int .i64 de, .int .i64 dn, .int .i64 jn] 26)).heap.size (w1.alloc (.cells #[.int .i64 h, .int .i64 f, .int .i64 s, .int .i64 l, .int .i64 rd, .int .i64 ag, .int .i64 st, .int .i64 ep, .int .i64 mo, .int .i64 cd, .int .i64 ro, .int .i64 de, .int .i64 dn, .int .i64 jn] 26)) V → Below w.heap.size w V ∧ Blk V w.heap.size 24 #[.int .i64 n, .slice lk lL lC, .int .i64 fl, .int .i64 a, .int .i64 b, .int .i64 r, .int .i64 v, .int .i64 pr, .int .i64 pw, .int .i64 pa, .int .i64 x1, .int .i64 x2, .int .i64 x3, .int .i64 x4, .int .i64 x5] ∧ Blk V w1.heap.size 26 #[.int .i64 h, .int .i64 f, .int .i64 s, .int .i64 l, .int .i64 rd, .int .i64 ag, .int .i64 st, .int .i64 ep, .int .i64 mo, .int .i64 cd, .int .i64 ro, .int .i64 de, .int .i64 dn, .int .i64 jn]) := Lib.hid (fun V hB =>
    have h1 := B1.out.alloc B1.out.size (.cells #[.int .i64 h, .int .i64 f, .int .i64 s, .int .i64 l, .int .i64 rd, .int .i64 ag, .int .i64 st, .int .i64 ep, .int .i64 mo, .int .i64 cd, .int .i64 ro, .int .i64 de, .int .i64 dn, .int .i64 jn] 26)
    ⟨h1.trans (hB.mono h1.size), (K1.out.alloc _).below hB, Blk.below (Blk.new w1 _ _) hB⟩)
  clear B1 K1 hlt
  generalize (w1.alloc (.cells #[.int .i64 h, .int .i64 f, .int .i64 s, .int .i64 l, .int .i64 rd, .int .i64 ag, .int .i64 st, .int .i64 ep, .int .i64 mo, .int .i64 cd, .int .i64 ro, .int .i64 de, .int .i64 dn, .int .i64 jn] 26)) = w2 at *
  generalize w1.heap.size = g at *
  have c6 : ∀ z : Qui.Cls w2, z.V.cell? ⟨w.heap.size, 6, none⟩ = some (.int .i64 v) := fun z => (HX.out _ z.lies).2.1.cell 6
  have c7 : ∀ z : Qui.Cls w2, z.V.cell? ⟨w.heap.size, 7, none⟩ = some (.int .i64 pr) := fun z => (HX.out _ z.lies).2.1.cell 7
  have c8 : ∀ z : Qui.Cls w2, z.V.cell? ⟨w.heap.size, 8, none⟩ = some (.int .i64 pw) := fun z => (HX.out _ z.lies).2.1.cell 8
  have c9 : ∀ z : Qui.Cls w2, z.V.cell? ⟨w.heap.size, 9, none⟩ = some (.int .i64 pa) := fun z => (HX.out _ z.lies).2.1.cell 9
  have u0 : ∀ z : Qui.Cls w2, z.V.cell? ⟨g, 0, none⟩ = some (.int .i64 h) := fun z => (HX.out _ z.lies).2.2.cell 0
  have u1 : ∀ z : Qui.Cls w2, z.V.cell? ⟨g, 1, none⟩ = some (.int .i64 f) := fun z => (HX.out _ z.lies).2.2.cell 1
  have u2 : ∀ z : Qui.Cls w2, z.V.cell? ⟨g, 2, none⟩ = some (.int .i64 s) := fun z => (HX.out _ z.lies).2.2.cell 2
  have u3 : ∀ z : Qui.Cls w2, z.V.cell? ⟨g, 3, none⟩ = some (.int .i64 l) := fun z => (HX.out _ z.lies).2.2.cell 3
  have u4 : ∀ z : Qui.Cls w2, z.V.cell? ⟨g, 4, none⟩ = some (.int .i64 rd) := fun z => (HX.out _ z.lies).2.2.cell 4
  have u5 : ∀ z : Qui.Cls w2, z.V.cell? ⟨g, 5, none⟩ = some (.int .i64 ag) := fun z => (HX.out _ z.lies).2.2.cell 5
  have u6 : ∀ z : Qui.Cls w2, z.V.cell? ⟨g, 6, none⟩ = some (.int .i64 st) := fun z => (HX.out _ z.lies).2.2.cell 6
  have u7 : ∀ z : Qui.Cls w2, z.V.cell? ⟨g, 7, none⟩ = some (.int .i64 ep) := fun z => (HX.out _ z.lies).2.2.cell 7
  have u8 : ∀ z : Qui.Cls w2, z.V.cell? ⟨g, 8, none⟩ = some (.int .i64 mo) := fun z => (HX.out _ z.lies).2.2.cell 8
  have u9 : ∀ z : Qui.Cls w2, z.V.cell? ⟨g, 9, none⟩ = some (.int .i64 cd) := fun z => (HX.out _ z.lies).2.2.cell 9
  have u10 : ∀ z : Qui.Cls w2, z.V.cell? ⟨g, 10, none⟩ = some (.int .i64 ro) := fun z => (HX.out _ z.lies).2.2.cell 10
  have u11 : ∀ z : Qui.Cls w2, z.V.cell? ⟨g, 11, none⟩ = some (.int .i64 de) := fun z => (HX.out _ z.lies).2.2.cell 11
  have u12 : ∀ z : Qui.Cls w2, z.V.cell? ⟨g, 12, none⟩ = some (.int .i64 dn) := fun z => (HX.out _ z.lies).2.2.cell 12
  have u13 : ∀ z : Qui.Cls w2, z.V.cell? ⟨g, 13, none⟩ = some (.int .i64 jn) := fun z => (HX.out _ z.lies).2.2.cell 13
  refine Qui.wp_region_quiet_below (by kernel_rfl) (by kernel_rfl) ?_
  repeat (go_big_quiet_step (first | (with_reducible exact Qui.cls_below (CV.out _))))
  refine wpQuiet_nil ?_
  intro _ hw'
  obtain ⟨zz, rfl⟩ := hw'
  have B9 := Lib.hid (HX.out _ zz.lies).1
  clear c6 c7 c8 c9 u0 u1 u2 u3 u4 u5 u6 u7 u8 u9 u10 u11 u12 u13 HX
  generalize zz.V = V at *
  go_wp2_with fail
  go_ret
  exact ⟨rfl, B9.out⟩
theorem en_any (c : Cf) (hn : -9223372036854775808 ≤ c.n ∧ c.n ≤ 9223372036854775807) (w : World) :
    Calls Try.prog 13 #[cval c] w fun e w' => e = .returned (.bool (enB c)) ∧ Below w.heap.size w w' := by
  cases hg : goodC c with
  | false =>
    rw [show enB c = false by unfold enB; rw [hg, Bool.false_and]]
    exact en_bad c hn hg w
  | true => exact en_good c (good_yes hg) w
end Go.Proofs.Ytbbenfjfdmnpmaa.Bnd
