/- The numbers of any configuration are as the document says. -/
import Derived.Test.YtbbenfjfdmnpmaaRows
import Derived.WalkKit
import Derived.ProofKit
import Derived.OpenShut
import Derived.ShutString
import Derived.ChangeOld
import Derived.Below
import Derived.Test.YtbbenfjfdmnpmaaQuiB
import Derived.Deep.Cut
import Derived.Test.YtbbenfjfdmnpmaaBndE
import Derived.Test.YtbbenfjfdmnpmaaBndG
import Derived.Test.YtbbenfjfdmnpmaaBndR
import Derived.Test.YtbbenfjfdmnpmaaBndS
namespace Go.Proofs.Ytbbenfjfdmnpmaa.lawBoundNumbers
open Go.ChangeShapes Go.WideShapes Go.ChangeAt Go.RowKit
open Go.ChangeMaps (open_string shut_string)
set_option linter.unusedVariables false

theorem own : ownKnob Try.prog.godebug = none := by kernel_rfl
theorem laidOut : laidOutB Try.prog = true := by kernel_rfl

/-! The walk: the Go text returns true and writes nothing that was there. -/
set_option linter.unusedSimpArgs false in
set_option maxRecDepth 100000 in
set_option maxHeartbeats 4000000 in
theorem walk (a0 : Bnd.Cf) (w : World) (w0 : Bnd.OkCf w a0) :
    Calls Try.prog 3 #[Bnd.cval a0] w fun e w' => e = .returned (.bool true) ∧ Below w.heap.size w w' := by
  have hn := w0.n
  have C9 := Lib.hid (fun W => Bnd.works26_any W)
  have CG := Lib.hid (fun W => Bnd.brgood_any a0 W)
  have CO := Lib.hid (fun W => Bnd.bof_any a0 hn W)
  have CR := Lib.hid (fun (g : Bnd.Good a0) W => Bnd.brof_good a0 g W)
  unfold Bnd.ofN Bnd.ofE at CO
  clear w0 hn
  cases hg : Bnd.goodC a0 with
  | false =>
    rw [hg] at CG
    rw [hg, if_neg (by simp), if_neg (by simp)] at CO
    have CS := Lib.hid (fun W => Bnd.bsame_any Bnd.nm0 W)
    clear CR hg
    obtain ⟨n, lk, lL, lC, lS, fl, a, b, r, v, pr, pw, pa, x1, x2, x3, x4, x5⟩ := a0
    unfold Bnd.cval Bnd.ccells Bnd.nval Bnd.nm0 Bnd.ncells at *
    dsimp only at *
    have BE := Lib.hid (show Below w.heap.size w (w.alloc (.cells #[.int .i64 n, .slice lk lL lC, .int .i64 fl, .int .i64 a, .int .i64 b, .int .i64 r, .int .i64 v, .int .i64 pr, .int .i64 pw, .int .i64 pa, .int .i64 x1, .int .i64 x2, .int .i64 x3, .int .i64 x4, .int .i64 x5] 24)) from (Below.refl _ _).alloc (Nat.le_refl _) _)
    have HC : Hid (∀ W, Below (w.alloc (.cells #[.int .i64 n, .slice lk lL lC, .int .i64 fl, .int .i64 a, .int .i64 b, .int .i64 r, .int .i64 v, .int .i64 pr, .int .i64 pw, .int .i64 pa, .int .i64 x1, .int .i64 x2, .int .i64 x3, .int .i64 x4, .int .i64 x5] 24)).heap.size (w.alloc (.cells #[.int .i64 n, .slice lk lL lC, .int .i64 fl, .int .i64 a, .int .i64 b, .int .i64 r, .int .i64 v, .int .i64 pr, .int .i64 pw, .int .i64 pa, .int .i64 x1, .int .i64 x2, .int .i64 x3, .int .i64 x4, .int .i64 x5] 24)) W → Rw.Blk W w.heap.size 24 #[.int .i64 n, .slice lk lL lC, .int .i64 fl, .int .i64 a, .int .i64 b, .int .i64 r, .int .i64 v, .int .i64 pr, .int .i64 pw, .int .i64 pa, .int .i64 x1, .int .i64 x2, .int .i64 x3, .int .i64 x4, .int .i64 x5]) := Lib.hid (fun W hB => Rw.Blk.below (Rw.Blk.new w _ _) hB)
    go_enter Try.func3, Try.ntmps3
    go_wp2_with fail
    refine (CO.out _).mono ?_; rintro e w1 ⟨rfl, hB⟩
    have B1 := Lib.hid hB
    clear hB
    obtain ⟨c0, c1, c2, c3, c4, c5, c6, c7, c8, c9, c10, c11, c12, c13, c14⟩ := Bnd.conf15 (HC.out _ B1.out)
    have HB2 := Lib.hid ((Below.refl w1.heap.size w1).alloc (Nat.le_refl _) (.cells #[.int .i64 0, .int .i64 0, .int .i64 0, .int .i64 0, .int .i64 0, .int .i64 0, .int .i64 0, .int .i64 0, .int .i64 0, .int .i64 0, .int .i64 0, .int .i64 0, .int .i64 0, .int .i64 0] 26))
    have hne : w.heap.size ≠ w1.heap.size := by have := (HC.out _ B1.out).lt; omega
    obtain ⟨d0, d1, d2, d3, d4, d5, d6, d7, d8, d9, d10, d11, d12, d13, d14⟩ := Bnd.conf15 ((HC.out _ B1.out).below HB2.out)
    go_wp2_with fail
    refine (CG.out _).mono ?_; rintro e w2 ⟨rfl, hB⟩
    have B2 := Lib.hid hB
    clear hB c0 c1 c2 c3 c4 c5 c6 c7 c8 c9 c10 c11 c12 c13 c14 d0 d1 d2 d3 d4 d5 d6 d7 d8 d9 d10 d11 d12 d13 d14
    obtain ⟨u0, u1, u2, u3, u4, u5, u6, u7, u8, u9, u10, u11, u12, u13⟩ := Bnd.nums14 (Rw.Blk.below (Rw.Blk.new w1 26 #[.int .i64 0, .int .i64 0, .int .i64 0, .int .i64 0, .int .i64 0, .int .i64 0, .int .i64 0, .int .i64 0, .int .i64 0, .int .i64 0, .int .i64 0, .int .i64 0, .int .i64 0, .int .i64 0]) B2.out)
    go_wp2_with fail
    refine (CS.out _).mono ?_; rintro e w3 ⟨rfl, hB⟩
    have B3 := Lib.hid hB
    clear hB u0 u1 u2 u3 u4 u5 u6 u7 u8 u9 u10 u11 u12 u13
    go_wp2_with fail
    refine (C9.out _).mono ?_; rintro e w4 ⟨rfl, hB⟩
    have B4 := Lib.hid hB
    clear hB
    go_wp2_with fail
    go_ret
    have h1 := BE.out.trans (B1.out.mono BE.out.size)
    have h2 := h1.trans (HB2.out.mono h1.size)
    have h3 := h2.trans (B2.out.mono h2.size)
    have h4 := h3.trans (B3.out.mono h3.size)
    exact ⟨rfl, h4.trans (B4.out.mono h4.size)⟩
  | true =>
    rw [hg] at CG
    rw [hg, if_pos rfl, if_pos rfl] at CO
    have CR := Lib.hid (CR.out (Bnd.good_yes hg))
    obtain ⟨m, hm⟩ : ∃ m, Bnd.num a0 = m := ⟨_, rfl⟩
    rw [hm] at CO CR
    have CS := Lib.hid (fun W => Bnd.bsame_any m W)
    clear hg hm
    obtain ⟨n, lk, lL, lC, lS, fl, a, b, r, v, pr, pw, pa, x1, x2, x3, x4, x5⟩ := a0
    obtain ⟨h, f, s, l, rd, ag, st, ep, mo, cd, ro, de, dn, jn⟩ := m
    unfold Bnd.cval Bnd.ccells at *
    dsimp only at *
    unfold Bnd.nval Bnd.ncells at *
    dsimp only at *
    have BE := Lib.hid (show Below w.heap.size w (w.alloc (.cells #[.int .i64 n, .slice lk lL lC, .int .i64 fl, .int .i64 a, .int .i64 b, .int .i64 r, .int .i64 v, .int .i64 pr, .int .i64 pw, .int .i64 pa, .int .i64 x1, .int .i64 x2, .int .i64 x3, .int .i64 x4, .int .i64 x5] 24)) from (Below.refl _ _).alloc (Nat.le_refl _) _)
    have HC : Hid (∀ W, Below (w.alloc (.cells #[.int .i64 n, .slice lk lL lC, .int .i64 fl, .int .i64 a, .int .i64 b, .int .i64 r, .int .i64 v, .int .i64 pr, .int .i64 pw, .int .i64 pa, .int .i64 x1, .int .i64 x2, .int .i64 x3, .int .i64 x4, .int .i64 x5] 24)).heap.size (w.alloc (.cells #[.int .i64 n, .slice lk lL lC, .int .i64 fl, .int .i64 a, .int .i64 b, .int .i64 r, .int .i64 v, .int .i64 pr, .int .i64 pw, .int .i64 pa, .int .i64 x1, .int .i64 x2, .int .i64 x3, .int .i64 x4, .int .i64 x5] 24)) W → Rw.Blk W w.heap.size 24 #[.int .i64 n, .slice lk lL lC, .int .i64 fl, .int .i64 a, .int .i64 b, .int .i64 r, .int .i64 v, .int .i64 pr, .int .i64 pw, .int .i64 pa, .int .i64 x1, .int .i64 x2, .int .i64 x3, .int .i64 x4, .int .i64 x5]) := Lib.hid (fun W hB => Rw.Blk.below (Rw.Blk.new w _ _) hB)
    go_enter Try.func3, Try.ntmps3
    go_wp2_with fail
    refine (CO.out _).mono ?_; rintro e w1 ⟨rfl, hB⟩
    have B1 := Lib.hid hB
    clear hB
    obtain ⟨c0, c1, c2, c3, c4, c5, c6, c7, c8, c9, c10, c11, c12, c13, c14⟩ := Bnd.conf15 (HC.out _ B1.out)
    have HB2 := Lib.hid ((Below.refl w1.heap.size w1).alloc (Nat.le_refl _) (.cells #[.int .i64 h, .int .i64 f, .int .i64 s, .int .i64 l, .int .i64 rd, .int .i64 ag, .int .i64 st, .int .i64 ep, .int .i64 mo, .int .i64 cd, .int .i64 ro, .int .i64 de, .int .i64 dn, .int .i64 jn] 26))
    have hne : w.heap.size ≠ w1.heap.size := by have := (HC.out _ B1.out).lt; omega
    have HC2 := Lib.hid ((HC.out _ B1.out).below HB2.out)
    have HN2 := Lib.hid (Rw.Blk.new w1 26 #[.int .i64 h, .int .i64 f, .int .i64 s, .int .i64 l, .int .i64 rd, .int .i64 ag, .int .i64 st, .int .i64 ep, .int .i64 mo, .int .i64 cd, .int .i64 ro, .int .i64 de, .int .i64 dn, .int .i64 jn])
    obtain ⟨d0, d1, d2, d3, d4, d5, d6, d7, d8, d9, d10, d11, d12, d13, d14⟩ := Bnd.conf15 HC2.out
    go_wp2_with fail
    refine (CG.out _).mono ?_; rintro e w2 ⟨rfl, hB⟩
    have HC3 := Lib.hid (HC2.out.below hB)
    have HN3 := Lib.hid (HN2.out.below hB)
    have h1 := BE.out.trans (B1.out.mono BE.out.size)
    have h2 := h1.trans (HB2.out.mono h1.size)
    have B3 := Lib.hid (h2.trans (hB.mono h2.size))
    clear hB h1 h2 HC2 HN2 BE B1 HB2 HC c0 c1 c2 c3 c4 c5 c6 c7 c8 c9 c10 c11 c12 c13 c14 d0 d1 d2 d3 d4 d5 d6 d7 d8 d9 d10 d11 d12 d13 d14
    go_upto_region 4 with fail
    have c0 : ∀ z : Qui.Cls w2, z.V.cell? ⟨w.heap.size, 0, none⟩ = some (.int .i64 n) := fun z => (HC3.out.below z.lies).cell 0
    have c1 : ∀ z : Qui.Cls w2, z.V.cell? ⟨w.heap.size, 1, none⟩ = some (.slice lk lL lC) := fun z => (HC3.out.below z.lies).cell 1
    have c2 : ∀ z : Qui.Cls w2, z.V.cell? ⟨w.heap.size, 2, none⟩ = some (.int .i64 fl) := fun z => (HC3.out.below z.lies).cell 2
    have c3 : ∀ z : Qui.Cls w2, z.V.cell? ⟨w.heap.size, 3, none⟩ = some (.int .i64 a) := fun z => (HC3.out.below z.lies).cell 3
    have c4 : ∀ z : Qui.Cls w2, z.V.cell? ⟨w.heap.size, 4, none⟩ = some (.int .i64 b) := fun z => (HC3.out.below z.lies).cell 4
    have c5 : ∀ z : Qui.Cls w2, z.V.cell? ⟨w.heap.size, 5, none⟩ = some (.int .i64 r) := fun z => (HC3.out.below z.lies).cell 5
    have c6 : ∀ z : Qui.Cls w2, z.V.cell? ⟨w.heap.size, 6, none⟩ = some (.int .i64 v) := fun z => (HC3.out.below z.lies).cell 6
    have c7 : ∀ z : Qui.Cls w2, z.V.cell? ⟨w.heap.size, 7, none⟩ = some (.int .i64 pr) := fun z => (HC3.out.below z.lies).cell 7
    have c8 : ∀ z : Qui.Cls w2, z.V.cell? ⟨w.heap.size, 8, none⟩ = some (.int .i64 pw) := fun z => (HC3.out.below z.lies).cell 8
    have c9 : ∀ z : Qui.Cls w2, z.V.cell? ⟨w.heap.size, 9, none⟩ = some (.int .i64 pa) := fun z => (HC3.out.below z.lies).cell 9
    have c10 : ∀ z : Qui.Cls w2, z.V.cell? ⟨w.heap.size, 10, none⟩ = some (.int .i64 x1) := fun z => (HC3.out.below z.lies).cell 10
    have c11 : ∀ z : Qui.Cls w2, z.V.cell? ⟨w.heap.size, 11, none⟩ = some (.int .i64 x2) := fun z => (HC3.out.below z.lies).cell 11
    have c12 : ∀ z : Qui.Cls w2, z.V.cell? ⟨w.heap.size, 12, none⟩ = some (.int .i64 x3) := fun z => (HC3.out.below z.lies).cell 12
    have c13 : ∀ z : Qui.Cls w2, z.V.cell? ⟨w.heap.size, 13, none⟩ = some (.int .i64 x4) := fun z => (HC3.out.below z.lies).cell 13
    have c14 : ∀ z : Qui.Cls w2, z.V.cell? ⟨w.heap.size, 14, none⟩ = some (.int .i64 x5) := fun z => (HC3.out.below z.lies).cell 14
    have u0 : ∀ z : Qui.Cls w2, z.V.cell? ⟨w1.heap.size, 0, none⟩ = some (.int .i64 h) := fun z => (HN3.out.below z.lies).cell 0
    have u1 : ∀ z : Qui.Cls w2, z.V.cell? ⟨w1.heap.size, 1, none⟩ = some (.int .i64 f) := fun z => (HN3.out.below z.lies).cell 1
    have u2 : ∀ z : Qui.Cls w2, z.V.cell? ⟨w1.heap.size, 2, none⟩ = some (.int .i64 s) := fun z => (HN3.out.below z.lies).cell 2
    have u3 : ∀ z : Qui.Cls w2, z.V.cell? ⟨w1.heap.size, 3, none⟩ = some (.int .i64 l) := fun z => (HN3.out.below z.lies).cell 3
    have u4 : ∀ z : Qui.Cls w2, z.V.cell? ⟨w1.heap.size, 4, none⟩ = some (.int .i64 rd) := fun z => (HN3.out.below z.lies).cell 4
    have u5 : ∀ z : Qui.Cls w2, z.V.cell? ⟨w1.heap.size, 5, none⟩ = some (.int .i64 ag) := fun z => (HN3.out.below z.lies).cell 5
    have u6 : ∀ z : Qui.Cls w2, z.V.cell? ⟨w1.heap.size, 6, none⟩ = some (.int .i64 st) := fun z => (HN3.out.below z.lies).cell 6
    have u7 : ∀ z : Qui.Cls w2, z.V.cell? ⟨w1.heap.size, 7, none⟩ = some (.int .i64 ep) := fun z => (HN3.out.below z.lies).cell 7
    have u8 : ∀ z : Qui.Cls w2, z.V.cell? ⟨w1.heap.size, 8, none⟩ = some (.int .i64 mo) := fun z => (HN3.out.below z.lies).cell 8
    have u9 : ∀ z : Qui.Cls w2, z.V.cell? ⟨w1.heap.size, 9, none⟩ = some (.int .i64 cd) := fun z => (HN3.out.below z.lies).cell 9
    have u10 : ∀ z : Qui.Cls w2, z.V.cell? ⟨w1.heap.size, 10, none⟩ = some (.int .i64 ro) := fun z => (HN3.out.below z.lies).cell 10
    have u11 : ∀ z : Qui.Cls w2, z.V.cell? ⟨w1.heap.size, 11, none⟩ = some (.int .i64 de) := fun z => (HN3.out.below z.lies).cell 11
    have u12 : ∀ z : Qui.Cls w2, z.V.cell? ⟨w1.heap.size, 12, none⟩ = some (.int .i64 dn) := fun z => (HN3.out.below z.lies).cell 12
    have u13 : ∀ z : Qui.Cls w2, z.V.cell? ⟨w1.heap.size, 13, none⟩ = some (.int .i64 jn) := fun z => (HN3.out.below z.lies).cell 13
    refine Qui.wp_region_quiet_below (by kernel_rfl) (by kernel_rfl) ?_
    repeat (go_big_quiet_step (first | (with_reducible exact Qui.cls_below (CR.out _)) | (with_reducible exact Qui.cls_below (CS.out _)) | (with_reducible exact Qui.cls_below (C9.out _))))
    refine wpQuiet_nil ?_
    intro _ hw'
    obtain ⟨zz, rfl⟩ := hw'
    have B9 := Lib.hid (B3.out.trans (zz.lies.mono B3.out.size))
    generalize zz.V = V at *
    clear c0 c1 c2 c3 c4 c5 c6 c7 c8 c9 c10 c11 c12 c13 c14 u0 u1 u2 u3 u4 u5 u6 u7 u8 u9 u10 u11 u12 u13
    go_wp2_with fail
    go_ret
    exact ⟨rfl, B9.out⟩

set_option maxRecDepth 100000 in
theorem lifted (os : Os) (started : os.Started) (H : Type) (enc : TypeId × Value → H) :
    ReturnsInHanded {} Try.checked os 3 .any (Rows.boundNumbersSpec.pre6 enc Try.prog Try.f3 Rows.boundNumbersRow.domain false) (Rows.boundNumbersSpec.post enc Try.prog Try.f3 false true false false) := by
  refine returnsInHanded_of_change (C := Try.checked) own started (by kernel_rfl) Try.func3
    (ChangeSpec.witness6 (enc := enc) (C := Try.checked) false ⟨#[], #[(.agg #[.int .i64 0, .slice none 0 0, .int .i64 0, .int .i64 0, .int .i64 0, .int .i64 0, .int .i64 0, .int .i64 0, .int .i64 0, .int .i64 0, .int .i64 0, .int .i64 0, .int .i64 0, .int .i64 0, .int .i64 0])], []⟩ 8 (by kernel_rfl) (by kernel_rfl) (by kernel_rfl) (by kernel_rfl)) ?_
  intro W base args ds gs before hval0 hW hcnd _
  have hval : ∀ (j : Nat) t v, Try.f3.params[j]? = some t → args[j]? = some v → Value.okWide Try.prog W .any base t v := hval0
  have hW' := hW
  obtain ⟨p, q, hA0, hV, rfl, hfz, hnd⟩ := hW
  have hA : DataW.TrodAll enc Try.prog W 0 (fun _ => true) true Try.f3.params.toList args.toList ds p := hA0
  rw [Try.params3] at hA hval
  obtain ⟨v0, vs0, d0, ds0, p0, q0, hargs, rfl, rfl, h0, r0⟩ := trodAll_cons hA
  obtain ⟨rfl, rfl, rfl⟩ := trodAll_nil r0
  obtain rfl : args = #[v0] := by cases args; simp_all
  obtain ⟨rfl, rfl⟩ := trodVars_none hV
  have k0 := h0
  have lt0 : ∀ x ∈ p0, x.block < W.heap.size := by obtain ⟨m, hm⟩ := k0; exact DataW.trod_lt m _ _ _ hm
  obtain ⟨a0, rfl, w0⟩ := Bnd.open_cf (hval 0 24 v0 rfl rfl) h0
  clear hA0 hval0
  refine (walk a0 W w0).mono fun e W' ⟨he, bel⟩ => ?_
  subst he
  exact ⟨_, rfl, _, _, _, [], _, [], hW', trodAll_mk1 (shut_bool Try.underlying4 _), (trodAll_cons_mk (Below.trod laidOut (by kernel_rfl) (of_decide_eq_true (by kernel_rfl)) k0 bel lt0) trodAll_mk0), rfl, bel.frame _, fun h => by cases h⟩

theorem over : Rows.boundNumbersRow.holds Try.pinned (OpenSpec.ofChange Rows.boundNumbersSpec) :=
  OpenClaim.holds_of_wide 3 Try.f3 rfl rfl rfl rfl rfl rfl rfl ⟨rfl, rfl, rfl, rfl, rfl⟩ rfl rfl rfl rfl rfl (by kernel_rfl) Try.func3 (by kernel_rfl)
    (of_decide_eq_true (by kernel_rfl)) (by unfold Func.isWrapper; first | (rw [if_pos (by decide +kernel)]; kernel_rfl) | (rw [if_neg (by decide +kernel)]; exact ⟨rfl, rfl⟩))
    (fun os started H enc _ => lifted os started H enc)

theorem proved : Rows.BoundNumbersSaid := over
#print axioms proved
end Go.Proofs.Ytbbenfjfdmnpmaa.lawBoundNumbers
