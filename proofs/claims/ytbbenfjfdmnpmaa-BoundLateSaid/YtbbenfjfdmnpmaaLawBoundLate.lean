/- How late any message may be is as the document says. -/
import Derived.Test.YtbbenfjfdmnpmaaRows
import Derived.WalkKit
import Derived.ProofKit
import Derived.OpenShut
import Derived.ShutString
import Derived.ChangeOld
import Derived.Below
import Derived.Deep.Cut
import Derived.Test.YtbbenfjfdmnpmaaBndE
import Derived.Test.YtbbenfjfdmnpmaaBndL
namespace Go.Proofs.Ytbbenfjfdmnpmaa.lawBoundLate
open Go.ChangeShapes Go.WideShapes Go.ChangeAt Go.RowKit
open Go.ChangeMaps (open_string shut_string)
set_option linter.unusedVariables false

theorem own : ownKnob Try.prog.godebug = none := by kernel_rfl
theorem laidOut : laidOutB Try.prog = true := by kernel_rfl

/-! The walk: the Go text returns true and writes nothing that was there. -/
set_option linter.unusedSimpArgs false in
set_option maxRecDepth 100000 in
set_option maxHeartbeats 4000000 in
theorem walk (a0 : Bnd.Cf) (a1 : Int) (a2 : Int) (w : World) (w0 : Bnd.OkCf w a0) (w1 : (Lit.int .i64 a1).wf = true) (w2 : (Lit.int .i64 a2).wf = true) :
    Calls Try.prog 6 #[Bnd.cval a0, .int .i64 a1, .int .i64 a2] w fun e w' => e = .returned (.bool true) ∧ Below w.heap.size w w' := by
  have hn := w0.n
  obtain ⟨y0, y1⟩ := bounds_i64 w1
  obtain ⟨t0, t1⟩ := bounds_i64 w2
  have C9 := Lib.hid (fun W => Bnd.works26_any W)
  have CO := Lib.hid (fun W => Bnd.bof_any a0 hn W)
  unfold Bnd.ofN Bnd.ofE at CO
  clear w0 w1 w2 hn
  cases hg : Bnd.goodC a0 with
  | false =>
    rw [hg, if_neg (by simp), if_neg (by simp)] at CO
    have CL := Lib.hid (fun W => Bnd.late_any Bnd.nm0 a1 a2 (by decide) (by decide) (by decide) W)
    generalize Bnd.lateV Bnd.nm0 a1 a2 = x at *
    clear hg
    obtain ⟨n, lk, lL, lC, lS, fl, a, b, r, v, pr, pw, pa, x1, x2, x3, x4, x5⟩ := a0
    unfold Bnd.cval Bnd.ccells Bnd.nval Bnd.nm0 Bnd.ncells at *
    dsimp only at *
    have BE := Lib.hid (show Below w.heap.size w (w.alloc (.cells #[.int .i64 n, .slice lk lL lC, .int .i64 fl, .int .i64 a, .int .i64 b, .int .i64 r, .int .i64 v, .int .i64 pr, .int .i64 pw, .int .i64 pa, .int .i64 x1, .int .i64 x2, .int .i64 x3, .int .i64 x4, .int .i64 x5] 24)) from (Below.refl _ _).alloc (Nat.le_refl _) _)
    have HC : Hid (∀ W, Below (w.alloc (.cells #[.int .i64 n, .slice lk lL lC, .int .i64 fl, .int .i64 a, .int .i64 b, .int .i64 r, .int .i64 v, .int .i64 pr, .int .i64 pw, .int .i64 pa, .int .i64 x1, .int .i64 x2, .int .i64 x3, .int .i64 x4, .int .i64 x5] 24)).heap.size (w.alloc (.cells #[.int .i64 n, .slice lk lL lC, .int .i64 fl, .int .i64 a, .int .i64 b, .int .i64 r, .int .i64 v, .int .i64 pr, .int .i64 pw, .int .i64 pa, .int .i64 x1, .int .i64 x2, .int .i64 x3, .int .i64 x4, .int .i64 x5] 24)) W → Rw.Blk W w.heap.size 24 #[.int .i64 n, .slice lk lL lC, .int .i64 fl, .int .i64 a, .int .i64 b, .int .i64 r, .int .i64 v, .int .i64 pr, .int .i64 pw, .int .i64 pa, .int .i64 x1, .int .i64 x2, .int .i64 x3, .int .i64 x4, .int .i64 x5]) := Lib.hid (fun W hB => Rw.Blk.below (Rw.Blk.new w _ _) hB)
    go_enter Try.func6, Try.ntmps6
    go_wp2_with fail
    refine (CO.out _).mono ?_; rintro e w1 ⟨rfl, hB⟩
    have B1 := Lib.hid (BE.out.trans (hB.mono BE.out.size))
    clear hB BE HC
    have B2 := Lib.hid (B1.out.alloc B1.out.size (.cells #[.int .i64 0, .int .i64 0, .int .i64 0, .int .i64 0, .int .i64 0, .int .i64 0, .int .i64 0, .int .i64 0, .int .i64 0, .int .i64 0, .int .i64 0, .int .i64 0, .int .i64 0, .int .i64 0] 26))
    have N2 := Lib.hid (Rw.Blk.new w1 26 #[.int .i64 0, .int .i64 0, .int .i64 0, .int .i64 0, .int .i64 0, .int .i64 0, .int .i64 0, .int .i64 0, .int .i64 0, .int .i64 0, .int .i64 0, .int .i64 0, .int .i64 0, .int .i64 0])
    go_wp2_with fail
    refine (CL.out _).mono ?_; rintro e w2 ⟨rfl, hB⟩
    have N3 := Lib.hid (N2.out.below hB)
    have B3 := Lib.hid (B2.out.trans (hB.mono B2.out.size))
    clear hB B1 B2 N2
    generalize w1.heap.size = g at *
    obtain ⟨u0, u1, u2, u3, u4, u5, u6, u7, u8, u9, u10, u11, u12, u13⟩ := Bnd.nums14 N3.out
    go_wp2_with fail
    refine (C9.out _).mono ?_; rintro e w4 ⟨rfl, hB⟩
    have B4 := Lib.hid (B3.out.trans (hB.mono B3.out.size))
    clear hB
    go_wp2_with fail
    go_ret
    exact ⟨rfl, B4.out⟩
  | true =>
    rw [hg, if_pos rfl, if_pos rfl] at CO
    have B := Bnd.num_bd (Bnd.good_yes hg)
    obtain ⟨m, hm⟩ : ∃ m, Bnd.num a0 = m := ⟨_, rfl⟩
    rw [hm] at CO B
    obtain ⟨p0, q0⟩ := B.hops
    obtain ⟨p1, q1⟩ := B.fast
    obtain ⟨p2, q2⟩ := B.link
    have CL := Lib.hid (fun W => Bnd.late_any m a1 a2 (by omega) (by omega) (by omega) W)
    clear hg hm B
    unfold Bnd.lateV at CL
    obtain ⟨x, hx⟩ : ∃ x, (if 0 ≤ a1 ∧ a1 ≤ m.hops ∧ 0 ≤ a2 ∧ a2 ≤ 18300341342965825 then a1 * m.link + a1 * a2 + m.fast else 0) = x := ⟨_, rfl⟩
    rw [hx] at CL
    obtain ⟨n, lk, lL, lC, lS, fl, a, b, r, v, pr, pw, pa, x1, x2, x3, x4, x5⟩ := a0
    obtain ⟨h, f, s, l, rd, ag, st, ep, mo, cd, ro, de, dn, jn⟩ := m
    unfold Bnd.cval Bnd.ccells at *
    dsimp only at *
    unfold Bnd.nval Bnd.ncells at *
    dsimp only at *
    have BE := Lib.hid (show Below w.heap.size w (w.alloc (.cells #[.int .i64 n, .slice lk lL lC, .int .i64 fl, .int .i64 a, .int .i64 b, .int .i64 r, .int .i64 v, .int .i64 pr, .int .i64 pw, .int .i64 pa, .int .i64 x1, .int .i64 x2, .int .i64 x3, .int .i64 x4, .int .i64 x5] 24)) from (Below.refl _ _).alloc (Nat.le_refl _) _)
    have HC : Hid (∀ W, Below (w.alloc (.cells #[.int .i64 n, .slice lk lL lC, .int .i64 fl, .int .i64 a, .int .i64 b, .int .i64 r, .int .i64 v, .int .i64 pr, .int .i64 pw, .int .i64 pa, .int .i64 x1, .int .i64 x2, .int .i64 x3, .int .i64 x4, .int .i64 x5] 24)).heap.size (w.alloc (.cells #[.int .i64 n, .slice lk lL lC, .int .i64 fl, .int .i64 a, .int .i64 b, .int .i64 r, .int .i64 v, .int .i64 pr, .int .i64 pw, .int .i64 pa, .int .i64 x1, .int .i64 x2, .int .i64 x3, .int .i64 x4, .int .i64 x5] 24)) W → Rw.Blk W w.heap.size 24 #[.int .i64 n, .slice lk lL lC, .int .i64 fl, .int .i64 a, .int .i64 b, .int .i64 r, .int .i64 v, .int .i64 pr, .int .i64 pw, .int .i64 pa, .int .i64 x1, .int .i64 x2, .int .i64 x3, .int .i64 x4, .int .i64 x5]) := Lib.hid (fun W hB => Rw.Blk.below (Rw.Blk.new w _ _) hB)
    have HX := Lib.hid hx
    clear hx
    by_cases k0 : 0 ≤ a1
    rotate_left
    · have hx : x = 0 := by have := HX.out; rw [if_neg (by omega)] at this; exact this.symm
      subst hx
      clear HX
      go_enter Try.func6, Try.ntmps6
      go_wp2_with fail
      refine (CO.out _).mono ?_; rintro e w1 ⟨rfl, hB⟩
      have B1 := Lib.hid (BE.out.trans (hB.mono BE.out.size))
      clear hB BE HC
      have B2 := Lib.hid (B1.out.alloc B1.out.size (.cells #[.int .i64 h, .int .i64 f, .int .i64 s, .int .i64 l, .int .i64 rd, .int .i64 ag, .int .i64 st, .int .i64 ep, .int .i64 mo, .int .i64 cd, .int .i64 ro, .int .i64 de, .int .i64 dn, .int .i64 jn] 26))
      have N2 := Lib.hid (Rw.Blk.new w1 26 #[.int .i64 h, .int .i64 f, .int .i64 s, .int .i64 l, .int .i64 rd, .int .i64 ag, .int .i64 st, .int .i64 ep, .int .i64 mo, .int .i64 cd, .int .i64 ro, .int .i64 de, .int .i64 dn, .int .i64 jn])
      go_wp2_with fail
      refine (CL.out _).mono ?_; rintro e w2 ⟨rfl, hB⟩
      have N3 := Lib.hid (N2.out.below hB)
      have B3 := Lib.hid (B2.out.trans (hB.mono B2.out.size))
      clear hB B1 B2 N2
      generalize w1.heap.size = g at *
      obtain ⟨u0, u1, u2, u3, u4, u5, u6, u7, u8, u9, u10, u11, u12, u13⟩ := Bnd.nums14 N3.out
      go_wp2_with fail
      refine (C9.out _).mono ?_; rintro e w4 ⟨rfl, hB⟩
      have B4 := Lib.hid (B3.out.trans (hB.mono B3.out.size))
      clear hB
      go_wp2_with fail
      go_ret
      exact ⟨rfl, B4.out⟩
    by_cases k1 : a1 ≤ h
    rotate_left
    · have hx : x = 0 := by have := HX.out; rw [if_neg (by omega)] at this; exact this.symm
      subst hx
      clear HX
      go_enter Try.func6, Try.ntmps6
      go_wp2_with fail
      refine (CO.out _).mono ?_; rintro e w1 ⟨rfl, hB⟩
      have B1 := Lib.hid (BE.out.trans (hB.mono BE.out.size))
      clear hB BE HC
      have B2 := Lib.hid (B1.out.alloc B1.out.size (.cells #[.int .i64 h, .int .i64 f, .int .i64 s, .int .i64 l, .int .i64 rd, .int .i64 ag, .int .i64 st, .int .i64 ep, .int .i64 mo, .int .i64 cd, .int .i64 ro, .int .i64 de, .int .i64 dn, .int .i64 jn] 26))
      have N2 := Lib.hid (Rw.Blk.new w1 26 #[.int .i64 h, .int .i64 f, .int .i64 s, .int .i64 l, .int .i64 rd, .int .i64 ag, .int .i64 st, .int .i64 ep, .int .i64 mo, .int .i64 cd, .int .i64 ro, .int .i64 de, .int .i64 dn, .int .i64 jn])
      go_wp2_with fail
      refine (CL.out _).mono ?_; rintro e w2 ⟨rfl, hB⟩
      have N3 := Lib.hid (N2.out.below hB)
      have B3 := Lib.hid (B2.out.trans (hB.mono B2.out.size))
      clear hB B1 B2 N2
      generalize w1.heap.size = g at *
      obtain ⟨u0, u1, u2, u3, u4, u5, u6, u7, u8, u9, u10, u11, u12, u13⟩ := Bnd.nums14 N3.out
      go_wp2_with fail
      refine (C9.out _).mono ?_; rintro e w4 ⟨rfl, hB⟩
      have B4 := Lib.hid (B3.out.trans (hB.mono B3.out.size))
      clear hB
      go_wp2_with fail
      go_ret
      exact ⟨rfl, B4.out⟩
    by_cases k2 : 0 ≤ a2
    rotate_left
    · have hx : x = 0 := by have := HX.out; rw [if_neg (by omega)] at this; exact this.symm
      subst hx
      clear HX
      go_enter Try.func6, Try.ntmps6
      go_wp2_with fail
      refine (CO.out _).mono ?_; rintro e w1 ⟨rfl, hB⟩
      have B1 := Lib.hid (BE.out.trans (hB.mono BE.out.size))
      clear hB BE HC
      have B2 := Lib.hid (B1.out.alloc B1.out.size (.cells #[.int .i64 h, .int .i64 f, .int .i64 s, .int .i64 l, .int .i64 rd, .int .i64 ag, .int .i64 st, .int .i64 ep, .int .i64 mo, .int .i64 cd, .int .i64 ro, .int .i64 de, .int .i64 dn, .int .i64 jn] 26))
      have N2 := Lib.hid (Rw.Blk.new w1 26 #[.int .i64 h, .int .i64 f, .int .i64 s, .int .i64 l, .int .i64 rd, .int .i64 ag, .int .i64 st, .int .i64 ep, .int .i64 mo, .int .i64 cd, .int .i64 ro, .int .i64 de, .int .i64 dn, .int .i64 jn])
      go_wp2_with fail
      refine (CL.out _).mono ?_; rintro e w2 ⟨rfl, hB⟩
      have N3 := Lib.hid (N2.out.below hB)
      have B3 := Lib.hid (B2.out.trans (hB.mono B2.out.size))
      clear hB B1 B2 N2
      generalize w1.heap.size = g at *
      obtain ⟨u0, u1, u2, u3, u4, u5, u6, u7, u8, u9, u10, u11, u12, u13⟩ := Bnd.nums14 N3.out
      go_wp2_with fail
      refine (C9.out _).mono ?_; rintro e w4 ⟨rfl, hB⟩
      have B4 := Lib.hid (B3.out.trans (hB.mono B3.out.size))
      clear hB
      go_wp2_with fail
      go_ret
      exact ⟨rfl, B4.out⟩
    by_cases k3 : a2 ≤ 18300341342965825
    rotate_left
    · have hx : x = 0 := by have := HX.out; rw [if_neg (by omega)] at this; exact this.symm
      subst hx
      clear HX
      go_enter Try.func6, Try.ntmps6
      go_wp2_with fail
      refine (CO.out _).mono ?_; rintro e w1 ⟨rfl, hB⟩
      have B1 := Lib.hid (BE.out.trans (hB.mono BE.out.size))
      clear hB BE HC
      have B2 := Lib.hid (B1.out.alloc B1.out.size (.cells #[.int .i64 h, .int .i64 f, .int .i64 s, .int .i64 l, .int .i64 rd, .int .i64 ag, .int .i64 st, .int .i64 ep, .int .i64 mo, .int .i64 cd, .int .i64 ro, .int .i64 de, .int .i64 dn, .int .i64 jn] 26))
      have N2 := Lib.hid (Rw.Blk.new w1 26 #[.int .i64 h, .int .i64 f, .int .i64 s, .int .i64 l, .int .i64 rd, .int .i64 ag, .int .i64 st, .int .i64 ep, .int .i64 mo, .int .i64 cd, .int .i64 ro, .int .i64 de, .int .i64 dn, .int .i64 jn])
      go_wp2_with fail
      refine (CL.out _).mono ?_; rintro e w2 ⟨rfl, hB⟩
      have N3 := Lib.hid (N2.out.below hB)
      have B3 := Lib.hid (B2.out.trans (hB.mono B2.out.size))
      clear hB B1 B2 N2
      generalize w1.heap.size = g at *
      obtain ⟨u0, u1, u2, u3, u4, u5, u6, u7, u8, u9, u10, u11, u12, u13⟩ := Bnd.nums14 N3.out
      go_wp2_with fail
      refine (C9.out _).mono ?_; rintro e w4 ⟨rfl, hB⟩
      have B4 := Lib.hid (B3.out.trans (hB.mono B3.out.size))
      clear hB
      go_wp2_with fail
      go_ret
      exact ⟨rfl, B4.out⟩
    have hx : a1 * l + a1 * a2 + f = x := by have := HX.out; rwa [if_pos ⟨k0, k1, k2, k3⟩] at this
    have p := Bnd.linkh_bd k0 (show a1 ≤ 63 by omega) p2 q2
    have q := Bnd.tol_bd k0 (show a1 ≤ 63 by omega) k2 k3
    have hd : a1 * (l + a2) = a1 * l + a1 * a2 := Int.mul_add _ _ _
    generalize a1 * l = z1 at *
    generalize a1 * a2 = z2 at *
    subst hx
    clear HX
    obtain ⟨z, hz⟩ : ∃ z, z1 + z2 = z := ⟨_, rfl⟩
    rw [hz] at hd
    obtain ⟨v0, v1⟩ : 0 ≤ z ∧ z ≤ 1152921504612265983 := by omega
    obtain ⟨P, HP⟩ : ∃ P, Hid (z1 + z2 + f = P) := ⟨_, Lib.hid rfl⟩
    have e0 : (z + f == z + f) = true := beq_iff_eq.2 rfl
    rw [hz] at CL
    clear hz HP p q
    go_enter Try.func6, Try.ntmps6
    go_wp2_with fail
    refine (CO.out _).mono ?_; rintro e w1 ⟨rfl, hB⟩
    have B1 := Lib.hid (BE.out.trans (hB.mono BE.out.size))
    clear hB BE HC
    have B2 := Lib.hid (B1.out.alloc B1.out.size (.cells #[.int .i64 h, .int .i64 f, .int .i64 s, .int .i64 l, .int .i64 rd, .int .i64 ag, .int .i64 st, .int .i64 ep, .int .i64 mo, .int .i64 cd, .int .i64 ro, .int .i64 de, .int .i64 dn, .int .i64 jn] 26))
    have N2 := Lib.hid (Rw.Blk.new w1 26 #[.int .i64 h, .int .i64 f, .int .i64 s, .int .i64 l, .int .i64 rd, .int .i64 ag, .int .i64 st, .int .i64 ep, .int .i64 mo, .int .i64 cd, .int .i64 ro, .int .i64 de, .int .i64 dn, .int .i64 jn])
    go_wp2_with fail
    refine (CL.out _).mono ?_; rintro e w2 ⟨rfl, hB⟩
    have N3 := Lib.hid (N2.out.below hB)
    have B3 := Lib.hid (B2.out.trans (hB.mono B2.out.size))
    clear hB B1 B2 N2
    generalize w1.heap.size = g at *
    obtain ⟨u0, u1, u2, u3, u4, u5, u6, u7, u8, u9, u10, u11, u12, u13⟩ := Bnd.nums14 N3.out
    go_wp2_with fail
    refine (C9.out _).mono ?_; rintro e w4 ⟨rfl, hB⟩
    have B4 := Lib.hid (B3.out.trans (hB.mono B3.out.size))
    clear hB
    go_wp2_with fail
    go_ret
    exact ⟨rfl, B4.out⟩

set_option maxRecDepth 100000 in
theorem lifted (os : Os) (started : os.Started) (H : Type) (enc : TypeId × Value → H) :
    ReturnsInHanded {} Try.checked os 6 .any (Rows.boundLateSpec.pre6 enc Try.prog Try.f6 Rows.boundLateRow.domain false) (Rows.boundLateSpec.post enc Try.prog Try.f6 false true false false) := by
  refine returnsInHanded_of_change (C := Try.checked) own started (by kernel_rfl) Try.func6
    (ChangeSpec.witness6 (enc := enc) (C := Try.checked) false ⟨#[], #[(.agg #[.int .i64 0, .slice none 0 0, .int .i64 0, .int .i64 0, .int .i64 0, .int .i64 0, .int .i64 0, .int .i64 0, .int .i64 0, .int .i64 0, .int .i64 0, .int .i64 0, .int .i64 0, .int .i64 0, .int .i64 0]), .int .i64 0, .int .i64 0], []⟩ 8 (by kernel_rfl) (by kernel_rfl) (by kernel_rfl) (by kernel_rfl)) ?_
  intro W base args ds gs before hval0 hW hcnd _
  have hval : ∀ (j : Nat) t v, Try.f6.params[j]? = some t → args[j]? = some v → Value.okWide Try.prog W .any base t v := hval0
  have hW' := hW
  obtain ⟨p, q, hA0, hV, rfl, hfz, hnd⟩ := hW
  have hA : DataW.TrodAll enc Try.prog W 0 (fun _ => true) true Try.f6.params.toList args.toList ds p := hA0
  rw [Try.params6] at hA hval
  obtain ⟨v0, vs0, d0, ds0, p0, q0, hargs, rfl, rfl, h0, r0⟩ := trodAll_cons hA
  obtain ⟨v1, vs1, d1, ds1, p1, q1, rfl, rfl, rfl, h1, r1⟩ := trodAll_cons r0
  obtain ⟨v2, vs2, d2, ds2, p2, q2, rfl, rfl, rfl, h2, r2⟩ := trodAll_cons r1
  obtain ⟨rfl, rfl, rfl⟩ := trodAll_nil r2
  obtain rfl : args = #[v0, v1, v2] := by cases args; simp_all
  obtain ⟨rfl, rfl⟩ := trodVars_none hV
  have k0 := h0
  have lt0 : ∀ x ∈ p0, x.block < W.heap.size := by obtain ⟨m, hm⟩ := k0; exact DataW.trod_lt m _ _ _ hm
  obtain ⟨a0, rfl, w0⟩ := Bnd.open_cf (hval 0 24 v0 rfl rfl) h0
  obtain ⟨a1, rfl, rfl, rfl, w1⟩ := open_int Try.underlying3 (hval 1 3 v1 rfl rfl) h1
  obtain ⟨a2, rfl, rfl, rfl, w2⟩ := open_int Try.underlying2 (hval 2 2 v2 rfl rfl) h2
  clear hA0 hval0
  refine (walk a0 a1 a2 W w0 w1 w2).mono fun e W' ⟨he, bel⟩ => ?_
  subst he
  exact ⟨_, rfl, _, _, _, [], _, [], hW', trodAll_mk1 (shut_bool Try.underlying4 _), (trodAll_cons_mk (Below.trod laidOut (by kernel_rfl) (of_decide_eq_true (by kernel_rfl)) k0 bel lt0) (trodAll_cons_mk (shut_int Try.underlying3 w1) (trodAll_cons_mk (shut_int Try.underlying2 w2) trodAll_mk0))), rfl, bel.frame _, fun h => by cases h⟩

theorem over : Rows.boundLateRow.holds Try.pinned (OpenSpec.ofChange Rows.boundLateSpec) :=
  OpenClaim.holds_of_wide 6 Try.f6 rfl rfl rfl rfl rfl rfl rfl ⟨rfl, rfl, rfl, rfl, rfl⟩ rfl rfl rfl rfl rfl (by kernel_rfl) Try.func6 (by kernel_rfl)
    (of_decide_eq_true (by kernel_rfl)) (by unfold Func.isWrapper; first | (rw [if_pos (by decide +kernel)]; kernel_rfl) | (rw [if_neg (by decide +kernel)]; exact ⟨rfl, rfl⟩))
    (fun os started H enc _ => lifted os started H enc)

theorem proved : Rows.BoundLateSaid := over
#print axioms proved
end Go.Proofs.Ytbbenfjfdmnpmaa.lawBoundLate
