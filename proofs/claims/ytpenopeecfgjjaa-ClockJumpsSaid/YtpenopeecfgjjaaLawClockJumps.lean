/- A rough clock is corrected at once, a synced one not before a tick. -/
import Derived.Test.YtpenopeecfgjjaaRows
import Derived.WalkKit
import Derived.ProofKit
import Derived.OpenShut
import Derived.ShutString
import Derived.ChangeOld
import Derived.Below
import Derived.Test.YtpenopeecfgjjaaClkD
namespace Go.Proofs.Ytpenopeecfgjjaa.lawClockJumps
open Go.ChangeShapes Go.WideShapes Go.ChangeAt Go.RowKit
open Go.ChangeMaps (open_string shut_string)
set_option linter.unusedVariables false

theorem own : ownKnob Try.prog.godebug = none := by kernel_rfl
theorem laidOut : laidOutB Try.prog = true := by kernel_rfl

/-! The walk: the Go text returns true and writes nothing that was there. -/
set_option linter.unusedSimpArgs false in
set_option maxRecDepth 100000 in
set_option maxHeartbeats 4000000 in
theorem walk (a0 : Int) (a1 : Int) (w : World) (w0 : (Lit.int .u32 a0).wf = true) (w1 : (Lit.int .u32 a1).wf = true) :
    Calls Try.prog 5 #[.int .u32 a0, .int .u32 a1] w fun e w' => e = .returned (.bool true) ∧ Below w.heap.size w w' := by
  obtain ⟨x0, x1⟩ := bounds_u32 w0
  obtain ⟨y0, y1⟩ := bounds_u32 w1
  have tx : Clk.tiV a0 = a0 := Clk.ti_id (by omega) (by omega)
  have ts : Slw.saV a1 = a1 := by unfold Slw.saV Span.clampV; split <;> (try split) <;> omega
  have ty : Clk.tiV (a0 + a1) = a0 + a1 := Clk.ti_id (by omega) (by omega)
  have CN := Lib.hid (Clk.knew_any 5 (Below.refl w.heap.size w))
  have CM : Hid (∀ g W, Clk.Kept w W g 5 (0, 0, 0) → Calls Try.prog 7 #[.int .i64 5] W fun e w' => ∃ h, e = .returned (.pointer (some ⟨h, 0, none⟩)) ∧ Clk.Pair w w' g h 5 (0, 0, 0) (0, 0, 0)) := Lib.hid (fun g W hK => by
    refine (Clk.knew_any 5 hK.bel).mono ?_
    rintro e w' ⟨h, hg, he, hc, hb⟩
    exact ⟨h, he, hK.on hb, hc, by have := hK.box.lt; omega⟩)
  have CG : Hid (∀ g h W, Clk.Pair w W g h 5 (0, 0, 0) (0, 0, 0) → Calls Try.prog 15 #[.pointer (some ⟨g, 0, none⟩), .int .i64 a0] W fun e w' => e = .returned (.int .i64 0) ∧ Clk.Pair w w' g h 5 (1, a0, 0) (0, 0, 0)) := Lib.hid (fun g h W hP => by
    refine (Clk.sguess_any a0 hP.one.box).mono ?_
    rintro e w' ⟨he, hp⟩
    have := hP.to1 hp (Clk.guess_ok a0 hP.one.ok)
    rw [show Clk.guessN a0 (0, 0, 0) = (1, Clk.tiV a0, 0) from rfl, tx] at this
    exact ⟨he, this⟩)
  have CB : Hid (∀ g h W, Clk.Pair w W g h 5 (1, a0, 0) (0, 0, 0) → Calls Try.prog 14 #[.pointer (some ⟨h, 0, none⟩), .int .i64 a0] W fun e w' => e = .returned (.int .i64 0) ∧ Clk.Pair w w' g h 5 (1, a0, 0) (2, a0, 0)) := Lib.hid (fun g h W hP => by
    refine (Clk.sboot_any a0 hP.two.box).mono ?_
    rintro e w' ⟨he, hp⟩
    have := hP.to2 hp (Clk.boot_ok a0 hP.two.ok)
    rw [show Clk.bootN a0 (0, 0, 0) = (2, Clk.tiV a0, 0) from rfl, tx] at this
    exact ⟨he, this⟩)
  have C1 : Hid (∀ g h W, Clk.Pair w W g h 5 (1, a0, 0) (2, a0, 0) → Calls Try.prog 16 #[.pointer (some ⟨g, 0, none⟩), .int .i64 a1] W fun e w' => e = .returned (.int .i64 0) ∧ Clk.Pair w w' g h 5 (2, a0 + a1, 0) (2, a0, 0)) := Lib.hid (fun g h W hP => by
    refine (Clk.scorr_any a1 hP.one.ok hP.one.box).mono ?_
    rintro e w' ⟨he, hp⟩
    have := hP.to1 hp (Clk.corr_ok a1 hP.one.ok)
    rw [show Clk.corrN a1 (1, a0, 0) = (2, Clk.tiV (a0 + Slw.saV a1), 0) from rfl, ts, ty] at this
    exact ⟨he, this⟩)
  have C2 : Hid (∀ g h W, Clk.Pair w W g h 5 (2, a0 + a1, 0) (2, a0, 0) → Calls Try.prog 16 #[.pointer (some ⟨h, 0, none⟩), .int .i64 a1] W fun e w' => e = .returned (.int .i64 0) ∧ Clk.Pair w w' g h 5 (2, a0 + a1, 0) (2, a0, a1)) := Lib.hid (fun g h W hP => by
    refine (Clk.scorr_any a1 hP.two.ok hP.two.box).mono ?_
    rintro e w' ⟨he, hp⟩
    have := hP.to2 hp (Clk.corr_ok a1 hP.two.ok)
    rw [show Clk.corrN a1 (2, a0, 0) = (2, a0, Slw.saV a1) from rfl, ts] at this
    exact ⟨he, this⟩)
  have C3 : Hid (∀ g h W, Clk.Pair w W g h 5 (2, a0 + a1, 0) (2, a0, a1) → Calls Try.prog 10 #[.pointer (some ⟨g, 0, none⟩)] W fun e w' => e = .returned (.tuple #[.int .i64 (a0 + a1), .bool true]) ∧ W = w') := Lib.hid (fun g h W hP => Clk.know_any hP.one)
  have C4 : Hid (∀ g h W, Clk.Pair w W g h 5 (2, a0 + a1, 0) (2, a0, a1) → Calls Try.prog 10 #[.pointer (some ⟨h, 0, none⟩)] W fun e w' => e = .returned (.tuple #[.int .i64 a0, .bool true]) ∧ W = w') := Lib.hid (fun g h W hP => Clk.know_any hP.two)
  have C5 : Hid (∀ g h W, Clk.Pair w W g h 5 (2, a0 + a1, 0) (2, a0, a1) → Calls Try.prog 12 #[.pointer (some ⟨g, 0, none⟩)] W fun e w' => e = .returned (.int .i64 0) ∧ W = w') := Lib.hid (fun g h W hP => Clk.kleft_any hP.one)
  have C6 : Hid (∀ g h W, Clk.Pair w W g h 5 (2, a0 + a1, 0) (2, a0, a1) → Calls Try.prog 12 #[.pointer (some ⟨h, 0, none⟩)] W fun e w' => e = .returned (.int .i64 a1) ∧ W = w') := Lib.hid (fun g h W hP => Clk.kleft_any hP.two)
  have C9 : Hid (∀ g h W, Clk.Pair w W g h 5 (2, a0 + a1, 0) (2, a0, a1) → Calls Try.prog 13 #[] W fun e w' => e = .returned (.bool true) ∧ Below w.heap.size w w') := Lib.hid (fun g h W hP => (Clk.works22_any W).mono fun e w' ⟨he, hb⟩ => ⟨he, hP.one.bel.trans (hb.mono hP.one.bel.size)⟩)
  clear w0 w1 tx ts ty
  have e1 : (a0 + a1 == a0 + a1) = true := beq_self_eq_true _
  have e2 : (a0 == a0) = true := beq_self_eq_true _
  have e3 : (a1 == a1) = true := beq_self_eq_true _
  generalize Clk.Pair w = Z at *
  generalize Below w.heap.size w = B at *
  go_enter Try.func5, Try.ntmps5
  go_wp2_with fail
  refine (CN.out).mono ?_; rintro e w2 ⟨g, _, rfl, hK, _⟩
  have HK := Lib.hid hK
  clear hK CN
  go_wp2_with fail
  refine (CM.out _ _ HK.out).mono ?_; rintro e w3 ⟨h, rfl, hZ⟩
  clear HK CM
  go_wp2_with fail
  refine (CG.out _ _ _ hZ).mono ?_; rintro e w4 ⟨rfl, hZ⟩
  go_wp2_with fail
  refine (CB.out _ _ _ hZ).mono ?_; rintro e w5 ⟨rfl, hZ⟩
  go_wp2_with fail
  refine (C1.out _ _ _ hZ).mono ?_; rintro e w6 ⟨rfl, hZ⟩
  go_wp2_with fail
  refine (C2.out _ _ _ hZ).mono ?_; rintro e w7 ⟨rfl, hZ⟩
  go_wp2_with fail
  refine (C3.out _ _ _ hZ).mono ?_; rintro e w' ⟨rfl, rfl⟩
  go_wp2_with fail
  refine (C4.out _ _ _ hZ).mono ?_; rintro e w' ⟨rfl, rfl⟩
  go_wp2_with fail
  refine (C5.out _ _ _ hZ).mono ?_; rintro e w' ⟨rfl, rfl⟩
  go_wp2_with fail
  refine (C6.out _ _ _ hZ).mono ?_; rintro e w' ⟨rfl, rfl⟩
  go_wp2_with fail
  refine (C9.out _ _ _ hZ).mono ?_; rintro e w' ⟨rfl, hB⟩
  go_wp2_with fail
  go_ret
  exact ⟨rfl, hB⟩

set_option maxRecDepth 100000 in
theorem lifted (os : Os) (started : os.Started) (H : Type) (enc : TypeId × Value → H) :
    ReturnsInHanded {} Try.checked os 5 .any (Rows.clockJumpsSpec.pre6 enc Try.prog Try.f5 Rows.clockJumpsRow.domain false) (Rows.clockJumpsSpec.post enc Try.prog Try.f5 false true false false) := by
  refine returnsInHanded_of_change (C := Try.checked) own started (by kernel_rfl) Try.func5
    (ChangeSpec.witness6 (enc := enc) (C := Try.checked) false ⟨#[], #[.int .u32 0, .int .u32 0], []⟩ 8 (by kernel_rfl) (by kernel_rfl) (by kernel_rfl) (by kernel_rfl)) ?_
  intro W base args ds gs before hval0 hW hcnd _
  have hval : ∀ (j : Nat) t v, Try.f5.params[j]? = some t → args[j]? = some v → Value.okWide Try.prog W .any base t v := hval0
  have hW' := hW
  obtain ⟨p, q, hA0, hV, rfl, hfz, hnd⟩ := hW
  have hA : DataW.TrodAll enc Try.prog W 0 (fun _ => true) true Try.f5.params.toList args.toList ds p := hA0
  rw [Try.params5] at hA hval
  obtain ⟨v0, vs0, d0, ds0, p0, q0, hargs, rfl, rfl, h0, r0⟩ := trodAll_cons hA
  obtain ⟨v1, vs1, d1, ds1, p1, q1, rfl, rfl, rfl, h1, r1⟩ := trodAll_cons r0
  obtain ⟨rfl, rfl, rfl⟩ := trodAll_nil r1
  obtain rfl : args = #[v0, v1] := by cases args; simp_all
  obtain ⟨rfl, rfl⟩ := trodVars_none hV
  obtain ⟨a0, rfl, rfl, rfl, w0⟩ := open_int Try.underlying42 (hval 0 42 v0 rfl rfl) h0
  obtain ⟨a1, rfl, rfl, rfl, w1⟩ := open_int Try.underlying42 (hval 1 42 v1 rfl rfl) h1
  clear hA0 hval0
  refine (walk a0 a1 W w0 w1).mono fun e W' ⟨he, bel⟩ => ?_
  subst he
  exact ⟨_, rfl, _, _, _, [], _, [], hW', trodAll_mk1 (shut_bool Try.underlying4 _), (trodAll_cons_mk (shut_int Try.underlying42 w0) (trodAll_cons_mk (shut_int Try.underlying42 w1) trodAll_mk0)), rfl, bel.frame _, fun h => by cases h⟩

theorem over : Rows.clockJumpsRow.holds Try.pinned (OpenSpec.ofChange Rows.clockJumpsSpec) :=
  OpenClaim.holds_of_wide 5 Try.f5 rfl rfl rfl rfl rfl rfl rfl ⟨rfl, rfl, rfl, rfl, rfl⟩ rfl rfl rfl rfl rfl (by kernel_rfl) Try.func5 (by kernel_rfl)
    (of_decide_eq_true (by kernel_rfl)) (by unfold Func.isWrapper; first | (rw [if_pos (by decide +kernel)]; kernel_rfl) | (rw [if_neg (by decide +kernel)]; exact ⟨rfl, rfl⟩))
    (fun os started H enc _ => lifted os started H enc)

theorem proved : Rows.ClockJumpsSaid := over
#print axioms proved
end Go.Proofs.Ytpenopeecfgjjaa.lawClockJumps
