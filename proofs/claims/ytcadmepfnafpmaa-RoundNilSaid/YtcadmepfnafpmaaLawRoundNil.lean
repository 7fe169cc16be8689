/- A round that is nil has nothing. -/
import Derived.Test.YtcadmepfnafpmaaRows
import Derived.WalkKit
import Derived.ProofKit
import Derived.OpenShut
import Derived.ShutString
import Derived.ChangeOld
import Derived.Below
import Derived.Test.YtcadmepfnafpmaaRndF
namespace Go.Proofs.Ytcadmepfnafpmaa.lawRoundNil
open Go.ChangeShapes Go.WideShapes Go.ChangeAt Go.RowKit
open Go.ChangeMaps (open_string shut_string)
set_option linter.unusedVariables false

theorem own : ownKnob Try.prog.godebug = none := by kernel_rfl
theorem laidOut : laidOutB Try.prog = true := by kernel_rfl

/-! The walk: the Go text returns true and writes nothing that was there. -/
set_option linter.unusedSimpArgs false in
set_option maxRecDepth 100000 in
set_option maxHeartbeats 4000000 in
theorem walk (a0 : Int) (a1 : Int) (w : World) (w0 : (Lit.int .i64 a0).wf = true) (w1 : (Lit.int .i64 a1).wf = true) :
    Calls Try.prog 7 #[.int .i64 a0, .int .i64 a1] w fun e w' => e = .returned (.bool true) ∧ Below w.heap.size w w' := by
  have m1 := bounds_i64 w1
  have C1 := Lib.hid (fun W => Rnd.rget_nil a0 W)
  have C2 := Lib.hid (fun W => Rnd.rclose_nil a0 W)
  obtain ⟨q, hq⟩ : ∃ q, a1.tmod 1000 = q := ⟨_, rfl⟩
  obtain ⟨q0, q1⟩ := Rnd.tmod_1000 a1 hq
  have C3 := Lib.hid (fun W => Rnd.rnew_any q W)
  have C4 := Lib.hid (fun W B g mb L (h : Rnd.RR W B g q mb L) => Rnd.rnext_any (by unfold Rnd.in64; omega) W h)
  rw [show Rnd.nxN q = q + 1 by unfold Rnd.nxN; omega] at C4
  have C5 := Lib.hid (fun W => Rnd.rnote_nil a0 a1 W)
  have C6 := Lib.hid (fun W => Rnd.rno_nil W)
  have C7 := Lib.hid (fun W => Rnd.rwho_nil W)
  have C8 := Lib.hid (fun W => Rnd.rlen_nil W)
  have C10 := Lib.hid (fun W => Rnd.rnext_nil W)
  have C11 := Lib.hid (fun W B g (h : Rnd.RR W B g (q + 1) none []) => Rnd.rno_any W h)
  have C12 := Lib.hid (fun W B g (h : Rnd.RR W B g (q + 1) none []) => Rnd.rlen_any W h)
  have C9 := Lib.hid (fun W => Rnd.works25_any W)
  unfold Rnd.NewPost at C3 C4
  clear w0 w1
  go_enter Try.func7, Try.ntmps7
  go_wp2_with fail
  refine (C1.out _).mono ?_; rintro e w' ⟨rfl, rfl⟩
  go_wp2_with fail
  refine (C2.out _).mono ?_; rintro e w' ⟨rfl, rfl⟩
  go_wp2_with fail
  refine (C3.out _).mono ?_; rintro e w1 ⟨g1, rfl, hr1, hB1⟩
  have R1 := Lib.hid hr1
  have B1 := Lib.hid hB1
  clear hr1 hB1
  go_wp2_with fail
  refine (C4.out w1 _ g1 _ _ R1.out).mono ?_; rintro e w2 ⟨g2, rfl, hr2, hB2⟩
  have R2 := Lib.hid hr2
  have BE := Lib.hid (B1.out.trans (hB2.mono B1.out.size))
  clear hr2 hB2
  go_wp2_with fail
  refine (C5.out _).mono ?_; rintro e w' ⟨rfl, rfl⟩
  go_wp2_with fail
  refine (C6.out _).mono ?_; rintro e w' ⟨rfl, rfl⟩
  go_wp2_with fail
  refine (C7.out _).mono ?_; rintro e w' ⟨rfl, rfl⟩
  go_wp2_with fail
  refine (C8.out _).mono ?_; rintro e w' ⟨rfl, rfl⟩
  go_wp2_with fail
  refine (C10.out _).mono ?_; rintro e w' ⟨rfl, rfl⟩
  go_wp2_with fail
  refine (C11.out _ _ g2 R2.out).mono ?_; rintro e w' ⟨rfl, rfl⟩
  go_wp2_with fail
  refine (C12.out _ _ g2 R2.out).mono ?_; rintro e w' ⟨rfl, rfl⟩
  go_wp2_with fail
  refine (C9.out _).mono ?_; rintro e w9 ⟨rfl, hB⟩
  have B9 := Lib.hid (BE.out.trans (hB.mono BE.out.size))
  clear hB
  go_wp2_with fail
  go_ret
  exact ⟨rfl, B9.out⟩

set_option maxRecDepth 100000 in
theorem lifted (os : Os) (started : os.Started) (H : Type) (enc : TypeId × Value → H) :
    ReturnsInHanded {} Try.checked os 7 .any (Rows.roundNilSpec.pre6 enc Try.prog Try.f7 Rows.roundNilRow.domain false) (Rows.roundNilSpec.post enc Try.prog Try.f7 false true false false) := by
  refine returnsInHanded_of_change (C := Try.checked) own started (by kernel_rfl) Try.func7
    (ChangeSpec.witness6 (enc := enc) (C := Try.checked) false ⟨#[], #[.int .i64 0, .int .i64 0], []⟩ 8 (by kernel_rfl) (by kernel_rfl) (by kernel_rfl) (by kernel_rfl)) ?_
  intro W base args ds gs before hval0 hW hcnd _
  have hval : ∀ (j : Nat) t v, Try.f7.params[j]? = some t → args[j]? = some v → Value.okWide Try.prog W .any base t v := hval0
  have hW' := hW
  obtain ⟨p, q, hA0, hV, rfl, hfz, hnd⟩ := hW
  have hA : DataW.TrodAll enc Try.prog W 0 (fun _ => true) true Try.f7.params.toList args.toList ds p := hA0
  rw [Try.params7] at hA hval
  obtain ⟨v0, vs0, d0, ds0, p0, q0, hargs, rfl, rfl, h0, r0⟩ := trodAll_cons hA
  obtain ⟨v1, vs1, d1, ds1, p1, q1, rfl, rfl, rfl, h1, r1⟩ := trodAll_cons r0
  obtain ⟨rfl, rfl, rfl⟩ := trodAll_nil r1
  obtain rfl : args = #[v0, v1] := by cases args; simp_all
  obtain ⟨rfl, rfl⟩ := trodVars_none hV
  obtain ⟨a0, rfl, rfl, rfl, w0⟩ := open_int Try.underlying3 (hval 0 3 v0 rfl rfl) h0
  obtain ⟨a1, rfl, rfl, rfl, w1⟩ := open_int Try.underlying2 (hval 1 2 v1 rfl rfl) h1
  clear hA0 hval0
  refine (walk a0 a1 W w0 w1).mono fun e W' ⟨he, bel⟩ => ?_
  subst he
  exact ⟨_, rfl, _, _, _, [], _, [], hW', trodAll_mk1 (shut_bool Try.underlying4 _), (trodAll_cons_mk (shut_int Try.underlying3 w0) (trodAll_cons_mk (shut_int Try.underlying2 w1) trodAll_mk0)), rfl, bel.frame _, fun h => by cases h⟩

theorem over : Rows.roundNilRow.holds Try.pinned (OpenSpec.ofChange Rows.roundNilSpec) :=
  OpenClaim.holds_of_wide 7 Try.f7 rfl rfl rfl rfl rfl rfl rfl ⟨rfl, rfl, rfl, rfl, rfl⟩ rfl rfl rfl rfl rfl (by kernel_rfl) Try.func7 (by kernel_rfl)
    (of_decide_eq_true (by kernel_rfl)) (by unfold Func.isWrapper; first | (rw [if_pos (by decide +kernel)]; kernel_rfl) | (rw [if_neg (by decide +kernel)]; exact ⟨rfl, rfl⟩))
    (fun os started H enc _ => lifted os started H enc)

theorem proved : Rows.RoundNilSaid := over
#print axioms proved
end Go.Proofs.Ytcadmepfnafpmaa.lawRoundNil
