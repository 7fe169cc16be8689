/- An echo of any probe has its stamp, and is none of an echo. -/
import Derived.Test.YtocfamocemmihaaRows
import Derived.WalkKit
import Derived.ProofKit
import Derived.OpenShut
import Derived.ShutString
import Derived.ChangeOld
import Derived.Below
import Derived.Test.YtocfamocemmihaaPulK
import Derived.Test.YtocfamocemmihaaPulN
import Derived.Deep.RegionHeldLaw
import Derived.Deep.Cut
namespace Go.Proofs.Ytocfamocemmihaa.lawPulseEchoes
open Go.ChangeShapes Go.WideShapes Go.ChangeAt Go.RowKit
open Go.ChangeMaps (open_string shut_string)
set_option linter.unusedVariables false

theorem own : ownKnob Try.prog.godebug = none := by kernel_rfl
theorem laidOut : laidOutB Try.prog = true := by kernel_rfl

/-! The walk: the Go text returns true and writes nothing that was there. -/
set_option linter.unusedSimpArgs false in
set_option maxRecDepth 100000 in
set_option maxHeartbeats 4000000 in
theorem walk (a0 : Int) (a1 : Int) (w : World) (w0 : (Lit.int .i64 a0).wf = true) (w1 : (Lit.int .i64 a1).wf = true) :
    Calls Try.prog 7 #[.int .i64 a0, .int .i64 a1] w fun e w' => e = .returned (.bool true) ∧ Below w.heap.size w w' := by
  have CP := Lib.hid (fun W => Pul.probe_any a0 W)
  have CE := Lib.hid (fun W => Pul.echo_probe a0 a1 W)
  have CF := Lib.hid (fun W => Pul.echo_echo a0 a1 a1 W)
  have CG : Hid (∀ W, Calls Try.prog 17 #[Hed.pval (Pul.echoP a0 a1)] W fun e w' => e = .returned (.bool true) ∧ Below W.heap.size W w') := Lib.hid (fun W => by
    have h := Pul.pgood_any (Pul.echoP a0 a1) W (.inl rfl)
    rwa [Pul.echo_good] at h)
  have CW := Lib.hid (fun W => Pul.pworks_any W)
  have HZ : Hid (∀ (W : World) (b : Nat), Buf.Blk W b 27 (Hed.Pk.cells (Pul.echoP a0 a1)) → _) := Lib.hid (fun W b h => Hed.blk_cells h)
  unfold Pul.probeP Hed.pval Hed.Pk.cells at CP CE
  unfold Pul.echoP at CE CF CG HZ
  unfold Hed.zero Hed.pval Hed.Pk.cells at CF
  unfold Hed.pval Hed.Pk.cells at CG
  unfold Hed.Pk.cells at HZ
  simp only [List.length_nil] at CP CE CF CG HZ
  have he0 : (a0 == a0) = true := by simp
  have he1 : (a1 == a1) = true := by simp
  go_enter Try.func7, Try.ntmps7
  go_wp2_with fail
  refine (CP.out _).mono ?_; rintro e w1 ⟨rfl, hB1⟩
  have HB1 := Lib.hid hB1
  clear hB1 CP
  go_wp2_with fail
  refine (CE.out _).mono ?_; rintro e w2 ⟨rfl, hB2⟩
  have HB2 := Lib.hid (HB1.out.trans (hB2.mono HB1.out.size))
  clear hB2 CE HB1
  go_upto_region 2 with fail
  obtain ⟨W3, hW3⟩ : ∃ W3, Hid (W3 = w2.alloc (.cells #[.int .i64 2, .int .i64 0, .int .i64 0, .int .u32 0, .int .i64 0, .int .i64 0, .int .i64 0, .int .i64 0, .int .i64 0, .int .i64 a0, .int .i64 a1, .slice none 0 0] 27)) := ⟨_, Lib.hid rfl⟩
  rw [← hW3.out]
  have hX := Hed.one_box w2 W3 _ _ hW3.out
  have HB3 := Lib.hid (HB2.out.trans (hX.1.mono HB2.out.size))
  have HP3 := Lib.hid hX.2
  clear hX hW3 HB2
  obtain ⟨c0, c1, c2, c3, c4, c5, c6, c7, c8, c9, c10, c11⟩ := HZ.out _ _ HP3.out
  go_wp2_with fail
  refine (CF.out _).mono ?_; rintro e w4 ⟨rfl, hB4⟩
  have HB4 := Lib.hid (HB3.out.trans (hB4.mono HB3.out.size))
  have HP4 := Lib.hid (HP3.out.below hB4)
  clear hB4 CF HB3 HP3 c0 c1 c2 c3 c4 c5 c6 c7 c8 c9 c10 c11
  go_upto_region 3 with fail
  obtain ⟨W5, hW5⟩ : ∃ W5, Hid (W5 = w4.alloc (.cells #[.int .i64 0, .int .i64 0, .int .i64 0, .int .u32 0, .int .i64 0, .int .i64 0, .int .i64 0, .int .i64 0, .int .i64 0, .int .i64 0, .int .i64 0, .slice none 0 0] 27)) := ⟨_, Lib.hid rfl⟩
  rw [← hW5.out]
  have hX := Hed.one_box w4 W5 _ _ hW5.out
  have HB5 := Lib.hid (HB4.out.trans (hX.1.mono HB4.out.size))
  have HP5 := Lib.hid (HP4.out.below hX.1)
  clear hX hW5 HB4 HP4
  obtain ⟨c0, c1, c2, c3, c4, c5, c6, c7, c8, c9, c10, c11⟩ := HZ.out _ _ HP5.out
  go_wp2_with fail
  refine (CG.out _).mono ?_; rintro e w6 ⟨rfl, hB6⟩
  have HB6 := Lib.hid (HB5.out.trans (hB6.mono HB5.out.size))
  have HP6 := Lib.hid (HP5.out.below hB6)
  clear hB6 CG HB5 HP5 c0 c1 c2 c3 c4 c5 c6 c7 c8 c9 c10 c11
  obtain ⟨c0, c1, c2, c3, c4, c5, c6, c7, c8, c9, c10, c11⟩ := HZ.out _ _ HP6.out
  go_wp2_with fail
  refine (CW.out _).mono ?_; rintro e w7 ⟨rfl, hB7⟩
  have HB7 := Lib.hid (HB6.out.trans (hB7.mono HB6.out.size))
  clear hB7
  go_wp2_with fail
  go_ret
  exact ⟨rfl, HB7.out⟩

set_option maxRecDepth 100000 in
theorem lifted (os : Os) (started : os.Started) (H : Type) (enc : TypeId × Value → H) :
    ReturnsInHanded {} Try.checked os 7 .any (Rows.pulseEchoesSpec.pre6 enc Try.prog Try.f7 Rows.pulseEchoesRow.domain false) (Rows.pulseEchoesSpec.post enc Try.prog Try.f7 false true false false) := by
  refine returnsInHanded_of_change (C := Try.checked) own started (by kernel_rfl) Try.func7
    (ChangeSpec.witness6 (enc := enc) (C := Try.checked) false ⟨#[], #[.int .i64 0, .int .i64 0], []⟩ 8 (by kernel_rfl) (by kernel_rfl) (by kernel_rfl) (by kernel_rfl)) ?_
  intro W base args ds gs before hval0 hW hcnd _
  have hval : ∀ (j : Nat) t v, Try.f7.params[j]? = some t → args[j]? = some v → Value.okWide Try.prog W .any base t v := hval0
  have hW' := hW
  obtain ⟨p, q, hA0, hV, rfl, hfz, hnd⟩ := hW
  have hA : DataW.TrodAll enc Try.prog W 0 (fun _ => true) true Try.f7.params.toList args.toList ds p := hA0
  rw [Try.params7] at hA hval
  obtain ⟨v0, vs0, d0, ds0, p0, q0, hargs, rfl, rfl, h0, r0⟩ := trodAll_cons hA
  obtain ⟨v1, vs1, d1, ds1, p1, q1, rfl, rfl, rfl, h1, r1⟩ := trodAll_cons r0
  obtain ⟨rfl, rfl, rfl⟩ := trodAll_nil r1
  obtain rfl : args = #[v0, v1] := by cases args; simp_all
  obtain ⟨rfl, rfl⟩ := trodVars_none hV
  obtain ⟨a0, rfl, rfl, rfl, w0⟩ := open_int Try.underlying2 (hval 0 2 v0 rfl rfl) h0
  obtain ⟨a1, rfl, rfl, rfl, w1⟩ := open_int Try.underlying2 (hval 1 2 v1 rfl rfl) h1
  clear hA0 hval0
  refine (walk a0 a1 W w0 w1).mono fun e W' ⟨he, bel⟩ => ?_
  subst he
  exact ⟨_, rfl, _, _, _, [], _, [], hW', trodAll_mk1 (shut_bool Try.underlying4 _), (trodAll_cons_mk (shut_int Try.underlying2 w0) (trodAll_cons_mk (shut_int Try.underlying2 w1) trodAll_mk0)), rfl, bel.frame _, fun h => by cases h⟩

theorem over : Rows.pulseEchoesRow.holds Try.pinned (OpenSpec.ofChange Rows.pulseEchoesSpec) :=
  OpenClaim.holds_of_wide 7 Try.f7 rfl rfl rfl rfl rfl rfl rfl ⟨rfl, rfl, rfl, rfl, rfl⟩ rfl rfl rfl rfl rfl (by kernel_rfl) Try.func7 (by kernel_rfl)
    (of_decide_eq_true (by kernel_rfl)) (by unfold Func.isWrapper; first | (rw [if_pos (by decide +kernel)]; kernel_rfl) | (rw [if_neg (by decide +kernel)]; exact ⟨rfl, rfl⟩))
    (fun os started H enc _ => lifted os started H enc)

theorem proved : Rows.PulseEchoesSaid := over
#print axioms proved
end Go.Proofs.Ytocfamocemmihaa.lawPulseEchoes
