/- By how much another clock is ahead, by any packet, is as the document says. -/
import Derived.Test.YtecgohdpdkpeoaaRows
import Derived.WalkKit
import Derived.ProofKit
import Derived.OpenShut
import Derived.ShutString
import Derived.ChangeOld
import Derived.Below
import Derived.Test.YtecgohdpdkpeoaaRdgB
import Derived.Test.YtecgohdpdkpeoaaHopW
namespace Go.Proofs.Ytecgohdpdkpeoaa.lawReadingDiffs
open Go.ChangeShapes Go.WideShapes Go.ChangeAt Go.RowKit
open Go.ChangeMaps (open_string shut_string)
set_option linter.unusedVariables false

theorem own : ownKnob Try.prog.godebug = none := by kernel_rfl
theorem laidOut : laidOutB Try.prog = true := by kernel_rfl

/-! The walk: the Go text returns true and writes nothing that was there. -/
set_option linter.unusedSimpArgs false in
set_option maxRecDepth 100000 in
set_option maxHeartbeats 4000000 in
theorem walk (a0 : Int × Int) (a1 : Int) (a2 : Int × Int) (w : World) (w0 : (-9223372036854775808 ≤ a0.1 ∧ a0.1 ≤ 9223372036854775807) ∧ (-9223372036854775808 ≤ a0.2 ∧ a0.2 ≤ 9223372036854775807)) (w1 : (Lit.int .i64 a1).wf = true) (w2 : (-9223372036854775808 ≤ a2.1 ∧ a2.1 ≤ 9223372036854775807) ∧ (-9223372036854775808 ≤ a2.2 ∧ a2.2 ≤ 9223372036854775807)) :
    Calls Try.prog 4 #[Hop.two a0, .int .i64 a1, Hop.two a2] w fun e w' => e = .returned (.bool true) ∧ Below w.heap.size w w' := by
  have C1 := Lib.hid (fun W => Rdg.diff_any a0.1 a1 a2.1 a2.2 a0.2 W)
  have C2 := Lib.hid (fun W => Rdg.ddiff_any a0.1 a1 a2.1 a2.2 a0.2 W)
  have C9 := Lib.hid (fun W => Rdg.works23_any W)
  clear w0 w1 w2
  generalize Rdg.difV a0.1 a1 a2.1 a2.2 a0.2 = m at *
  generalize Rdg.difB a0.1 a1 a2.1 a2.2 a0.2 = b at *
  have e0 : (m == m) = true := beq_iff_eq.2 rfl
  have e1 : (b == b) = true := beq_iff_eq.2 rfl
  unfold Hop.two
  generalize a0.1 = x0 at *
  generalize a0.2 = x1 at *
  generalize a2.1 = y0 at *
  generalize a2.2 = y1 at *
  have B0 : Hid (Below w.heap.size w ((w.alloc (.cells #[.int .i64 x0, .int .i64 x1] 26)).alloc (.cells #[.int .i64 y0, .int .i64 y1] 26))) := Lib.hid (((Below.refl _ _).alloc (Nat.le_refl _) _).alloc (by simp) _)
  go_enter Try.func4, Try.ntmps4
  go_wp2_with fail
  refine (C1.out _).mono ?_; rintro e w1 ⟨rfl, hB⟩
  have c0 := hB.cell (p := ⟨w.heap.size, 0, none⟩) (by simp only [World.size_alloc]; omega)
  have c1 := hB.cell (p := ⟨w.heap.size, 1, none⟩) (by simp only [World.size_alloc]; omega)
  have c2 := hB.cell (p := ⟨w.heap.size + 1, 0, none⟩) (by simp only [World.size_alloc]; omega)
  have c3 := hB.cell (p := ⟨w.heap.size + 1, 1, none⟩) (by simp only [World.size_alloc]; omega)
  simp at c0 c1 c2 c3
  have B1 := Lib.hid (B0.out.trans (hB.mono B0.out.size))
  clear hB B0
  go_wp2_with fail
  refine (C2.out _).mono ?_; rintro e w' ⟨rfl, rfl⟩
  clear c0 c1 c2 c3
  go_wp2_with fail
  refine (C9.out _).mono ?_; rintro e w2 ⟨rfl, hB⟩
  have B2 := Lib.hid (B1.out.trans (hB.mono B1.out.size))
  clear hB
  go_wp2_with fail
  go_ret
  exact ⟨rfl, B2.out⟩

set_option maxRecDepth 100000 in
theorem lifted (os : Os) (started : os.Started) (H : Type) (enc : TypeId × Value → H) :
    ReturnsInHanded {} Try.checked os 4 .any (Rows.readingDiffsSpec.pre6 enc Try.prog Try.f4 Rows.readingDiffsRow.domain false) (Rows.readingDiffsSpec.post enc Try.prog Try.f4 false true false false) := by
  refine returnsInHanded_of_change (C := Try.checked) own started (by kernel_rfl) Try.func4
    (ChangeSpec.witness6 (enc := enc) (C := Try.checked) false ⟨#[], #[.agg #[.int .i64 0, .int .i64 0], .int .i64 0, .agg #[.int .i64 0, .int .i64 0]], []⟩ 8 (by kernel_rfl) (by kernel_rfl) (by kernel_rfl) (by kernel_rfl)) ?_
  intro W base args ds gs before hval0 hW hcnd _
  have hval : ∀ (j : Nat) t v, Try.f4.params[j]? = some t → args[j]? = some v → Value.okWide Try.prog W .any base t v := hval0
  have hW' := hW
  obtain ⟨p, q, hA0, hV, rfl, hfz, hnd⟩ := hW
  have hA : DataW.TrodAll enc Try.prog W 0 (fun _ => true) true Try.f4.params.toList args.toList ds p := hA0
  rw [Try.params4] at hA hval
  obtain ⟨v0, vs0, d0, ds0, p0, q0, hargs, rfl, rfl, h0, r0⟩ := trodAll_cons hA
  obtain ⟨v1, vs1, d1, ds1, p1, q1, rfl, rfl, rfl, h1, r1⟩ := trodAll_cons r0
  obtain ⟨v2, vs2, d2, ds2, p2, q2, rfl, rfl, rfl, h2, r2⟩ := trodAll_cons r1
  obtain ⟨rfl, rfl, rfl⟩ := trodAll_nil r2
  obtain rfl : args = #[v0, v1, v2] := by cases args; simp_all
  obtain ⟨rfl, rfl⟩ := trodVars_none hV
  have k0 := h0
  have lt0 : ∀ x ∈ p0, x.block < W.heap.size := by obtain ⟨m, hm⟩ := k0; exact DataW.trod_lt m _ _ _ hm
  obtain ⟨a0, rfl, w0⟩ := Hop.open_two64 (hval 0 26 v0 rfl rfl) h0
  obtain ⟨a1, rfl, rfl, rfl, w1⟩ := open_int Try.underlying3 (hval 1 3 v1 rfl rfl) h1
  have k2 := h2
  have lt2 : ∀ x ∈ p2, x.block < W.heap.size := by obtain ⟨m, hm⟩ := k2; exact DataW.trod_lt m _ _ _ hm
  obtain ⟨a2, rfl, w2⟩ := Hop.open_two64 (hval 2 26 v2 rfl rfl) h2
  clear hA0 hval0
  refine (walk a0 a1 a2 W w0 w1 w2).mono fun e W' ⟨he, bel⟩ => ?_
  subst he
  exact ⟨_, rfl, _, _, _, [], _, [], hW', trodAll_mk1 (shut_bool Try.underlying4 _), (trodAll_cons_mk (Below.trod laidOut (by kernel_rfl) (of_decide_eq_true (by kernel_rfl)) k0 bel lt0) (trodAll_cons_mk (shut_int Try.underlying3 w1) (trodAll_cons_mk (Below.trod laidOut (by kernel_rfl) (of_decide_eq_true (by kernel_rfl)) k2 bel lt2) trodAll_mk0))), rfl, bel.frame _, fun h => by cases h⟩

theorem over : Rows.readingDiffsRow.holds Try.pinned (OpenSpec.ofChange Rows.readingDiffsSpec) :=
  OpenClaim.holds_of_wide 4 Try.f4 rfl rfl rfl rfl rfl rfl rfl ⟨rfl, rfl, rfl, rfl, rfl⟩ rfl rfl rfl rfl rfl (by kernel_rfl) Try.func4 (by kernel_rfl)
    (of_decide_eq_true (by kernel_rfl)) (by unfold Func.isWrapper; first | (rw [if_pos (by decide +kernel)]; kernel_rfl) | (rw [if_neg (by decide +kernel)]; exact ⟨rfl, rfl⟩))
    (fun os started H enc _ => lifted os started H enc)

theorem proved : Rows.ReadingDiffsSaid := over
#print axioms proved
end Go.Proofs.Ytecgohdpdkpeoaa.lawReadingDiffs
