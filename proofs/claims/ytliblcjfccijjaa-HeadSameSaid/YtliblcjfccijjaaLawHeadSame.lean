/- Whether any two packets are the same is as the document says; each is the same as itself. -/
import Derived.Test.YtliblcjfccijjaaRows
import Derived.WalkKit
import Derived.ProofKit
import Derived.OpenShut
import Derived.ShutString
import Derived.ChangeOld
import Derived.Below
import Derived.Test.YtliblcjfccijjaaHedH
import Derived.Deep.RegionHeldLaw
import Derived.Deep.Cut
namespace Go.Proofs.Ytliblcjfccijjaa.lawHeadSame
open Go.ChangeShapes Go.WideShapes Go.ChangeAt Go.RowKit
open Go.ChangeMaps (open_string shut_string)
set_option linter.unusedVariables false

theorem own : ownKnob Try.prog.godebug = none := by kernel_rfl
theorem laidOut : laidOutB Try.prog = true := by kernel_rfl

/-! The walk: the Go text returns true and writes nothing that was there. -/
set_option maxRecDepth 100000 in
set_option maxHeartbeats 2000000 in
theorem walk (a0 : Hed.Pk) (a1 : Hed.Pk) (w : World) (w0 : Hed.Ok w a0) (w1 : Hed.Ok w a1) :
    Calls Try.prog 7 #[Hed.pval a0, Hed.pval a1] w fun e w' => e = .returned (.bool true) ∧ Below w.heap.size w w' := by
  have hr0 := w0.rd
  have hr1 := w1.rd
  obtain ⟨wb, hwb⟩ : ∃ wb, Hid (wb = (w.alloc (.cells (Hed.Pk.cells a0) 27)).alloc (.cells (Hed.Pk.cells a1) 27)) := ⟨_, Lib.hid rfl⟩
  have HB0 := Lib.hid (Hed.two_boxes w wb _ _ hwb.out).1
  have HC : Hid (∀ W, Below wb.heap.size wb W → _ ∧ _) := Lib.hid (fun W hW => ⟨Hed.blk_cells ((Hed.two_boxes w wb _ _ hwb.out).2.1.below hW), Hed.blk_cells ((Hed.two_boxes w wb _ _ hwb.out).2.2.below hW)⟩)
  have C1 : Hid (∀ W, Below wb.heap.size wb W → Calls Try.prog 27 #[Hed.pval a0, Hed.pval a1] W fun e w' => e = .returned (.bool (Hed.eqP a0 a1)) ∧ Below wb.heap.size wb w') := Lib.hid (fun W hW => (Hed.hsame_any a0 a1 W (hr0.below (HB0.out.trans (hW.mono HB0.out.size))) (hr1.below (HB0.out.trans (hW.mono HB0.out.size)))).mono fun e w' h => ⟨h.1, hW.trans (h.2.mono hW.size)⟩)
  have C2 : Hid (∀ W, Below wb.heap.size wb W → Calls Try.prog 23 #[Hed.pval a0, Hed.pval a1] W fun e w' => e = .returned (.bool (Hed.eqP a0 a1)) ∧ Below wb.heap.size wb w') := Lib.hid (fun W hW => (Hed.rsame_any a0 a1 W (hr0.below (HB0.out.trans (hW.mono HB0.out.size))) (hr1.below (HB0.out.trans (hW.mono HB0.out.size)))).mono fun e w' h => ⟨h.1, hW.trans (h.2.mono hW.size)⟩)
  have C3 : Hid (∀ W, Below wb.heap.size wb W → Calls Try.prog 27 #[Hed.pval a0, Hed.pval a0] W fun e w' => e = .returned (.bool (Hed.eqP a0 a0)) ∧ Below wb.heap.size wb w') := Lib.hid (fun W hW => (Hed.hsame_any a0 a0 W (hr0.below (HB0.out.trans (hW.mono HB0.out.size))) (hr0.below (HB0.out.trans (hW.mono HB0.out.size)))).mono fun e w' h => ⟨h.1, hW.trans (h.2.mono hW.size)⟩)
  have CW : Hid (∀ W, Below wb.heap.size wb W → Calls Try.prog 15 #[] W fun e w' => e = .returned (.bool true) ∧ Below wb.heap.size wb w') := Lib.hid (fun W hW => (Hed.hworks_any W).mono fun e w' h => ⟨h.1, hW.trans (h.2.mono hW.size)⟩)
  rw [Hed.eqP_self] at C3
  generalize Hed.eqP a0 a1 = sb at *
  have hsb : (sb == sb) = true := by simp
  obtain ⟨kind, ⟨t, f, s⟩, hops, no, to, index, total, stamp, value, ad, cap, body⟩ := a0
  obtain ⟨kind', ⟨t', f', s'⟩, hops', no', to', index', total', stamp', value', ad', cap', body'⟩ := a1
  clear w0 w1 hr0 hr1
  unfold Hed.pval Hed.Pk.cells at C1 C2 C3
  unfold Hed.Pk.cells at hwb
  unfold Hed.pval Hed.Pk.cells
  simp only at C1 C2 C3 hwb HC ⊢
  go_enter Try.func7, Try.ntmps7
  go_upto_region 1 with fail
  rw [← hwb.out]
  obtain ⟨⟨c0, c1, c2, c3, c4, c5, c6, c7, c8, c9, c10, c11⟩, d0, d1, d2, d3, d4, d5, d6, d7, d8, d9, d10, d11⟩ := HC.out wb (Below.refl _ _)
  refine wp_region_noPanic ?_
  go_region_held_law (fun W => Below wb.heap.size wb W ∧ (W.cell? ⟨w.heap.size, 0, none⟩ = some (.int .i64 kind) ∧ W.cell? ⟨w.heap.size, 1, none⟩ = some (.int .i64 t) ∧ W.cell? ⟨w.heap.size, 2, none⟩ = some (.int .i64 f) ∧ W.cell? ⟨w.heap.size, 3, none⟩ = some (.int .u32 s) ∧ W.cell? ⟨w.heap.size, 4, none⟩ = some (.int .i64 hops) ∧ W.cell? ⟨w.heap.size, 5, none⟩ = some (.int .i64 no) ∧ W.cell? ⟨w.heap.size, 6, none⟩ = some (.int .i64 to) ∧ W.cell? ⟨w.heap.size, 7, none⟩ = some (.int .i64 index) ∧ W.cell? ⟨w.heap.size, 8, none⟩ = some (.int .i64 total) ∧ W.cell? ⟨w.heap.size, 9, none⟩ = some (.int .i64 stamp) ∧ W.cell? ⟨w.heap.size, 10, none⟩ = some (.int .i64 value) ∧ W.cell? ⟨w.heap.size, 11, none⟩ = some (.slice ad body.length cap)) ∧ (W.cell? ⟨w.heap.size + 1, 0, none⟩ = some (.int .i64 kind') ∧ W.cell? ⟨w.heap.size + 1, 1, none⟩ = some (.int .i64 t') ∧ W.cell? ⟨w.heap.size + 1, 2, none⟩ = some (.int .i64 f') ∧ W.cell? ⟨w.heap.size + 1, 3, none⟩ = some (.int .u32 s') ∧ W.cell? ⟨w.heap.size + 1, 4, none⟩ = some (.int .i64 hops') ∧ W.cell? ⟨w.heap.size + 1, 5, none⟩ = some (.int .i64 no') ∧ W.cell? ⟨w.heap.size + 1, 6, none⟩ = some (.int .i64 to') ∧ W.cell? ⟨w.heap.size + 1, 7, none⟩ = some (.int .i64 index') ∧ W.cell? ⟨w.heap.size + 1, 8, none⟩ = some (.int .i64 total') ∧ W.cell? ⟨w.heap.size + 1, 9, none⟩ = some (.int .i64 stamp') ∧ W.cell? ⟨w.heap.size + 1, 10, none⟩ = some (.int .i64 value') ∧ W.cell? ⟨w.heap.size + 1, 11, none⟩ = some (.slice ad' body'.length cap'))) ((refine ⟨?_, HC.out _ ?_⟩ <;> (first | assumption | exact (Below.refl _ _) | exact (Below.refl _ _).drew)))
    (first
      | (go_at_call 27; (with_reducible refine (C1.out _ ?_).mono ?_); (focus (first | assumption | exact (Below.refl _ _) | exact (Below.refl _ _).drew | exact (‹Below wb.heap.size wb _ ∧ _›).1)); rintro e w3 ⟨rfl, hB3⟩)
      | (go_at_call 23; (with_reducible refine (C2.out _ ?_).mono ?_); (focus (first | assumption | exact (Below.refl _ _) | exact (Below.refl _ _).drew | exact (‹Below wb.heap.size wb _ ∧ _›).1)); rintro e w4 ⟨rfl, hB4⟩)
      | (go_at_call 27; (with_reducible refine (C3.out _ ?_).mono ?_); (focus (first | assumption | exact (Below.refl _ _) | exact (Below.refl _ _).drew | exact (‹Below wb.heap.size wb _ ∧ _›).1)); rintro e w5 ⟨rfl, hB5⟩)
      | (go_at_call 15; (with_reducible refine (CW.out _ ?_).mono ?_); (focus (first | assumption | exact (Below.refl _ _) | exact (Below.refl _ _).drew | exact (‹Below wb.heap.size wb _ ∧ _›).1)); rintro e w9 ⟨rfl, hB9⟩))
  all_goals
    refine NoPanic.normal ?_
    go_wp2_with fail
    go_ret
    exact ⟨rfl, HB0.out.trans ((‹Below wb.heap.size wb _ ∧ _›).1.mono HB0.out.size)⟩

set_option maxRecDepth 100000 in
theorem lifted (os : Os) (started : os.Started) (H : Type) (enc : TypeId × Value → H) :
    ReturnsInHanded {} Try.checked os 7 .any (Rows.headSameSpec.pre6 enc Try.prog Try.f7 Rows.headSameRow.domain false) (Rows.headSameSpec.post enc Try.prog Try.f7 false true false false) := by
  refine returnsInHanded_of_change (C := Try.checked) own started (by kernel_rfl) Try.func7
    (ChangeSpec.witness6 (enc := enc) (C := Try.checked) false ⟨#[], #[.agg #[.int .i64 0, .int .i64 0, .int .i64 0, .int .u32 0, .int .i64 0, .int .i64 0, .int .i64 0, .int .i64 0, .int .i64 0, .int .i64 0, .int .i64 0, .slice none 0 0], .agg #[.int .i64 0, .int .i64 0, .int .i64 0, .int .u32 0, .int .i64 0, .int .i64 0, .int .i64 0, .int .i64 0, .int .i64 0, .int .i64 0, .int .i64 0, .slice none 0 0]], []⟩ 8 (by kernel_rfl) (by kernel_rfl) (by kernel_rfl) (by kernel_rfl)) ?_
  intro W base args ds gs before hval0 hW hcnd _
  have hval : ∀ (j : Nat) t v, Try.f7.params[j]? = some t → args[j]? = some v → Value.okWide Try.prog W .any base t v := hval0
  have hW' := hW
  obtain ⟨p, q, hA0, hV, rfl, hfz, hnd⟩ := hW
  have hA : DataW.TrodAll enc Try.prog W 0 (fun _ => true) true Try.f7.params.toList args.toList ds p := hA0
  rw [Try.params7] at hA hval
  obtain ⟨v0, vs0, d0, ds0, p0, q0, hargs, rfl, rfl, h0, r0⟩ := trodAll_cons hA
  obtain ⟨v1, vs1, d1, ds1, p1, q1, rfl, rfl, rfl, h1, r1⟩ := trodAll_cons r0
  obtain ⟨rfl, rfl, rfl⟩ := trodAll_nil r1
  obtain rfl : args = #[v0, v1] := by cases args; simp_all
  obtain ⟨rfl, rfl⟩ := trodVars_none hV
  have k0 := h0
  have lt0 : ∀ x ∈ p0, x.block < W.heap.size := by obtain ⟨m, hm⟩ := k0; exact DataW.trod_lt m _ _ _ hm
  obtain ⟨a0, rfl, w0⟩ := Hed.open_pk (hval 0 27 v0 rfl rfl) h0
  have k1 := h1
  have lt1 : ∀ x ∈ p1, x.block < W.heap.size := by obtain ⟨m, hm⟩ := k1; exact DataW.trod_lt m _ _ _ hm
  obtain ⟨a1, rfl, w1⟩ := Hed.open_pk (hval 1 27 v1 rfl rfl) h1
  clear hA0 hval0
  refine (walk a0 a1 W w0 w1).mono fun e W' ⟨he, bel⟩ => ?_
  subst he
  exact ⟨_, rfl, _, _, _, [], _, [], hW', trodAll_mk1 (shut_bool Try.underlying4 _), (trodAll_cons_mk (Below.trod laidOut (by kernel_rfl) (of_decide_eq_true (by kernel_rfl)) k0 bel lt0) (trodAll_cons_mk (Below.trod laidOut (by kernel_rfl) (of_decide_eq_true (by kernel_rfl)) k1 bel lt1) trodAll_mk0)), rfl, bel.frame _, fun h => by cases h⟩

theorem over : Rows.headSameRow.holds Try.pinned (OpenSpec.ofChange Rows.headSameSpec) :=
  OpenClaim.holds_of_wide 7 Try.f7 rfl rfl rfl rfl rfl rfl rfl ⟨rfl, rfl, rfl, rfl, rfl⟩ rfl rfl rfl rfl rfl (by kernel_rfl) Try.func7 (by kernel_rfl)
    (of_decide_eq_true (by kernel_rfl)) (by unfold Func.isWrapper; first | (rw [if_pos (by decide +kernel)]; kernel_rfl) | (rw [if_neg (by decide +kernel)]; exact ⟨rfl, rfl⟩))
    (fun os started H enc _ => lifted os started H enc)

theorem proved : Rows.HeadSameSaid := over
#print axioms proved
end Go.Proofs.Ytliblcjfccijjaa.lawHeadSame
