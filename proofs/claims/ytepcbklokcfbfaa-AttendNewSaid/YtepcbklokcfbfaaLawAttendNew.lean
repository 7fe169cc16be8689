/- An attend of any key and any number is as the document says, and whether any packet may be one. -/
import Derived.Test.YtepcbklokcfbfaaRows
import Derived.WalkKit
import Derived.ProofKit
import Derived.OpenShut
import Derived.ShutString
import Derived.ChangeOld
import Derived.Below
import Derived.Test.YtepcbklokcfbfaaAttK
import Derived.Test.YtepcbklokcfbfaaPulN
import Derived.Test.YtepcbklokcfbfaaHedO
import Derived.Deep.RegionHeldLaw
import Derived.Deep.Cut
namespace Go.Proofs.Ytepcbklokcfbfaa.lawAttendNew
open Go.ChangeShapes Go.WideShapes Go.ChangeAt Go.RowKit
open Go.ChangeMaps (open_string shut_string)
set_option linter.unusedVariables false

theorem own : ownKnob Try.prog.godebug = none := by kernel_rfl
theorem laidOut : laidOutB Try.prog = true := by kernel_rfl

/-! The walk: the Go text returns true and writes nothing that was there. -/
set_option linter.unusedSimpArgs false in
set_option maxRecDepth 100000 in
set_option maxHeartbeats 8000000 in
theorem walk (a0 : Key.Ky) (a1 : Int) (a2 : Hed.Pk) (w : World) (w0 : Key.ok a0) (w1 : (Lit.int .i64 a1).wf = true) (w2 : Pul.Okx w a2) :
    Calls Try.prog 3 #[Key.kval a0, .int .i64 a1, Hed.pval a2] w fun e w' => e = .returned (.bool true) ∧ Below w.heap.size w w' := by
  have hr2 := w2.ok.rd
  obtain ⟨wb, hwb⟩ : ∃ wb, Hid (wb = (w.alloc (.cells #[.int .i64 a0.1, .int .i64 a0.2.1, .int .u32 a0.2.2] 24)).alloc (.cells (Hed.Pk.cells a2) 27)) := ⟨_, Lib.hid rfl⟩
  have hXB := Dat.boxes_tt w wb _ _ _ _ hwb.out
  have HB0 := Lib.hid hXB.1
  have HC : Hid (∀ W, Below wb.heap.size wb W → (_ ∧ _ ∧ _) ∧ _) := Lib.hid (fun W hW => ⟨⟨(hXB.2.1.below hW).cell 0, (hXB.2.1.below hW).cell 1, (hXB.2.1.below hW).cell 2⟩, Hed.blk_cells (hXB.2.2.below hW)⟩)
  simp only [List.getElem?_toArray, List.getElem?_cons_succ, List.getElem?_cons_zero] at HC
  have HR : Hid (∀ W, Below wb.heap.size wb W → Byt.RdB W a2.ad a2.body) := Lib.hid (fun W hW => hr2.below (HB0.out.trans (hW.mono HB0.out.size)))
  have CN : Hid (∀ W, Below wb.heap.size wb W → Calls Try.prog 9 #[Key.kval a0, .int .i64 a1] W fun e w' => e = .returned (Hed.pval (Att.attP a0 1 a1)) ∧ Below wb.heap.size wb w') := Lib.hid (fun W hW => (Att.anew_any a0 a1 W).mono fun e w' h => ⟨h.1, hW.trans (h.2.mono hW.size)⟩)
  have CNr : Hid (∀ W, Below wb.heap.size wb W → Calls Try.prog 10 #[Key.kval a0, .int .i64 a1] W fun e w' => e = .returned (Hed.pval (Att.attP a0 1 a1)) ∧ Below wb.heap.size wb w') := Lib.hid (fun W hW => (Att.ranew_any a0 a1 W).mono fun e w' h => ⟨h.1, hW.trans (h.2.mono hW.size)⟩)
  have CS : Hid (∀ W, Below wb.heap.size wb W → Calls Try.prog 8 #[Hed.pval (Att.attP a0 1 a1), Hed.pval (Att.attP a0 1 a1)] W fun e w' => e = .returned (.bool true) ∧ Below wb.heap.size wb w') := Lib.hid (fun W hW => ((by have h := Hed.rsame_any (Att.attP a0 1 a1) (Att.attP a0 1 a1) W (.inl rfl) (.inl rfl); rwa [Hed.eqP_self] at h : Calls Try.prog 8 #[Hed.pval (Att.attP a0 1 a1), Hed.pval (Att.attP a0 1 a1)] W fun e w' => e = .returned (.bool true) ∧ Below W.heap.size W w')).mono fun e w' h => ⟨h.1, hW.trans (h.2.mono hW.size)⟩)
  have CG1 : Hid (∀ W, Below wb.heap.size wb W → Calls Try.prog 11 #[Hed.pval (Att.attP a0 1 a1)] W fun e w' => e = .returned (.bool (Att.attG (Att.attP a0 1 a1))) ∧ Below wb.heap.size wb w') := Lib.hid (fun W hW => (Att.agood_any _ W (.inl rfl)).mono fun e w' h => ⟨h.1, hW.trans (h.2.mono hW.size)⟩)
  have CR1 : Hid (∀ W, Below wb.heap.size wb W → Calls Try.prog 12 #[Hed.pval (Att.attP a0 1 a1)] W fun e w' => e = .returned (.bool (Att.attG (Att.attP a0 1 a1))) ∧ Below wb.heap.size wb w') := Lib.hid (fun W hW => (Att.ragood_any _ W (.inl rfl)).mono fun e w' h => ⟨h.1, hW.trans (h.2.mono hW.size)⟩)
  have CG2 : Hid (∀ W, Below wb.heap.size wb W → Calls Try.prog 11 #[Hed.pval a2] W fun e w' => e = .returned (.bool (Att.attG a2)) ∧ Below wb.heap.size wb w') := Lib.hid (fun W hW => (Att.agood_any a2 W (HR.out W hW)).mono fun e w' h => ⟨h.1, hW.trans (h.2.mono hW.size)⟩)
  have CR2 : Hid (∀ W, Below wb.heap.size wb W → Calls Try.prog 12 #[Hed.pval a2] W fun e w' => e = .returned (.bool (Att.attG a2)) ∧ Below wb.heap.size wb w') := Lib.hid (fun W hW => (Att.ragood_any a2 W (HR.out W hW)).mono fun e w' h => ⟨h.1, hW.trans (h.2.mono hW.size)⟩)
  have CW : Hid (∀ W, Below wb.heap.size wb W → Calls Try.prog 13 #[] W fun e w' => e = .returned (.bool true) ∧ Below wb.heap.size wb w') := Lib.hid (fun W hW => (Att.aworks_any W).mono fun e w' h => ⟨h.1, hW.trans (h.2.mono hW.size)⟩)
  generalize Att.attG (Att.attP a0 1 a1) = g1 at *
  generalize Att.attG a2 = g2 at *
  have hg1 : (g1 == g1) = true := by simp
  have hg2 : (g2 == g2) = true := by simp
  clear w0 w1 w2 hr2 HR hXB
  unfold Att.attP at CN CNr CS CG1 CR1
  obtain ⟨kt, kf, ks⟩ := a0
  obtain ⟨kind, ⟨t, f, s⟩, hops, no, to, index, total, stamp, value, ad, cap, body⟩ := a2
  unfold Key.kval Hed.pval Hed.Pk.cells at CN CNr
  unfold Hed.pval Hed.Pk.cells at CS CG1 CR1 CG2 CR2
  unfold Hed.Pk.cells at hwb
  unfold Key.kval Hed.pval Hed.Pk.cells
  simp only [List.length_nil] at CN CNr CS CG1 CR1 CG2 CR2 hwb HC ⊢
  obtain ⟨n, hn⟩ : ∃ n, body.length = n := ⟨_, rfl⟩
  simp only [hn] at CG2 CR2 hwb HC ⊢
  clear hn
  have HH : Hid (∀ W, Below wb.heap.size wb W → (W.cell? ⟨w.heap.size, 0, none⟩ = some (.int .i64 kt) ∧ W.cell? ⟨w.heap.size, 1, none⟩ = some (.int .i64 kf) ∧ W.cell? ⟨w.heap.size, 2, none⟩ = some (.int .u32 ks)) ∧ (W.cell? ⟨(w.heap.size + 1), 0, none⟩ = some (.int .i64 kind) ∧ W.cell? ⟨(w.heap.size + 1), 1, none⟩ = some (.int .i64 t) ∧ W.cell? ⟨(w.heap.size + 1), 2, none⟩ = some (.int .i64 f) ∧ W.cell? ⟨(w.heap.size + 1), 3, none⟩ = some (.int .u32 s) ∧ W.cell? ⟨(w.heap.size + 1), 4, none⟩ = some (.int .i64 hops) ∧ W.cell? ⟨(w.heap.size + 1), 5, none⟩ = some (.int .i64 no) ∧ W.cell? ⟨(w.heap.size + 1), 6, none⟩ = some (.int .i64 to) ∧ W.cell? ⟨(w.heap.size + 1), 7, none⟩ = some (.int .i64 index) ∧ W.cell? ⟨(w.heap.size + 1), 8, none⟩ = some (.int .i64 total) ∧ W.cell? ⟨(w.heap.size + 1), 9, none⟩ = some (.int .i64 stamp) ∧ W.cell? ⟨(w.heap.size + 1), 10, none⟩ = some (.int .i64 value) ∧ W.cell? ⟨(w.heap.size + 1), 11, none⟩ = some (.slice ad n cap))) := Lib.hid (fun W hW => HC.out W hW)
  clear HC
  go_enter Try.func3, Try.ntmps3
  go_upto_region 1 with fail
  rw [← hwb.out]
  obtain ⟨⟨k0, k1, k2⟩, c0, c1, c2, c3, c4, c5, c6, c7, c8, c9, c10, c11⟩ := HH.out wb (Below.refl _ _)
  refine wp_region_noPanic ?_
  go_region_held_law (fun W => Below wb.heap.size wb W ∧ (W.cell? ⟨w.heap.size, 0, none⟩ = some (.int .i64 kt) ∧ W.cell? ⟨w.heap.size, 1, none⟩ = some (.int .i64 kf) ∧ W.cell? ⟨w.heap.size, 2, none⟩ = some (.int .u32 ks)) ∧ (W.cell? ⟨(w.heap.size + 1), 0, none⟩ = some (.int .i64 kind) ∧ W.cell? ⟨(w.heap.size + 1), 1, none⟩ = some (.int .i64 t) ∧ W.cell? ⟨(w.heap.size + 1), 2, none⟩ = some (.int .i64 f) ∧ W.cell? ⟨(w.heap.size + 1), 3, none⟩ = some (.int .u32 s) ∧ W.cell? ⟨(w.heap.size + 1), 4, none⟩ = some (.int .i64 hops) ∧ W.cell? ⟨(w.heap.size + 1), 5, none⟩ = some (.int .i64 no) ∧ W.cell? ⟨(w.heap.size + 1), 6, none⟩ = some (.int .i64 to) ∧ W.cell? ⟨(w.heap.size + 1), 7, none⟩ = some (.int .i64 index) ∧ W.cell? ⟨(w.heap.size + 1), 8, none⟩ = some (.int .i64 total) ∧ W.cell? ⟨(w.heap.size + 1), 9, none⟩ = some (.int .i64 stamp) ∧ W.cell? ⟨(w.heap.size + 1), 10, none⟩ = some (.int .i64 value) ∧ W.cell? ⟨(w.heap.size + 1), 11, none⟩ = some (.slice ad n cap))) (refine ⟨?_, HH.out _ ?_⟩ <;> (first | assumption | exact (Below.refl _ _) | exact (Below.refl _ _).drew | exact Below.drew (by assumption)))
    (first
      | (go_at_call 9; (with_reducible refine (CN.out _ ?_).mono ?_); (focus (first | assumption | exact (Below.refl _ _) | exact (Below.refl _ _).drew | exact Below.drew (by assumption) | exact (‹Below wb.heap.size wb _ ∧ _›).1)); rintro e w4 ⟨rfl, hB4⟩)
      | (go_at_call 10; (with_reducible refine (CNr.out _ ?_).mono ?_); (focus (first | assumption | exact (Below.refl _ _) | exact (Below.refl _ _).drew | exact Below.drew (by assumption) | exact (‹Below wb.heap.size wb _ ∧ _›).1)); rintro e w5 ⟨rfl, hB5⟩)
      | (go_at_call 8; (with_reducible refine (CS.out _ ?_).mono ?_); (focus (first | assumption | exact (Below.refl _ _) | exact (Below.refl _ _).drew | exact Below.drew (by assumption) | exact (‹Below wb.heap.size wb _ ∧ _›).1)); rintro e w6 ⟨rfl, hB6⟩)
      | (go_at_call 11; (with_reducible refine (CG1.out _ ?_).mono ?_); (focus (first | assumption | exact (Below.refl _ _) | exact (Below.refl _ _).drew | exact Below.drew (by assumption) | exact (‹Below wb.heap.size wb _ ∧ _›).1)); rintro e w7 ⟨rfl, hB7⟩)
      | (go_at_call 12; (with_reducible refine (CR1.out _ ?_).mono ?_); (focus (first | assumption | exact (Below.refl _ _) | exact (Below.refl _ _).drew | exact Below.drew (by assumption) | exact (‹Below wb.heap.size wb _ ∧ _›).1)); rintro e w8 ⟨rfl, hB8⟩)
      | (go_at_call 11; (with_reducible refine (CG2.out _ ?_).mono ?_); (focus (first | assumption | exact (Below.refl _ _) | exact (Below.refl _ _).drew | exact Below.drew (by assumption) | exact (‹Below wb.heap.size wb _ ∧ _›).1)); rintro e w9 ⟨rfl, hB9⟩)
      | (go_at_call 12; (with_reducible refine (CR2.out _ ?_).mono ?_); (focus (first | assumption | exact (Below.refl _ _) | exact (Below.refl _ _).drew | exact Below.drew (by assumption) | exact (‹Below wb.heap.size wb _ ∧ _›).1)); rintro e w10 ⟨rfl, hB10⟩)
      | (go_at_call 13; (with_reducible refine (CW.out _ ?_).mono ?_); (focus (first | assumption | exact (Below.refl _ _) | exact (Below.refl _ _).drew | exact Below.drew (by assumption) | exact (‹Below wb.heap.size wb _ ∧ _›).1)); rintro e w11 ⟨rfl, hB11⟩))
  all_goals
    refine NoPanic.normal ?_
    go_wp2_with fail
    go_ret
    exact ⟨rfl, HB0.out.trans ((‹Below wb.heap.size wb _ ∧ _›).1.mono HB0.out.size)⟩

set_option maxRecDepth 100000 in
theorem lifted (os : Os) (started : os.Started) (H : Type) (enc : TypeId × Value → H) :
    ReturnsInHanded {} Try.checked os 3 .any (Rows.attendNewSpec.pre6 enc Try.prog Try.f3 Rows.attendNewRow.domain false) (Rows.attendNewSpec.post enc Try.prog Try.f3 false true false false) := by
  refine returnsInHanded_of_change (C := Try.checked) own started (by kernel_rfl) Try.func3
    (ChangeSpec.witness6 (enc := enc) (C := Try.checked) false ⟨#[], #[.agg #[.int .i64 0, .int .i64 0, .int .u32 0], .int .i64 0, .agg #[.int .i64 0, .int .i64 0, .int .i64 0, .int .u32 0, .int .i64 0, .int .i64 0, .int .i64 0, .int .i64 0, .int .i64 0, .int .i64 0, .int .i64 0, .slice none 0 0]], []⟩ 8 (by kernel_rfl) (by kernel_rfl) (by kernel_rfl) (by kernel_rfl)) ?_
  intro W base args ds gs before hval0 hW hcnd _
  have hval : ∀ (j : Nat) t v, Try.f3.params[j]? = some t → args[j]? = some v → Value.okWide Try.prog W .any base t v := hval0
  have hW' := hW
  obtain ⟨p, q, hA0, hV, rfl, hfz, hnd⟩ := hW
  have hA : DataW.TrodAll enc Try.prog W 0 (fun _ => true) true Try.f3.params.toList args.toList ds p := hA0
  rw [Try.params3] at hA hval
  obtain ⟨v0, vs0, d0, ds0, p0, q0, hargs, rfl, rfl, h0, r0⟩ := trodAll_cons hA
  obtain ⟨v1, vs1, d1, ds1, p1, q1, rfl, rfl, rfl, h1, r1⟩ := trodAll_cons r0
  obtain ⟨v2, vs2, d2, ds2, p2, q2, rfl, rfl, rfl, h2, r2⟩ := trodAll_cons r1
  obtain ⟨rfl, rfl, rfl⟩ := trodAll_nil r2
  obtain rfl : args = #[v0, v1, v2] := by cases args; simp_all
  obtain ⟨rfl, rfl⟩ := trodVars_none hV
  have k0 := h0
  have lt0 : ∀ x ∈ p0, x.block < W.heap.size := by obtain ⟨m, hm⟩ := k0; exact DataW.trod_lt m _ _ _ hm
  obtain ⟨a0, rfl, w0⟩ := Dat.open_k (hval 0 24 v0 rfl rfl) h0
  obtain ⟨a1, rfl, rfl, rfl, w1⟩ := open_int Try.underlying2 (hval 1 2 v1 rfl rfl) h1
  have k2 := h2
  have lt2 : ∀ x ∈ p2, x.block < W.heap.size := by obtain ⟨m, hm⟩ := k2; exact DataW.trod_lt m _ _ _ hm
  obtain ⟨a2, rfl, w2⟩ := Pul.open_pkx (hval 2 27 v2 rfl rfl) h2
  clear hA0 hval0
  refine (walk a0 a1 a2 W w0 w1 w2).mono fun e W' ⟨he, bel⟩ => ?_
  subst he
  exact ⟨_, rfl, _, _, _, [], _, [], hW', trodAll_mk1 (shut_bool Try.underlying4 _), (trodAll_cons_mk (Below.trod laidOut (by kernel_rfl) (of_decide_eq_true (by kernel_rfl)) k0 bel lt0) (trodAll_cons_mk (shut_int Try.underlying2 w1) (trodAll_cons_mk (Below.trod laidOut (by kernel_rfl) (of_decide_eq_true (by kernel_rfl)) k2 bel lt2) trodAll_mk0))), rfl, bel.frame _, fun h => by cases h⟩

theorem over : Rows.attendNewRow.holds Try.pinned (OpenSpec.ofChange Rows.attendNewSpec) :=
  OpenClaim.holds_of_wide 3 Try.f3 rfl rfl rfl rfl rfl rfl rfl ⟨rfl, rfl, rfl, rfl, rfl⟩ rfl rfl rfl rfl rfl (by kernel_rfl) Try.func3 (by kernel_rfl)
    (of_decide_eq_true (by kernel_rfl)) (by unfold Func.isWrapper; first | (rw [if_pos (by decide +kernel)]; kernel_rfl) | (rw [if_neg (by decide +kernel)]; exact ⟨rfl, rfl⟩))
    (fun os started H enc _ => lifted os started H enc)

theorem proved : Rows.AttendNewSaid := over
#print axioms proved
end Go.Proofs.Ytepcbklokcfbfaa.lawAttendNew
