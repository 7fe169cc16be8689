/- Of any two keys it is told which one is ahead, and whether one may be, as the document says. -/
import Derived.Test.YtpfnjippdjhfgaaDoorRows
import Derived.Test.YtpfnjippdjhfgaaDoorTie
import Derived.Test.YtpfnjippdjhfgaaDoorCards
import Derived.SevenTiedAt
import Derived.LaidMore
import Derived.Stop.Joined
import Derived.WalkKit
import Derived.ProofKit
import Derived.OpenShut
import Derived.ShutString
import Derived.ChangeOld
import Derived.Below
import Derived.Test.YtpfnjippdjhfgaaDoorKeyN
import Derived.Deep.Cut
namespace Go.Proofs.YtpfnjippdjhfgaaDoor.lawKeyOrder
open Go.ChangeShapes Go.WideShapes Go.ChangeAt Go.RowKit
open Go.ChangeMaps (open_string shut_string)
set_option linter.unusedVariables false

theorem own : ownKnob Tryd.prog.godebug = none := by kernel_rfl
theorem laidOut : laidOutB Tryd.prog = true := by kernel_rfl

/-! The walk: the Go text returns true and writes nothing that was there. -/
set_option maxRecDepth 100000 in
set_option maxHeartbeats 1000000 in
theorem walk (a0 : Key.Ky) (a1 : Key.Ky) (w : World) (w0 : Key.ok a0) (w1 : Key.ok a1) (hT : Key.Tabs w) :
    Calls Tryd.prog 3 #[Key.kval a0, Key.kval a1] w fun e w' => e = .returned (.bool true) ∧ Below w.heap.size w w' := by
  obtain ⟨wb, hwb⟩ : ∃ wb, Hid (wb = (w.alloc (.cells #[.int .i64 a0.1, .int .i64 a0.2.1, .int .u32 a0.2.2] 24)).alloc (.cells #[.int .i64 a1.1, .int .i64 a1.2.1, .int .u32 a1.2.2] 24)) := ⟨_, Lib.hid rfl⟩
  have HB0 := Lib.hid (Key.two_box w wb a0 a1 hwb.out).1
  have HC := Lib.hid (Key.two_box w wb a0 a1 hwb.out).2
  have CL : Hid (∀ W, Below wb.heap.size wb W → Calls Tryd.prog 9 #[Key.kval a0, Key.kval a1] W fun e w' => e = .returned (.bool (Key.ltK a0 a1)) ∧ Below wb.heap.size wb w') := Lib.hid (fun W hW => (Key.rless_any a0 a1 W).mono fun e w' h => ⟨h.1, hW.trans (h.2.mono hW.size)⟩)
  have CM : Hid (∀ W, Below wb.heap.size wb W → Calls Tryd.prog 9 #[Key.kval a1, Key.kval a0] W fun e w' => e = .returned (.bool (Key.ltK a1 a0)) ∧ Below wb.heap.size wb w') := Lib.hid (fun W hW => (Key.rless_any a1 a0 W).mono fun e w' h => ⟨h.1, hW.trans (h.2.mono hW.size)⟩)
  have CC : Hid (∀ W, Below wb.heap.size wb W → Calls Tryd.prog 10 #[Key.kval a0, Key.kval a1] W fun e w' => e = .returned (.int .i64 (Key.cmpK a0 a1)) ∧ Below wb.heap.size wb w') := Lib.hid (fun W hW => (((Key.compare_any a0 a1 W).mono fun e w' h => (⟨h.1, h.2.below⟩ : _ ∧ Below W.heap.size W w'))).mono fun e w' h => ⟨h.1, hW.trans (h.2.mono hW.size)⟩)
  have CN : Hid (∀ W, Below wb.heap.size wb W → Calls Tryd.prog 11 #[Key.kval a0, Key.kval a1] W fun e w' => e = .returned (.bool (Key.ltK a0 a1)) ∧ Below wb.heap.size wb w') := Lib.hid (fun W hW => (Key.less_any a0 a1 W).mono fun e w' h => ⟨h.1, hW.trans (h.2.mono hW.size)⟩)
  have CG : Hid (∀ W, Below wb.heap.size wb W → Calls Tryd.prog 12 #[Key.kval a0] W fun e w' => e = .returned (.bool (Key.goodK a0)) ∧ Below wb.heap.size wb w') := Lib.hid (fun W hW => (Key.good_any a0 W).mono fun e w' h => ⟨h.1, hW.trans (h.2.mono hW.size)⟩)
  have CH : Hid (∀ W, Below wb.heap.size wb W → Calls Tryd.prog 13 #[Key.kval a0] W fun e w' => e = .returned (.bool (Key.goodK a0)) ∧ Below wb.heap.size wb w') := Lib.hid (fun W hW => (Key.rgood_any a0 W).mono fun e w' h => ⟨h.1, hW.trans (h.2.mono hW.size)⟩)
  have CW : Hid (∀ W, Below wb.heap.size wb W → Calls Tryd.prog 14 #[] W fun e w' => e = .returned (.bool true) ∧ Below wb.heap.size wb w') := Lib.hid (fun W hW => (Key.works_any W (hT.below (HB0.out.trans (hW.mono HB0.out.size)))).mono fun e w' h => ⟨h.1, hW.trans (h.2.mono hW.size)⟩)
  have hv := Key.cmp_val a0 a1
  have has := fun h => Key.lt_asymm (x := a0) (y := a1) h
  rw [hv] at CC
  clear hv hT
  generalize Key.goodK a0 = gd at *
  have hgg : (gd == gd) = true := by simp
  generalize Key.ltK a0 a1 = l1 at *
  generalize Key.ltK a1 a0 = l2 at *
  obtain ⟨p, q, s⟩ := a0
  obtain ⟨p', q', s'⟩ := a1
  simp only [Key.kval] at CL CM CC CN CG CH
  try simp only at HC
  try simp only at hwb
  unfold Key.kval
  cases l1 with
  | true =>
    obtain rfl : l2 = false := has rfl
    simp only [if_true] at CC
    clear has
    go_enter Tryd.func3, Tryd.ntmps3
    go_upto_region 1 with fail
    rw [← hwb.out]
    obtain ⟨⟨c0, c1, c2⟩, d0, d1, d2⟩ := HC.out wb (Below.refl _ _)
    go_wp2_with fail
    refine (CL.out _ (Below.refl _ _)).mono ?_; rintro e w1 ⟨rfl, hB1⟩
    clear c0 c1 c2 d0 d1 d2
    obtain ⟨⟨c0, c1, c2⟩, d0, d1, d2⟩ := HC.out w1 hB1
    go_wp2_with fail
    refine (CM.out _ hB1).mono ?_; rintro e w2 ⟨rfl, hB2⟩
    clear c0 c1 c2 d0 d1 d2
    obtain ⟨⟨c0, c1, c2⟩, d0, d1, d2⟩ := HC.out w2 hB2
    clear hB1
    go_wp2_with fail
    refine wp_region_noPanic ?_
    go_region_held_law (fun W => Below wb.heap.size wb W ∧ (W.cell? ⟨w.heap.size, 0, none⟩ = some (.int .i64 p) ∧ W.cell? ⟨w.heap.size, 1, none⟩ = some (.int .i64 q) ∧ W.cell? ⟨w.heap.size, 2, none⟩ = some (.int .u32 s)) ∧ (W.cell? ⟨w.heap.size + 1, 0, none⟩ = some (.int .i64 p') ∧ W.cell? ⟨w.heap.size + 1, 1, none⟩ = some (.int .i64 q') ∧ W.cell? ⟨w.heap.size + 1, 2, none⟩ = some (.int .u32 s'))) ((refine ⟨?_, HC.out _ ?_⟩ <;> (first | assumption | exact hB2 | exact (hB2.drew))))
      (first
        | (go_at_call 10; (with_reducible refine (CC.out _ ?_).mono ?_); (focus (first | assumption | exact (Below.refl _ _) | exact hB2.drew | exact (‹Below wb.heap.size wb _ ∧ _›).1)); rintro e w3 ⟨rfl, hB3⟩)
        | (go_at_call 11; (with_reducible refine (CN.out _ ?_).mono ?_); (focus (first | assumption | exact (Below.refl _ _) | exact (Below.refl _ _).drew | exact (‹Below wb.heap.size wb _ ∧ _›).1)); rintro e w4 ⟨rfl, hB4⟩)
        | (go_at_call 12; (with_reducible refine (CG.out _ ?_).mono ?_); (focus (first | assumption | exact (Below.refl _ _) | exact (Below.refl _ _).drew | exact (‹Below wb.heap.size wb _ ∧ _›).1)); rintro e w5 ⟨rfl, hB5⟩)
        | (go_at_call 13; (with_reducible refine (CH.out _ ?_).mono ?_); (focus (first | assumption | exact (Below.refl _ _) | exact (Below.refl _ _).drew | exact (‹Below wb.heap.size wb _ ∧ _›).1)); rintro e w6 ⟨rfl, hB6⟩)
        | (go_at_call 14; (with_reducible refine (CW.out _ ?_).mono ?_); (focus (first | assumption | exact (Below.refl _ _) | exact (Below.refl _ _).drew | exact (‹Below wb.heap.size wb _ ∧ _›).1)); rintro e w7 ⟨rfl, hB7⟩))
    all_goals
      refine NoPanic.normal ?_
      go_wp2_with fail
      go_ret
      exact ⟨rfl, HB0.out.trans ((‹Below wb.heap.size wb _ ∧ _›).1.mono HB0.out.size)⟩
  | false =>
    clear has
    cases l2 with
    | true =>
      simp only [Bool.false_eq_true, if_false, if_true] at CC
      go_enter Tryd.func3, Tryd.ntmps3
      go_upto_region 1 with fail
      rw [← hwb.out]
      obtain ⟨⟨c0, c1, c2⟩, d0, d1, d2⟩ := HC.out wb (Below.refl _ _)
      go_wp2_with fail
      refine (CL.out _ (Below.refl _ _)).mono ?_; rintro e w1 ⟨rfl, hB1⟩
      clear c0 c1 c2 d0 d1 d2
      obtain ⟨⟨c0, c1, c2⟩, d0, d1, d2⟩ := HC.out w1 hB1
      go_wp2_with fail
      refine (CM.out _ hB1).mono ?_; rintro e w2 ⟨rfl, hB2⟩
      clear c0 c1 c2 d0 d1 d2
      obtain ⟨⟨c0, c1, c2⟩, d0, d1, d2⟩ := HC.out w2 hB2
      clear hB1
      go_wp2_with fail
      refine wp_region_noPanic ?_
      go_region_held_law (fun W => Below wb.heap.size wb W ∧ (W.cell? ⟨w.heap.size, 0, none⟩ = some (.int .i64 p) ∧ W.cell? ⟨w.heap.size, 1, none⟩ = some (.int .i64 q) ∧ W.cell? ⟨w.heap.size, 2, none⟩ = some (.int .u32 s)) ∧ (W.cell? ⟨w.heap.size + 1, 0, none⟩ = some (.int .i64 p') ∧ W.cell? ⟨w.heap.size + 1, 1, none⟩ = some (.int .i64 q') ∧ W.cell? ⟨w.heap.size + 1, 2, none⟩ = some (.int .u32 s'))) ((refine ⟨?_, HC.out _ ?_⟩ <;> (first | assumption | exact hB2 | exact (hB2.drew))))
        (first
          | (go_at_call 10; (with_reducible refine (CC.out _ ?_).mono ?_); (focus (first | assumption | exact (Below.refl _ _) | exact hB2.drew | exact (‹Below wb.heap.size wb _ ∧ _›).1)); rintro e w3 ⟨rfl, hB3⟩)
          | (go_at_call 11; (with_reducible refine (CN.out _ ?_).mono ?_); (focus (first | assumption | exact (Below.refl _ _) | exact (Below.refl _ _).drew | exact (‹Below wb.heap.size wb _ ∧ _›).1)); rintro e w4 ⟨rfl, hB4⟩)
          | (go_at_call 12; (with_reducible refine (CG.out _ ?_).mono ?_); (focus (first | assumption | exact (Below.refl _ _) | exact (Below.refl _ _).drew | exact (‹Below wb.heap.size wb _ ∧ _›).1)); rintro e w5 ⟨rfl, hB5⟩)
          | (go_at_call 13; (with_reducible refine (CH.out _ ?_).mono ?_); (focus (first | assumption | exact (Below.refl _ _) | exact (Below.refl _ _).drew | exact (‹Below wb.heap.size wb _ ∧ _›).1)); rintro e w6 ⟨rfl, hB6⟩)
          | (go_at_call 14; (with_reducible refine (CW.out _ ?_).mono ?_); (focus (first | assumption | exact (Below.refl _ _) | exact (Below.refl _ _).drew | exact (‹Below wb.heap.size wb _ ∧ _›).1)); rintro e w7 ⟨rfl, hB7⟩))
      all_goals
        refine NoPanic.normal ?_
        go_wp2_with fail
        go_ret
        exact ⟨rfl, HB0.out.trans ((‹Below wb.heap.size wb _ ∧ _›).1.mono HB0.out.size)⟩
    | false =>
      simp only [Bool.false_eq_true, if_false] at CC
      go_enter Tryd.func3, Tryd.ntmps3
      go_upto_region 1 with fail
      rw [← hwb.out]
      obtain ⟨⟨c0, c1, c2⟩, d0, d1, d2⟩ := HC.out wb (Below.refl _ _)
      go_wp2_with fail
      refine (CL.out _ (Below.refl _ _)).mono ?_; rintro e w1 ⟨rfl, hB1⟩
      clear c0 c1 c2 d0 d1 d2
      obtain ⟨⟨c0, c1, c2⟩, d0, d1, d2⟩ := HC.out w1 hB1
      go_wp2_with fail
      refine (CM.out _ hB1).mono ?_; rintro e w2 ⟨rfl, hB2⟩
      clear c0 c1 c2 d0 d1 d2
      obtain ⟨⟨c0, c1, c2⟩, d0, d1, d2⟩ := HC.out w2 hB2
      clear hB1
      go_wp2_with fail
      refine wp_region_noPanic ?_
      go_region_held_law (fun W => Below wb.heap.size wb W ∧ (W.cell? ⟨w.heap.size, 0, none⟩ = some (.int .i64 p) ∧ W.cell? ⟨w.heap.size, 1, none⟩ = some (.int .i64 q) ∧ W.cell? ⟨w.heap.size, 2, none⟩ = some (.int .u32 s)) ∧ (W.cell? ⟨w.heap.size + 1, 0, none⟩ = some (.int .i64 p') ∧ W.cell? ⟨w.heap.size + 1, 1, none⟩ = some (.int .i64 q') ∧ W.cell? ⟨w.heap.size + 1, 2, none⟩ = some (.int .u32 s'))) ((refine ⟨?_, HC.out _ ?_⟩ <;> (first | assumption | exact hB2 | exact (hB2.drew))))
        (first
          | (go_at_call 10; (with_reducible refine (CC.out _ ?_).mono ?_); (focus (first | assumption | exact (Below.refl _ _) | exact hB2.drew | exact (‹Below wb.heap.size wb _ ∧ _›).1)); rintro e w3 ⟨rfl, hB3⟩)
          | (go_at_call 11; (with_reducible refine (CN.out _ ?_).mono ?_); (focus (first | assumption | exact (Below.refl _ _) | exact (Below.refl _ _).drew | exact (‹Below wb.heap.size wb _ ∧ _›).1)); rintro e w4 ⟨rfl, hB4⟩)
          | (go_at_call 12; (with_reducible refine (CG.out _ ?_).mono ?_); (focus (first | assumption | exact (Below.refl _ _) | exact (Below.refl _ _).drew | exact (‹Below wb.heap.size wb _ ∧ _›).1)); rintro e w5 ⟨rfl, hB5⟩)
          | (go_at_call 13; (with_reducible refine (CH.out _ ?_).mono ?_); (focus (first | assumption | exact (Below.refl _ _) | exact (Below.refl _ _).drew | exact (‹Below wb.heap.size wb _ ∧ _›).1)); rintro e w6 ⟨rfl, hB6⟩)
          | (go_at_call 14; (with_reducible refine (CW.out _ ?_).mono ?_); (focus (first | assumption | exact (Below.refl _ _) | exact (Below.refl _ _).drew | exact (‹Below wb.heap.size wb _ ∧ _›).1)); rintro e w7 ⟨rfl, hB7⟩))
      all_goals
        refine NoPanic.normal ?_
        go_wp2_with fail
        go_ret
        exact ⟨rfl, HB0.out.trans ((‹Below wb.heap.size wb _ ∧ _›).1.mono HB0.out.size)⟩

set_option maxRecDepth 100000 in
theorem lifted (os : Os) (started : os.Started) (H : Type) (enc : TypeId × Value → H) :
    ReturnsInHanded {} Tryd.checked os 3 .any (fun w args => (Rows.keyOrderSpec.pre enc Tryd.prog Tryd.f3 [] false w args ∧ laidMetH Tryd.prog Key.laidL w) ∧ sizedMet enc Tryd.prog Tryd.f3 (OpenSpec.ofChange Rows.keyOrderSpec) false w args) (Rows.keyOrderSpec.post enc Tryd.prog Tryd.f3 false true false false) := by
  refine returnsInHanded_of_change_and (C := Tryd.checked) (X := fun w _ => laidMetH Tryd.prog Key.laidL w) (fun _ _ _ hh h => h.of_heap hh) own started (by kernel_rfl) Tryd.func3
    (ChangeSpec.witness_shaped (enc := enc) (C := Tryd.checked) (os := os) (X := fun w _ => laidMetH Tryd.prog Key.laidL w) false (World.doorLaid Tryd.prog 24 os) #[.agg #[.int .i64 0, .int .i64 0, .int .u32 0], .agg #[.int .i64 0, .int .i64 0, .int .u32 0]] 8 rfl (World.shaped_of_RefB (by kernel_rfl) (by kernel_rfl)) (by kernel_rfl) (by kernel_rfl) (by kernel_rfl) (Key.door_met os _)) ?_
  intro W base args ds gs before hval0 hW _ _ hL _
  have hval : ∀ (j : Nat) t v, Tryd.f3.params[j]? = some t → args[j]? = some v → Value.okWide Tryd.prog W .any base t v := hval0
  have hW' := hW
  obtain ⟨p, q, hA0, hV, rfl, hfz, hnd⟩ := hW
  have hA : DataW.TrodAll enc Tryd.prog W 0 (fun _ => true) true Tryd.f3.params.toList args.toList ds p := hA0
  rw [Tryd.params3] at hA hval
  obtain ⟨v0, vs0, d0, ds0, p0, q0, hargs, rfl, rfl, h0, r0⟩ := trodAll_cons hA
  obtain ⟨v1, vs1, d1, ds1, p1, q1, rfl, rfl, rfl, h1, r1⟩ := trodAll_cons r0
  obtain ⟨rfl, rfl, rfl⟩ := trodAll_nil r1
  obtain rfl : args = #[v0, v1] := by cases args; simp_all
  obtain ⟨rfl, rfl⟩ := trodVars_none hV
  have k0 := h0
  have lt0 : ∀ x ∈ p0, x.block < W.heap.size := by obtain ⟨m, hm⟩ := k0; exact DataW.trod_lt m _ _ _ hm
  obtain ⟨a0, rfl, w0⟩ := Key.open_key (hval 0 24 v0 rfl rfl) h0
  have k1 := h1
  have lt1 : ∀ x ∈ p1, x.block < W.heap.size := by obtain ⟨m, hm⟩ := k1; exact DataW.trod_lt m _ _ _ hm
  obtain ⟨a1, rfl, w1⟩ := Key.open_key (hval 1 24 v1 rfl rfl) h1
  clear hA0 hval0
  have hT := Key.tabs_of_laid hL
  refine (walk a0 a1 W w0 w1 hT).mono fun e W' ⟨he, bel⟩ => ?_
  subst he
  exact ⟨_, rfl, _, _, _, [], _, [], hW', trodAll_mk1 (shut_bool Tryd.underlying4 _), (trodAll_cons_mk (Below.trod laidOut (by kernel_rfl) (of_decide_eq_true (by kernel_rfl)) k0 bel lt0) (trodAll_cons_mk (Below.trod laidOut (by kernel_rfl) (of_decide_eq_true (by kernel_rfl)) k1 bel lt1) trodAll_mk0)), rfl, bel.frame _, fun h => by cases h⟩

theorem over : Rows.keyOrderRow.holds Tryd.pinned (OpenSpec.ofChange Rows.keyOrderSpec) :=
  OpenClaim.holds_of_wide 3 Tryd.f3 rfl rfl rfl rfl rfl rfl rfl ⟨rfl, rfl, rfl, rfl, rfl⟩ rfl rfl rfl rfl rfl (by kernel_rfl) Tryd.func3 (by kernel_rfl)
    (of_decide_eq_true (by kernel_rfl)) (by unfold Func.isWrapper; first | (rw [if_pos (by decide +kernel)]; kernel_rfl) | (rw [if_neg (by decide +kernel)]; exact ⟨rfl, rfl⟩))
    (fun os started H enc _ => lifted os started H enc)

theorem func_is {f : FuncId} (h : Tryd.prog.funcNamed Rows.keyOrderRow.func = some f) : f = 3 :=
  Option.some.inj (h.symm.trans (show Tryd.prog.funcNamed Rows.keyOrderRow.func = some 3 by kernel_rfl))
theorem proved : Rows.KeyOrderCardSaid :=
  Claim7.holds_tied_plain_at .later [] Rows.keyOrderCard.laidKinds true Rows.keyOrderCard.stood.harness false
    over (fun _ h => by cases h) (by kernel_rfl) (fun _ h => by cases h) keyOrder_row_tie rfl ⟨rfl, rfl⟩ (by kernel_rfl) rfl
    (fun f fn hf hfn => by
      obtain rfl := func_is hf
      obtain rfl : fn = Tryd.f3 := (Option.some.inj (Tryd.func3.symm.trans hfn)).symm
      exact ⟨by kernel_rfl, fun j t ht => by
        rw [Tryd.params3] at ht
        have hm : t ∈ [24, 24] := by simpa using Array.mem_of_getElem? ht
        have hall : ([24, 24].all fun u => !Tryd.prog.wantsStandIn u) = true := by kernel_rfl
        exact (show Tryd.prog.wantsStandIn t = false by simpa using List.all_eq_true.1 hall t hm)⟩)
    (by kernel_rfl)
#print axioms proved
end Go.Proofs.YtpfnjippdjhfgaaDoor.lawKeyOrder
