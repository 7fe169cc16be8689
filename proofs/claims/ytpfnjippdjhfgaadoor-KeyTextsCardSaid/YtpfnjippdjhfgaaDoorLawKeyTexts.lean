/- The text of any key is as the document says. -/
import Derived.Test.YtpfnjippdjhfgaaDoorRows
import Derived.Test.YtpfnjippdjhfgaaDoorTie
import Derived.Test.YtpfnjippdjhfgaaDoorCards
import Derived.SevenTiedAt
import Derived.LaidMore
import Derived.Stop.Joined
import Derived.WalkKit
import Derived.ProofKit
import Derived.OpenShut
import Derived.ShutString
import Derived.ChangeOld
import Derived.Below
import Derived.Test.YtpfnjippdjhfgaaDoorKeyN
import Derived.Deep.Cut
namespace Go.Proofs.YtpfnjippdjhfgaaDoor.lawKeyTexts
open Go.ChangeShapes Go.WideShapes Go.ChangeAt Go.RowKit
open Go.ChangeMaps (open_string shut_string)
set_option linter.unusedVariables false

theorem own : ownKnob Tryd.prog.godebug = none := by kernel_rfl
theorem laidOut : laidOutB Tryd.prog = true := by kernel_rfl

/-! The walk: the Go text returns true and writes nothing that was there. -/
set_option maxRecDepth 100000 in
set_option maxHeartbeats 1000000 in
theorem walk (a0 : Key.Ky) (w : World) (w0 : Key.ok a0) (hT : Key.Tabs w) :
    Calls Tryd.prog 7 #[Key.kval a0] w fun e w' => e = .returned (.bool true) ∧ Below w.heap.size w w' := by
  obtain ⟨wb, hw0⟩ : ∃ wb, Hid (wb = w.alloc (.cells #[.int .i64 a0.1, .int .i64 a0.2.1, .int .u32 a0.2.2] 24)) := ⟨_, Lib.hid rfl⟩
  have HB0 := Lib.hid (Key.one_box w wb a0 hw0.out).1
  have HC := Lib.hid (Key.one_box w wb a0 hw0.out).2
  have CT : Hid (∀ W, Below wb.heap.size wb W → Calls Tryd.prog 23 #[Key.kval a0] W fun e w' => e = .returned (.string ⟨(Key.textK a0).toArray⟩) ∧ Below wb.heap.size wb w') := Lib.hid (fun W hW => (Key.text_any a0 w0 W (hT.below (HB0.out.trans (hW.mono HB0.out.size)))).mono fun e w' h => ⟨h.1, hW.trans (h.2.mono hW.size)⟩)
  have CR : Hid (∀ W, Below wb.heap.size wb W → Calls Tryd.prog 24 #[Key.kval a0] W fun e w' => e = .returned (.string ⟨(Key.textK a0).toArray⟩) ∧ Below wb.heap.size wb w') := Lib.hid (fun W hW => (Key.rtext_any a0 w0 W).mono fun e w' h => ⟨h.1, hW.trans (h.2.mono hW.size)⟩)
  have CW : Hid (∀ W, Below wb.heap.size wb W → Calls Tryd.prog 14 #[] W fun e w' => e = .returned (.bool true) ∧ Below wb.heap.size wb w') := Lib.hid (fun W hW => (Key.works_any W (hT.below (HB0.out.trans (hW.mono HB0.out.size)))).mono fun e w' h => ⟨h.1, hW.trans (h.2.mono hW.size)⟩)
  generalize (⟨(Key.textK a0).toArray⟩ : ByteArray) = t at *
  have htt : (t == t) = true := by rw [beq_toListBytes]; simp
  obtain ⟨p, q, s⟩ := a0
  simp only [Key.kval] at CT CR
  try simp only at HC
  try simp only at hw0
  unfold Key.kval
  clear hT
  go_enter Tryd.func7, Tryd.ntmps7
  go_upto_region 1 with fail
  rw [← hw0.out]
  obtain ⟨c0, c1, c2⟩ := HC.out wb (Below.refl _ _)
  refine wp_region_noPanic ?_
  go_region_held_law (fun W => Below wb.heap.size wb W ∧ W.cell? ⟨w.heap.size, 0, none⟩ = some (.int .i64 p) ∧ W.cell? ⟨w.heap.size, 1, none⟩ = some (.int .i64 q) ∧ W.cell? ⟨w.heap.size, 2, none⟩ = some (.int .u32 s)) ((refine ⟨?_, HC.out _ ?_⟩ <;> (first | assumption | exact (Below.refl _ _) | exact (Below.refl _ _).drew)))
    (first
      | (go_at_call 23; (with_reducible refine (CT.out _ ?_).mono ?_); (focus (first | assumption | exact (Below.refl _ _) | exact (Below.refl _ _).drew | exact (‹Below wb.heap.size wb _ ∧ _›).1)); rintro e w3 ⟨rfl, hB3⟩)
      | (go_at_call 24; (with_reducible refine (CR.out _ ?_).mono ?_); (focus (first | assumption | exact (Below.refl _ _) | exact (Below.refl _ _).drew | exact (‹Below wb.heap.size wb _ ∧ _›).1)); rintro e w4 ⟨rfl, hB4⟩)
      | (go_at_call 14; (with_reducible refine (CW.out _ ?_).mono ?_); (focus (first | assumption | exact (Below.refl _ _) | exact (Below.refl _ _).drew | exact (‹Below wb.heap.size wb _ ∧ _›).1)); rintro e w5 ⟨rfl, hB5⟩))
  all_goals
    refine NoPanic.normal ?_
    go_wp2_with fail
    go_ret
    exact ⟨rfl, HB0.out.trans ((‹Below wb.heap.size wb _ ∧ _›).1.mono HB0.out.size)⟩

set_option maxRecDepth 100000 in
theorem lifted (os : Os) (started : os.Started) (H : Type) (enc : TypeId × Value → H) :
    ReturnsInHanded {} Tryd.checked os 7 .any (fun w args => (Rows.keyTextsSpec.pre enc Tryd.prog Tryd.f7 [] false w args ∧ laidMetH Tryd.prog Key.laidL w) ∧ sizedMet enc Tryd.prog Tryd.f7 (OpenSpec.ofChange Rows.keyTextsSpec) false w args) (Rows.keyTextsSpec.post enc Tryd.prog Tryd.f7 false true false false) := by
  refine returnsInHanded_of_change_and (C := Tryd.checked) (X := fun w _ => laidMetH Tryd.prog Key.laidL w) (fun _ _ _ hh h => h.of_heap hh) own started (by kernel_rfl) Tryd.func7
    (ChangeSpec.witness_shaped (enc := enc) (C := Tryd.checked) (os := os) (X := fun w _ => laidMetH Tryd.prog Key.laidL w) false (World.doorLaid Tryd.prog 24 os) #[.agg #[.int .i64 0, .int .i64 0, .int .u32 0]] 8 rfl (World.shaped_of_RefB (by kernel_rfl) (by kernel_rfl)) (by kernel_rfl) (by kernel_rfl) (by kernel_rfl) (Key.door_met os _)) ?_
  intro W base args ds gs before hval0 hW _ _ hL _
  have hval : ∀ (j : Nat) t v, Tryd.f7.params[j]? = some t → args[j]? = some v → Value.okWide Tryd.prog W .any base t v := hval0
  have hW' := hW
  obtain ⟨p, q, hA0, hV, rfl, hfz, hnd⟩ := hW
  have hA : DataW.TrodAll enc Tryd.prog W 0 (fun _ => true) true Tryd.f7.params.toList args.toList ds p := hA0
  rw [Tryd.params7] at hA hval
  obtain ⟨v0, vs0, d0, ds0, p0, q0, hargs, rfl, rfl, h0, r0⟩ := trodAll_cons hA
  obtain ⟨rfl, rfl, rfl⟩ := trodAll_nil r0
  obtain rfl : args = #[v0] := by cases args; simp_all
  obtain ⟨rfl, rfl⟩ := trodVars_none hV
  have k0 := h0
  have lt0 : ∀ x ∈ p0, x.block < W.heap.size := by obtain ⟨m, hm⟩ := k0; exact DataW.trod_lt m _ _ _ hm
  obtain ⟨a0, rfl, w0⟩ := Key.open_key (hval 0 24 v0 rfl rfl) h0
  clear hA0 hval0
  have hT := Key.tabs_of_laid hL
  refine (walk a0 W w0 hT).mono fun e W' ⟨he, bel⟩ => ?_
  subst he
  exact ⟨_, rfl, _, _, _, [], _, [], hW', trodAll_mk1 (shut_bool Tryd.underlying4 _), (trodAll_cons_mk (Below.trod laidOut (by kernel_rfl) (of_decide_eq_true (by kernel_rfl)) k0 bel lt0) trodAll_mk0), rfl, bel.frame _, fun h => by cases h⟩

theorem over : Rows.keyTextsRow.holds Tryd.pinned (OpenSpec.ofChange Rows.keyTextsSpec) :=
  OpenClaim.holds_of_wide 7 Tryd.f7 rfl rfl rfl rfl rfl rfl rfl ⟨rfl, rfl, rfl, rfl, rfl⟩ rfl rfl rfl rfl rfl (by kernel_rfl) Tryd.func7 (by kernel_rfl)
    (of_decide_eq_true (by kernel_rfl)) (by unfold Func.isWrapper; first | (rw [if_pos (by decide +kernel)]; kernel_rfl) | (rw [if_neg (by decide +kernel)]; exact ⟨rfl, rfl⟩))
    (fun os started H enc _ => lifted os started H enc)

theorem func_is {f : FuncId} (h : Tryd.prog.funcNamed Rows.keyTextsRow.func = some f) : f = 7 :=
  Option.some.inj (h.symm.trans (show Tryd.prog.funcNamed Rows.keyTextsRow.func = some 7 by kernel_rfl))
theorem proved : Rows.KeyTextsCardSaid :=
  Claim7.holds_tied_plain_at .later [] Rows.keyTextsCard.laidKinds true Rows.keyTextsCard.stood.harness false
    over (fun _ h => by cases h) (by kernel_rfl) (fun _ h => by cases h) keyTexts_row_tie rfl ⟨rfl, rfl⟩ (by kernel_rfl) rfl
    (fun f fn hf hfn => by
      obtain rfl := func_is hf
      obtain rfl : fn = Tryd.f7 := (Option.some.inj (Tryd.func7.symm.trans hfn)).symm
      exact ⟨by kernel_rfl, fun j t ht => by
        rw [Tryd.params7] at ht
        have hm : t ∈ [24] := by simpa using Array.mem_of_getElem? ht
        have hall : ([24].all fun u => !Tryd.prog.wantsStandIn u) = true := by kernel_rfl
        exact (show Tryd.prog.wantsStandIn t = false by simpa using List.all_eq_true.1 hall t hm)⟩)
    (by kernel_rfl)
#print axioms proved
end Go.Proofs.YtpfnjippdjhfgaaDoor.lawKeyTexts
