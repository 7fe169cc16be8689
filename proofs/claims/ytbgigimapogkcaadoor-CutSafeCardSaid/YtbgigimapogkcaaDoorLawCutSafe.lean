/- Whether any graph stays whole, whichever so many nodes fail, is as the document says. -/
import Derived.Test.YtbgigimapogkcaaDoorRows
import Derived.Test.YtbgigimapogkcaaDoorTie
import Derived.Test.YtbgigimapogkcaaDoorCards
import Derived.SevenTiedAt
import Derived.LaidMore
import Derived.Stop.Joined
import Derived.WalkKit
import Derived.ProofKit
import Derived.OpenShut
import Derived.ShutString
import Derived.ChangeOld
import Derived.Below
import Derived.Test.YtbgigimapogkcaaDoorCutK
import Derived.Test.YtbgigimapogkcaaDoorReaQ
import Derived.Test.YtbgigimapogkcaaDoorQuiB
namespace Go.Proofs.YtbgigimapogkcaaDoor.lawCutSafe
open Go.ChangeShapes Go.WideShapes Go.ChangeAt Go.RowKit
open Go.ChangeMaps (open_string shut_string)
set_option linter.unusedVariables false

theorem own : ownKnob Tryd.prog.godebug = none := by kernel_rfl
theorem laidOut : laidOutB Tryd.prog = true := by kernel_rfl

/-! The walk: the Go text returns true and writes nothing that was there. -/
set_option linter.unusedSimpArgs false in
set_option maxRecDepth 100000 in
set_option maxHeartbeats 4000000 in
theorem walk (a0 : Rea.Wd) (a1 : Int) (w : World) (w0 : Rea.OkW w a0) (w1 : (Lit.int .i64 a1).wf = true) (hT : Nodes.Tabs w) :
    Calls Tryd.prog 4 #[Rea.wval a0, .int .i64 a1] w fun e w' => e = .returned (.bool true) ∧ Below w.heap.size w w' := by
  obtain ⟨l1, u1⟩ := bounds_i64 w1
  have CX := Lib.hid (fun W => Cut.few_any a0 W)
  obtain ⟨n, L, HN, HOK, HLL, CM⟩ := Rea.mk_any (Cut.fewW a0) w (Cut.few_ok w0)
  have HT := Lib.hid hT
  obtain ⟨hn1, hn10⟩ := HN.out
  have hn64 : n ≤ 64 := by omega
  have hll := HLL.out
  clear hT w0
  generalize Cut.fewW a0 = aw at *
  unfold Rea.wval at *
  unfold Rea.MadePost at CM
  go_enter Tryd.func4, Tryd.ntmps4
  go_wp2_with fail
  refine (CX.out _).mono ?_; rintro e w1 ⟨rfl, hB1⟩
  have hB01 : Below w.heap.size w w1 := ((Below.refl _ _).alloc (Nat.le_refl _) (.cells #[.int .i64 a0.num, .slice a0.ad a0.len a0.cap] 24)).trans (hB1.mono (by simp))
  go_wp2_with fail
  refine (CM.out _ hB01).mono ?_; rintro e w2 ⟨g, b, ad, cap, rfl, hG, hR, hB2⟩
  have hB02 : Below w.heap.size w w2 := hB01.trans (hB2.mono hB01.size)
  clear hB1 hB01 CX
  unfold Grf.gval
  obtain ⟨w3, hw3⟩ : ∃ w3, Hid (w3 = w2.alloc (.cells #[.int .i64 (n : Int), .slice ad L.length cap] 27)) := ⟨_, Lib.hid rfl⟩
  obtain ⟨hB3, hs3, hb3⟩ := Grf.gbox w2 w3 (n : Int) _ hw3.out
  have HB := Lib.hid (hB02.trans (hB3.mono hB02.size))
  have HX : Hid (∀ W, Below w3.heap.size w3 W → Rea.GP W (some ⟨g, 0, none⟩) n L ∧ Grf.RdG W ad L ∧ Nodes.Tabs W ∧ Below w.heap.size w W ∧ W.cell? ⟨w2.heap.size, 0, none⟩ = some (.int .i64 (n : Int)) ∧ W.cell? ⟨w2.heap.size, 1, none⟩ = some (.slice ad L.length cap)) := Lib.hid (fun W hW =>
    have hBW := HB.out.trans (hW.mono HB.out.size)
    ⟨.inr ⟨g, b, rfl, (hG.below hB3).below hW⟩, (hR.below hB3).below hW, HT.out.below hBW, hBW, (hb3.below hW).cell 0, (hb3.below hW).cell 1⟩)
  obtain ⟨-, -, -, -, c0, c1⟩ := HX.out w3 (Below.refl _ _)
  clear hG hR hB2 hB02 hB3 hs3 hb3 CM
  go_upto_region 2 with fail
  rw [← hw3.out]
  clear hw3
  have CR := Lib.hid (fun (z : Int) (hz : -9223372036854775808 ≤ z) W hW => Cut.rsafe_any n (by omega) ad L.length cap L z hz W rfl (by omega) (HX.out W hW).2.1)
  have CA := Lib.hid (fun W hW => Cut.safe_any (some ⟨g, 0, none⟩) n L a1 l1 W (HX.out W hW).1 (HX.out W hW).2.2.1)
  have CQ := Lib.hid (fun W hW => CR.out a1 l1 W hW)
  have CS := Lib.hid (fun W hW => Cut.strength_any (some ⟨g, 0, none⟩) n L W (HX.out W hW).1 (HX.out W hW).2.2.1)
  have CW := Lib.hid (fun W hW => Cut.works18_any W (HX.out W hW).2.2.1)
  have HC := Lib.hid (fun W hW => (HX.out W hW).2.2.2)
  have HM := Lib.hid (Cut.most_str (L := L) hn64)
  generalize Cut.safeB n L a1 = bo at *
  have hbb : (bo == bo) = true := beq_self_eq_true _
  unfold Grf.gval at CR CQ
  clear HX c0 c1
  go_wp2_with fail
  go_loopw [7, 8] (fun v i wr => ∃ k : Nat, k ≤ 4 ∧ i = .int .i64 k ∧ v = .int .i64 (Cut.mostK n L k) ∧ Hid (Below w3.heap.size w3 wr)) (fun _ i _ => 4 - (intOf i).toNat)
  case atStart => exact ⟨0, by omega, rfl, rfl, Lib.hid (Below.refl _ _)⟩
  case round =>
    obtain ⟨k, hk, rfl, rfl, HBr⟩ := hrel
    obtain ⟨-, c0, c1⟩ := HC.out wr HBr.out
    by_cases hlt : k < 4
    · have CK := Lib.hid (CR.out (k : Int) (by omega) wr HBr.out)
      have HK : Hid (Cut.mostK n L (k + 1) = if Cut.safeB n L (k : Int) = true then (k : Int) else Cut.mostK n L k) := Lib.hid rfl
      cases hsb : Cut.safeB n L (k : Int) with
      | true =>
        rw [hsb] at CK HK
        rw [if_pos rfl] at HK
        clear hsb
        generalize Cut.mostK n L k = mk at *
        go_wp2_with fail
        refine (CK.out).mono ?_; rintro e w4 ⟨rfl, hB4⟩
        go_wp2_with fail
        go_roundw
        case rel => exact ⟨k + 1, by omega, by go_num, by rw [HK.out], Lib.hid (HBr.out.trans (hB4.mono HBr.out.size))⟩
        case measure => simp [intOf]; omega
      | false =>
        rw [hsb] at CK HK
        rw [if_neg (by simp)] at HK
        clear hsb
        generalize Cut.mostK n L k = mk at *
        go_wp2_with fail
        refine (CK.out).mono ?_; rintro e w4 ⟨rfl, hB4⟩
        go_wp2_with fail
        go_roundw
        case rel => exact ⟨k + 1, by omega, by go_num, by rw [HK.out], Lib.hid (HBr.out.trans (hB4.mono HBr.out.size))⟩
        case measure => simp [intOf]; omega
    · obtain rfl : k = 4 := by omega
      rw [HM.out]
      have HBR := HBr
      generalize Cut.strP n L = st at *
      have hst : (st == st) = true := beq_self_eq_true _
      have q0 : ∀ x : Qui.Cls wr, x.V.cell? ⟨w2.heap.size, 0, none⟩ = some (.int .i64 (n : Int)) := fun x => (HC.out _ (HBR.out.trans (x.lies.mono HBR.out.size))).2.1
      have q1 : ∀ x : Qui.Cls wr, x.V.cell? ⟨w2.heap.size, 1, none⟩ = some (.slice ad L.length cap) := fun x => (HC.out _ (HBR.out.trans (x.lies.mono HBR.out.size))).2.2
      have HS := Lib.hid (fun x : Qui.Cls wr => HBR.out.trans (x.lies.mono HBR.out.size))
      clear c0 c1
      go_upto_region 8 with fail
      refine Qui.wp_region_quiet_below (by kernel_rfl) (by kernel_rfl) ?_
      repeat (go_big_quiet_step (first | (go_at_call 16; with_reducible exact Qui.cls_below (CA.out _ (HS.out _))) | (go_at_call 15; with_reducible exact Qui.cls_below (CQ.out _ (HS.out _))) | (go_at_call 17; with_reducible exact Qui.cls_below (CS.out _ (HS.out _))) | (go_at_call 14; with_reducible exact Qui.cls_below (CW.out _ (HS.out _)))))
      refine wpQuiet_nil ?_
      intro _ hw'
      obtain ⟨x, rfl⟩ := hw'
      have hV := Lib.hid x.lies
      generalize x.V = V at *
      clear x
      have HF := Lib.hid (HC.out _ (HBR.out.trans (hV.out.mono HBR.out.size))).1
      clear q0 q1
      go_wp2_with fail
      go_ret
      exact ⟨rfl, HF.out⟩

set_option maxRecDepth 100000 in
theorem lifted (os : Os) (started : os.Started) (H : Type) (enc : TypeId × Value → H) :
    ReturnsInHanded {} Tryd.checked os 4 .any (fun w args => (Rows.cutSafeSpec.pre enc Tryd.prog Tryd.f4 [] false w args ∧ laidMetH Tryd.prog Cut.laidL w) ∧ sizedMet enc Tryd.prog Tryd.f4 (OpenSpec.ofChange Rows.cutSafeSpec) false w args) (Rows.cutSafeSpec.post enc Tryd.prog Tryd.f4 false true false false) := by
  refine returnsInHanded_of_change_and (C := Tryd.checked) (X := fun w _ => laidMetH Tryd.prog Cut.laidL w) (fun _ _ _ hh h => h.of_heap hh) own started (by kernel_rfl) Tryd.func4
    (ChangeSpec.witness_shaped (enc := enc) (C := Tryd.checked) (os := os) (X := fun w _ => laidMetH Tryd.prog Cut.laidL w) false (World.doorLaid Tryd.prog 14 os) #[.agg #[.int .i64 0, .slice none 0 0], .int .i64 0] 8 rfl (World.shaped_of_RefB (by kernel_rfl) (by kernel_rfl)) (by kernel_rfl) (by kernel_rfl) (by kernel_rfl) (Cut.door_met os _)) ?_
  intro W base args ds gs before hval0 hW _ _ hL _
  have hval : ∀ (j : Nat) t v, Tryd.f4.params[j]? = some t → args[j]? = some v → Value.okWide Tryd.prog W .any base t v := hval0
  have hW' := hW
  obtain ⟨p, q, hA0, hV, rfl, hfz, hnd⟩ := hW
  have hA : DataW.TrodAll enc Tryd.prog W 0 (fun _ => true) true Tryd.f4.params.toList args.toList ds p := hA0
  rw [Tryd.params4] at hA hval
  obtain ⟨v0, vs0, d0, ds0, p0, q0, hargs, rfl, rfl, h0, r0⟩ := trodAll_cons hA
  obtain ⟨v1, vs1, d1, ds1, p1, q1, rfl, rfl, rfl, h1, r1⟩ := trodAll_cons r0
  obtain ⟨rfl, rfl, rfl⟩ := trodAll_nil r1
  obtain rfl : args = #[v0, v1] := by cases args; simp_all
  obtain ⟨rfl, rfl⟩ := trodVars_none hV
  have k0 := h0
  have lt0 : ∀ x ∈ p0, x.block < W.heap.size := by obtain ⟨m, hm⟩ := k0; exact DataW.trod_lt m _ _ _ hm
  obtain ⟨a0, rfl, w0⟩ := Rea.open_world (hval 0 24 v0 rfl rfl) h0
  obtain ⟨a1, rfl, rfl, rfl, w1⟩ := open_int Tryd.underlying3 (hval 1 3 v1 rfl rfl) h1
  clear hA0 hval0
  have hT := Cut.tabs_of_laid hL
  refine (walk a0 a1 W w0 w1 hT).mono fun e W' ⟨he, bel⟩ => ?_
  subst he
  exact ⟨_, rfl, _, _, _, [], _, [], hW', trodAll_mk1 (shut_bool Tryd.underlying4 _), (trodAll_cons_mk (Below.trod laidOut (by kernel_rfl) (of_decide_eq_true (by kernel_rfl)) k0 bel lt0) (trodAll_cons_mk (shut_int Tryd.underlying3 w1) trodAll_mk0)), rfl, bel.frame _, fun h => by cases h⟩

theorem over : Rows.cutSafeRow.holds Tryd.pinned (OpenSpec.ofChange Rows.cutSafeSpec) :=
  OpenClaim.holds_of_wide 4 Tryd.f4 rfl rfl rfl rfl rfl rfl rfl ⟨rfl, rfl, rfl, rfl, rfl⟩ rfl rfl rfl rfl rfl (by kernel_rfl) Tryd.func4 (by kernel_rfl)
    (of_decide_eq_true (by kernel_rfl)) (by unfold Func.isWrapper; first | (rw [if_pos (by decide +kernel)]; kernel_rfl) | (rw [if_neg (by decide +kernel)]; exact ⟨rfl, rfl⟩))
    (fun os started H enc _ => lifted os started H enc)

theorem func_is {f : FuncId} (h : Tryd.prog.funcNamed Rows.cutSafeRow.func = some f) : f = 4 :=
  Option.some.inj (h.symm.trans (show Tryd.prog.funcNamed Rows.cutSafeRow.func = some 4 by kernel_rfl))
theorem proved : Rows.CutSafeCardSaid :=
  Claim7.holds_tied_plain_at .later [] Rows.cutSafeCard.laidKinds true Rows.cutSafeCard.stood.harness false
    over (fun _ h => by cases h) (by kernel_rfl) (fun _ h => by cases h) cutSafe_row_tie rfl ⟨rfl, rfl⟩ (by kernel_rfl) rfl
    (fun f fn hf hfn => by
      obtain rfl := func_is hf
      obtain rfl : fn = Tryd.f4 := (Option.some.inj (Tryd.func4.symm.trans hfn)).symm
      exact ⟨by kernel_rfl, fun j t ht => by
        rw [Tryd.params4] at ht
        have hm : t ∈ [24, 3] := by simpa using Array.mem_of_getElem? ht
        have hall : ([24, 3].all fun u => !Tryd.prog.wantsStandIn u) = true := by kernel_rfl
        exact (show Tryd.prog.wantsStandIn t = false by simpa using List.all_eq_true.1 hall t hm)⟩)
    (by kernel_rfl)
#print axioms proved
end Go.Proofs.YtbgigimapogkcaaDoor.lawCutSafe
