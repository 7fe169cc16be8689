/- A graph that is safe of so many nodes is safe of fewer, and each node of it has more links than that, or there are no more nodes. -/
import Derived.Test.YtbgigimapogkcaaDoorRows
import Derived.Test.YtbgigimapogkcaaDoorTie
import Derived.Test.YtbgigimapogkcaaDoorCards
import Derived.SevenTiedAt
import Derived.LaidMore
import Derived.Stop.Joined
import Derived.WalkKit
import Derived.ProofKit
import Derived.OpenShut
import Derived.ShutString
import Derived.ChangeOld
import Derived.Below
import Derived.Test.YtbgigimapogkcaaDoorCutK
import Derived.Test.YtbgigimapogkcaaDoorReaQ
import Derived.Test.YtbgigimapogkcaaDoorQuiB
import Derived.Test.YtbgigimapogkcaaDoorGrfS
namespace Go.Proofs.YtbgigimapogkcaaDoor.lawCutLess
open Go.ChangeShapes Go.WideShapes Go.ChangeAt Go.RowKit
open Go.ChangeMaps (open_string shut_string)
set_option linter.unusedVariables false

theorem own : ownKnob Tryd.prog.godebug = none := by kernel_rfl
theorem laidOut : laidOutB Tryd.prog = true := by kernel_rfl

/-! The walk: the Go text returns true and writes nothing that was there. -/
set_option linter.unusedSimpArgs false in
set_option maxRecDepth 100000 in
set_option maxHeartbeats 4000000 in
theorem walk (a0 : Rea.Wd) (a1 : Int) (w : World) (w0 : Rea.OkW w a0) (w1 : (Lit.int .u8 a1).wf = true) (hT : Nodes.Tabs w) :
    Calls Tryd.prog 6 #[Rea.wval a0, .int .u8 a1] w fun e w' => e = .returned (.bool true) ∧ Below w.heap.size w w' := by
  obtain ⟨l1, u1⟩ := bounds_u8 w1
  obtain ⟨A, rfl⟩ := Int.eq_ofNat_of_zero_le l1
  have hA : A < 256 := by omega
  have HA := Lib.hid hA
  have CX := Lib.hid (fun W => Cut.few_any a0 W)
  obtain ⟨n, L, HN, HOK, HLL, CM⟩ := Rea.mk_any (Cut.fewW a0) w (Cut.few_ok w0)
  have HT := Lib.hid hT
  obtain ⟨hn1, hn10⟩ := HN.out
  have hn64 : n ≤ 64 := by omega
  have hll := HLL.out
  clear hT w0
  generalize Cut.fewW a0 = aw at *
  unfold Rea.wval at *
  unfold Rea.MadePost at CM
  go_enter Tryd.func6, Tryd.ntmps6
  go_wp2_with fail
  refine (CX.out _).mono ?_; rintro e w1 ⟨rfl, hB1⟩
  have hB01 : Below w.heap.size w w1 := ((Below.refl _ _).alloc (Nat.le_refl _) (.cells #[.int .i64 a0.num, .slice a0.ad a0.len a0.cap] 24)).trans (hB1.mono (by simp))
  go_wp2_with fail
  refine (CM.out _ hB01).mono ?_; rintro e w2 ⟨g, b, ad, cap, rfl, hG, hR, hB2⟩
  have hB02 : Below w.heap.size w w2 := hB01.trans (hB2.mono hB01.size)
  clear hB1 hB01 CX
  unfold Grf.gval
  obtain ⟨w3, hw3⟩ : ∃ w3, Hid (w3 = w2.alloc (.cells #[.int .i64 (n : Int), .slice ad L.length cap] 27)) := ⟨_, Lib.hid rfl⟩
  obtain ⟨hB3, hs3, hb3⟩ := Grf.gbox w2 w3 (n : Int) _ hw3.out
  have HB := Lib.hid (hB02.trans (hB3.mono hB02.size))
  have HX : Hid (∀ W, Below w3.heap.size w3 W → Rea.GP W (some ⟨g, 0, none⟩) n L ∧ Grf.RdG W ad L ∧ Nodes.Tabs W ∧ Below w.heap.size w W ∧ W.cell? ⟨w2.heap.size, 0, none⟩ = some (.int .i64 (n : Int)) ∧ W.cell? ⟨w2.heap.size, 1, none⟩ = some (.slice ad L.length cap)) := Lib.hid (fun W hW =>
    have hBW := HB.out.trans (hW.mono HB.out.size)
    ⟨.inr ⟨g, b, rfl, (hG.below hB3).below hW⟩, (hR.below hB3).below hW, HT.out.below hBW, hBW, (hb3.below hW).cell 0, (hb3.below hW).cell 1⟩)
  obtain ⟨-, -, -, -, c0, c1⟩ := HX.out w3 (Below.refl _ _)
  clear hG hR hB2 hB02 hB3 hs3 hb3 CM
  go_upto_region 2 with fail
  rw [← hw3.out]
  clear hw3
  obtain ⟨K, hK⟩ : ∃ K : Nat, (A : Int) % 4 = (K : Int) := ⟨A % 4, by omega⟩
  have hK4 : K < 4 := by omega
  have CA := Lib.hid (fun (z : Int) (hz : -9223372036854775808 ≤ z) W hW => Cut.safe_any (some ⟨g, 0, none⟩) n L z hz W (HX.out W hW).1 (HX.out W hW).2.2.1)
  have CAK := Lib.hid (fun W hW => CA.out (K : Int) (by omega) W hW)
  have CN := Lib.hid (fun (i : Nat) W hW => Grf.rnear_any n hn64 ad L.length cap L (i : Int) W rfl (by omega) (HX.out W hW).2.1)
  have CW := Lib.hid (fun W hW => Cut.works18_any W (HX.out W hW).2.2.1)
  have HC := Lib.hid (fun W hW => (HX.out W hW).2.2.2)
  have HNM := Lib.hid (fun (h : Cut.safeB n L (K : Int) = true) (i : Nat) (hi : i < n) => show ((Grf.nearL n L (i : Int)).length : Int) ≤ (K : Int) → n ≤ (Grf.nearL n L (i : Int)).length + 1 by
    have := Cut.near_many hn64 HOK.out h hi
    rwa [Cut.near_len hn64 HOK.out] at this)
  have HLS := Lib.hid (fun (h : Cut.safeB n L (K : Int) = true) (h1 : 1 ≤ K) => Cut.safe_less hn64 h (g := (K : Int) - 1) (by omega) (by omega))
  have HNL := Lib.hid (fun (i : Nat) => Grf.nearL_len n L (i : Int))
  unfold Grf.gval at CN
  unfold Nodes.ListPost at CN
  clear HX
  cases hsb : Cut.safeB n L (K : Int) with
  | false =>
    rw [hsb] at CAK
    clear HNM HLS hsb CA
    go_wp2_with fail
    refine (CAK.out _ (Below.refl _ _)).mono ?_; rintro e w4 ⟨rfl, hB4⟩
    have HB4 := Lib.hid hB4
    clear hB4 CAK
    go_wp2_with fail
    refine (CW.out _ HB4.out).mono ?_; rintro e w5 ⟨rfl, hB5⟩
    have HF := Lib.hid (HC.out _ (HB4.out.trans (hB5.mono HB4.out.size))).1
    go_wp2_with fail
    go_ret
    exact ⟨rfl, HF.out⟩
  | true =>
    have HNM2 := Lib.hid (HNM.out hsb)
    have HLS2 := Lib.hid (HLS.out hsb)
    rw [hsb] at CAK
    clear HNM HLS hsb
    go_wp2_with fail
    refine (CAK.out _ (Below.refl _ _)).mono ?_; rintro e w4 ⟨rfl, hB4⟩
    have HB4 := Lib.hid hB4
    clear hB4 CAK c0 c1
    go_wp2_with fail
    go_loopw [8] (fun v wr => ∃ i : Nat, i ≤ n ∧ v = .int .i64 i ∧ Hid (Below w3.heap.size w3 wr)) (fun v _ => n - (intOf v).toNat)
    case atStart => exact ⟨0, Nat.zero_le _, rfl, HB4⟩
    case round =>
      obtain ⟨i, hi, rfl, HBr⟩ := hrel
      obtain ⟨-, c0, c1⟩ := HC.out wr HBr.out
      by_cases hlt : i < n
      · have CNI := Lib.hid (CN.out i wr HBr.out)
        have hdl := HNL.out i
        have hnm := HNM2.out i hlt
        have HCI := Lib.hid (fun W (hW : Below wr.heap.size wr W) => HC.out W (HBr.out.trans (hW.mono HBr.out.size)))
        clear HNM2 HLS2 CA
        generalize (Grf.nearL n L (i : Int)).length = d at *
        by_cases hdk : (d : Int) ≤ (K : Int)
        · have hdn : (n : Int) - 1 ≤ (d : Int) := by have := hnm hdk; omega
          clear hnm
          go_wp2_with fail
          refine (CNI.out).mono ?_; rintro e w5 ⟨ad5, cap5, rfl, -, hB5⟩
          obtain ⟨-, e0, e1⟩ := HCI.out _ hB5
          have HB5 := Lib.hid hB5
          clear hB5 c0 c1 CNI
          go_wp2_with fail
          go_roundw
          case rel => exact ⟨i + 1, by omega, by go_num, Lib.hid (HBr.out.trans (HB5.out.mono HBr.out.size))⟩
          case measure => simp [intOf]; omega
        · have hdk' : (K : Int) < (d : Int) := by omega
          clear hnm hdk
          go_wp2_with fail
          refine (CNI.out).mono ?_; rintro e w5 ⟨ad5, cap5, rfl, -, hB5⟩
          obtain ⟨-, e0, e1⟩ := HCI.out _ hB5
          have HB5 := Lib.hid hB5
          clear hB5 c0 c1 CNI
          go_wp2_with fail
          go_roundw
          case rel => exact ⟨i + 1, by omega, by go_num, Lib.hid (HBr.out.trans (HB5.out.mono HBr.out.size))⟩
          case measure => simp [intOf]; omega
      · obtain rfl : i = n := by omega
        clear CN HNL HNM2
        by_cases hK0 : K = 0
        · subst hK0
          go_wp2_with fail
          refine (CW.out _ HBr.out).mono ?_; rintro e w5 ⟨rfl, hB5⟩
          have HF := Lib.hid (HC.out _ (HBr.out.trans (hB5.mono HBr.out.size))).1
          go_wp2_with fail
          go_ret
          exact ⟨rfl, HF.out⟩
        · have hK1 : 1 ≤ K := by omega
          have hKI : ((K : Int) == 0) = false := by rw [beq_eq_false_iff_ne]; omega
          have CA1 := Lib.hid (fun W hW => CA.out ((K : Int) - 1) (by omega) W hW)
          rw [HLS2.out hK1] at CA1
          clear CA HLS2
          go_wp2_with fail
          refine (CA1.out _ HBr.out).mono ?_; rintro e w5 ⟨rfl, hB5⟩
          have HB5 := Lib.hid (HBr.out.trans (hB5.mono HBr.out.size))
          clear hB5
          go_wp2_with fail
          refine (CW.out _ HB5.out).mono ?_; rintro e w6 ⟨rfl, hB6⟩
          have HF := Lib.hid (HC.out _ (HB5.out.trans (hB6.mono HB5.out.size))).1
          go_wp2_with fail
          go_ret
          exact ⟨rfl, HF.out⟩

set_option maxRecDepth 100000 in
theorem lifted (os : Os) (started : os.Started) (H : Type) (enc : TypeId × Value → H) :
    ReturnsInHanded {} Tryd.checked os 6 .any (fun w args => (Rows.cutLessSpec.pre enc Tryd.prog Tryd.f6 [] false w args ∧ laidMetH Tryd.prog Cut.laidL w) ∧ sizedMet enc Tryd.prog Tryd.f6 (OpenSpec.ofChange Rows.cutLessSpec) false w args) (Rows.cutLessSpec.post enc Tryd.prog Tryd.f6 false true false false) := by
  refine returnsInHanded_of_change_and (C := Tryd.checked) (X := fun w _ => laidMetH Tryd.prog Cut.laidL w) (fun _ _ _ hh h => h.of_heap hh) own started (by kernel_rfl) Tryd.func6
    (ChangeSpec.witness_shaped (enc := enc) (C := Tryd.checked) (os := os) (X := fun w _ => laidMetH Tryd.prog Cut.laidL w) false (World.doorLaid Tryd.prog 14 os) #[.agg #[.int .i64 0, .slice none 0 0], .int .u8 0] 8 rfl (World.shaped_of_RefB (by kernel_rfl) (by kernel_rfl)) (by kernel_rfl) (by kernel_rfl) (by kernel_rfl) (Cut.door_met os _)) ?_
  intro W base args ds gs before hval0 hW _ _ hL _
  have hval : ∀ (j : Nat) t v, Tryd.f6.params[j]? = some t → args[j]? = some v → Value.okWide Tryd.prog W .any base t v := hval0
  have hW' := hW
  obtain ⟨p, q, hA0, hV, rfl, hfz, hnd⟩ := hW
  have hA : DataW.TrodAll enc Tryd.prog W 0 (fun _ => true) true Tryd.f6.params.toList args.toList ds p := hA0
  rw [Tryd.params6] at hA hval
  obtain ⟨v0, vs0, d0, ds0, p0, q0, hargs, rfl, rfl, h0, r0⟩ := trodAll_cons hA
  obtain ⟨v1, vs1, d1, ds1, p1, q1, rfl, rfl, rfl, h1, r1⟩ := trodAll_cons r0
  obtain ⟨rfl, rfl, rfl⟩ := trodAll_nil r1
  obtain rfl : args = #[v0, v1] := by cases args; simp_all
  obtain ⟨rfl, rfl⟩ := trodVars_none hV
  have k0 := h0
  have lt0 : ∀ x ∈ p0, x.block < W.heap.size := by obtain ⟨m, hm⟩ := k0; exact DataW.trod_lt m _ _ _ hm
  obtain ⟨a0, rfl, w0⟩ := Rea.open_world (hval 0 24 v0 rfl rfl) h0
  obtain ⟨a1, rfl, rfl, rfl, w1⟩ := open_int Tryd.underlying5 (hval 1 5 v1 rfl rfl) h1
  clear hA0 hval0
  have hT := Cut.tabs_of_laid hL
  refine (walk a0 a1 W w0 w1 hT).mono fun e W' ⟨he, bel⟩ => ?_
  subst he
  exact ⟨_, rfl, _, _, _, [], _, [], hW', trodAll_mk1 (shut_bool Tryd.underlying4 _), (trodAll_cons_mk (Below.trod laidOut (by kernel_rfl) (of_decide_eq_true (by kernel_rfl)) k0 bel lt0) (trodAll_cons_mk (shut_int Tryd.underlying5 w1) trodAll_mk0)), rfl, bel.frame _, fun h => by cases h⟩

theorem over : Rows.cutLessRow.holds Tryd.pinned (OpenSpec.ofChange Rows.cutLessSpec) :=
  OpenClaim.holds_of_wide 6 Tryd.f6 rfl rfl rfl rfl rfl rfl rfl ⟨rfl, rfl, rfl, rfl, rfl⟩ rfl rfl rfl rfl rfl (by kernel_rfl) Tryd.func6 (by kernel_rfl)
    (of_decide_eq_true (by kernel_rfl)) (by unfold Func.isWrapper; first | (rw [if_pos (by decide +kernel)]; kernel_rfl) | (rw [if_neg (by decide +kernel)]; exact ⟨rfl, rfl⟩))
    (fun os started H enc _ => lifted os started H enc)

theorem func_is {f : FuncId} (h : Tryd.prog.funcNamed Rows.cutLessRow.func = some f) : f = 6 :=
  Option.some.inj (h.symm.trans (show Tryd.prog.funcNamed Rows.cutLessRow.func = some 6 by kernel_rfl))
theorem proved : Rows.CutLessCardSaid :=
  Claim7.holds_tied_plain_at .later [] Rows.cutLessCard.laidKinds true Rows.cutLessCard.stood.harness false
    over (fun _ h => by cases h) (by kernel_rfl) (fun _ h => by cases h) cutLess_row_tie rfl ⟨rfl, rfl⟩ (by kernel_rfl) rfl
    (fun f fn hf hfn => by
      obtain rfl := func_is hf
      obtain rfl : fn = Tryd.f6 := (Option.some.inj (Tryd.func6.symm.trans hfn)).symm
      exact ⟨by kernel_rfl, fun j t ht => by
        rw [Tryd.params6] at ht
        have hm : t ∈ [24, 5] := by simpa using Array.mem_of_getElem? ht
        have hall : ([24, 5].all fun u => !Tryd.prog.wantsStandIn u) = true := by kernel_rfl
        exact (show Tryd.prog.wantsStandIn t = false by simpa using List.all_eq_true.1 hall t hm)⟩)
    (by kernel_rfl)
#print axioms proved
end Go.Proofs.YtbgigimapogkcaaDoor.lawCutLess
