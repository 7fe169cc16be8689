/- Nothing is reached in a graph that is nil. -/
import Derived.Test.YtcfdnbdemiokeaaDoorRows
import Derived.Test.YtcfdnbdemiokeaaDoorTie
import Derived.Test.YtcfdnbdemiokeaaDoorCards
import Derived.SevenTiedAt
import Derived.LaidMore
import Derived.Stop.Joined
import Derived.WalkKit
import Derived.ProofKit
import Derived.OpenShut
import Derived.ShutString
import Derived.ChangeOld
import Derived.Below
import Derived.Test.YtcfdnbdemiokeaaDoorReaJ
namespace Go.Proofs.YtcfdnbdemiokeaaDoor.lawReachNil
open Go.ChangeShapes Go.WideShapes Go.ChangeAt Go.RowKit
open Go.ChangeMaps (open_string shut_string)
set_option linter.unusedVariables false

theorem own : ownKnob Tryd.prog.godebug = none := by kernel_rfl
theorem laidOut : laidOutB Tryd.prog = true := by kernel_rfl

/-! The walk: the Go text returns true and writes nothing that was there. -/
set_option linter.unusedSimpArgs false in
set_option maxRecDepth 100000 in
set_option maxHeartbeats 4000000 in
theorem walk (a0 : Int) (a1 : Int) (w : World) (w0 : (Lit.int .i64 a0).wf = true) (w1 : (Lit.int .u64 a1).wf = true) (hT : Nodes.Tabs w) :
    Calls Tryd.prog 7 #[.int .i64 a0, .int .u64 a1] w fun e w' => e = .returned (.bool true) ∧ Below w.heap.size w w' := by
  obtain ⟨l1, u1⟩ := bounds_u64 w1
  obtain ⟨S, rfl⟩ := Int.eq_ofNat_of_zero_le l1
  have hS : S < 18446744073709551616 := by omega
  have HS := Lib.hid hS
  have HT := Lib.hid hT
  have hg : ∀ W, Rea.GP W none 0 [] := fun W => .inl ⟨rfl, rfl, rfl⟩
  have C1 := Lib.hid (fun W hB => Rea.from_any none 0 [] a0 S hS W (hg W) (HT.out.below hB))
  have C2 := Lib.hid (fun W hB => Rea.dist_any none 0 [] a0 S hS W (hg W) (HT.out.below hB))
  have C3 := Lib.hid (fun W hB => Rea.whole_any none 0 [] S hS W (hg W) (HT.out.below hB))
  have C4 := Lib.hid (fun W hB => Rea.wide_any none 0 [] S hS (-1) (.inl ⟨Rea.whole_nil S [], rfl⟩) W (hg W) (HT.out.below hB))
  have C5 := Lib.hid (fun W hB => Rea.ball_any none 0 [] a0 a0 S hS W (hg W) (HT.out.below hB))
  have C6 := Lib.hid (fun W hB => Rea.works17_any W (HT.out.below hB))
  rw [Rea.from_nil] at C1
  rw [Rea.ball_nil] at C5
  rw [show Rea.wholeB 0 S [] = false from Bool.eq_false_iff.2 (fun h => Rea.whole_nil S [] (Rea.wholeB_iff.1 h))] at C3
  rw [show Rea.dstL 0 S [] (Rea.src a0) = [] from rfl] at C2
  clear hT hg w0 w1
  go_enter Tryd.func7, Tryd.ntmps7
  go_wp2_with fail
  refine (C1.out _ (Below.refl _ _)).mono ?_; rintro e w1 ⟨rfl, hB1⟩
  go_wp2_with fail
  refine (C2.out _ hB1).mono ?_; rintro e w2 ⟨ad, cap, rfl, -, hB2⟩
  have hB12 := hB1.trans (hB2.mono hB1.size)
  go_wp2_with fail
  refine (C3.out _ hB12).mono ?_; rintro e w3 ⟨rfl, hB3⟩
  have hB13 := hB12.trans (hB3.mono hB12.size)
  go_wp2_with fail
  refine (C4.out _ hB13).mono ?_; rintro e w4 ⟨rfl, hB4⟩
  have hB14 := hB13.trans (hB4.mono hB13.size)
  go_wp2_with fail
  refine (C5.out _ hB14).mono ?_; rintro e w5 ⟨rfl, hB5⟩
  have hB15 := hB14.trans (hB5.mono hB14.size)
  go_wp2_with fail
  refine (C6.out _ hB15).mono ?_; rintro e w6 ⟨rfl, hB6⟩
  go_wp2_with fail
  go_ret
  exact ⟨rfl, hB15.trans (hB6.mono hB15.size)⟩

set_option maxRecDepth 100000 in
theorem lifted (os : Os) (started : os.Started) (H : Type) (enc : TypeId × Value → H) :
    ReturnsInHanded {} Tryd.checked os 7 .any (fun w args => (Rows.reachNilSpec.pre enc Tryd.prog Tryd.f7 [] false w args ∧ laidMetH Tryd.prog Rea.laidL w) ∧ sizedMet enc Tryd.prog Tryd.f7 (OpenSpec.ofChange Rows.reachNilSpec) false w args) (Rows.reachNilSpec.post enc Tryd.prog Tryd.f7 false true false false) := by
  refine returnsInHanded_of_change_and (C := Tryd.checked) (X := fun w _ => laidMetH Tryd.prog Rea.laidL w) (fun _ _ _ hh h => h.of_heap hh) own started (by kernel_rfl) Tryd.func7
    (ChangeSpec.witness_shaped (enc := enc) (C := Tryd.checked) (os := os) (X := fun w _ => laidMetH Tryd.prog Rea.laidL w) false (World.doorLaid Tryd.prog 14 os) #[.int .i64 0, .int .u64 0] 8 rfl (World.shaped_of_RefB (by kernel_rfl) (by kernel_rfl)) (by kernel_rfl) (by kernel_rfl) (by kernel_rfl) (Rea.door_met os _)) ?_
  intro W base args ds gs before hval0 hW _ _ hL _
  have hval : ∀ (j : Nat) t v, Tryd.f7.params[j]? = some t → args[j]? = some v → Value.okWide Tryd.prog W .any base t v := hval0
  have hW' := hW
  obtain ⟨p, q, hA0, hV, rfl, hfz, hnd⟩ := hW
  have hA : DataW.TrodAll enc Tryd.prog W 0 (fun _ => true) true Tryd.f7.params.toList args.toList ds p := hA0
  rw [Tryd.params7] at hA hval
  obtain ⟨v0, vs0, d0, ds0, p0, q0, hargs, rfl, rfl, h0, r0⟩ := trodAll_cons hA
  obtain ⟨v1, vs1, d1, ds1, p1, q1, rfl, rfl, rfl, h1, r1⟩ := trodAll_cons r0
  obtain ⟨rfl, rfl, rfl⟩ := trodAll_nil r1
  obtain rfl : args = #[v0, v1] := by cases args; simp_all
  obtain ⟨rfl, rfl⟩ := trodVars_none hV
  obtain ⟨a0, rfl, rfl, rfl, w0⟩ := open_int Tryd.underlying3 (hval 0 3 v0 rfl rfl) h0
  obtain ⟨a1, rfl, rfl, rfl, w1⟩ := open_int Tryd.underlying25 (hval 1 25 v1 rfl rfl) h1
  clear hA0 hval0
  have hT := Rea.tabs_of_laid hL
  refine (walk a0 a1 W w0 w1 hT).mono fun e W' ⟨he, bel⟩ => ?_
  subst he
  exact ⟨_, rfl, _, _, _, [], _, [], hW', trodAll_mk1 (shut_bool Tryd.underlying4 _), (trodAll_cons_mk (shut_int Tryd.underlying3 w0) (trodAll_cons_mk (shut_int Tryd.underlying25 w1) trodAll_mk0)), rfl, bel.frame _, fun h => by cases h⟩

theorem over : Rows.reachNilRow.holds Tryd.pinned (OpenSpec.ofChange Rows.reachNilSpec) :=
  OpenClaim.holds_of_wide 7 Tryd.f7 rfl rfl rfl rfl rfl rfl rfl ⟨rfl, rfl, rfl, rfl, rfl⟩ rfl rfl rfl rfl rfl (by kernel_rfl) Tryd.func7 (by kernel_rfl)
    (of_decide_eq_true (by kernel_rfl)) (by unfold Func.isWrapper; first | (rw [if_pos (by decide +kernel)]; kernel_rfl) | (rw [if_neg (by decide +kernel)]; exact ⟨rfl, rfl⟩))
    (fun os started H enc _ => lifted os started H enc)

theorem func_is {f : FuncId} (h : Tryd.prog.funcNamed Rows.reachNilRow.func = some f) : f = 7 :=
  Option.some.inj (h.symm.trans (show Tryd.prog.funcNamed Rows.reachNilRow.func = some 7 by kernel_rfl))
theorem proved : Rows.ReachNilCardSaid :=
  Claim7.holds_tied_plain_at .later [] Rows.reachNilCard.laidKinds true Rows.reachNilCard.stood.harness false
    over (fun _ h => by cases h) (by kernel_rfl) (fun _ h => by cases h) reachNil_row_tie rfl ⟨rfl, rfl⟩ (by kernel_rfl) rfl
    (fun f fn hf hfn => by
      obtain rfl := func_is hf
      obtain rfl : fn = Tryd.f7 := (Option.some.inj (Tryd.func7.symm.trans hfn)).symm
      exact ⟨by kernel_rfl, fun j t ht => by
        rw [Tryd.params7] at ht
        have hm : t ∈ [3, 25] := by simpa using Array.mem_of_getElem? ht
        have hall : ([3, 25].all fun u => !Tryd.prog.wantsStandIn u) = true := by kernel_rfl
        exact (show Tryd.prog.wantsStandIn t = false by simpa using List.all_eq_true.1 hall t hm)⟩)
    (by kernel_rfl)
#print axioms proved
end Go.Proofs.YtcfdnbdemiokeaaDoor.lawReachNil
