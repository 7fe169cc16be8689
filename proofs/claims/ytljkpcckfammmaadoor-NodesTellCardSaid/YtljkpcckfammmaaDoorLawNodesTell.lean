/- How many nodes any set has, which one is the least, all of them, and its text are as the document says. -/
import Derived.Test.YtljkpcckfammmaaDoorRows
import Derived.Test.YtljkpcckfammmaaDoorTie
import Derived.Test.YtljkpcckfammmaaDoorCards
import Derived.SevenTiedAt
import Derived.LaidMore
import Derived.Stop.Joined
import Derived.WalkKit
import Derived.ProofKit
import Derived.OpenShut
import Derived.ShutString
import Derived.ChangeOld
import Derived.Below
import Derived.Test.YtljkpcckfammmaaDoorNodesJ
namespace Go.Proofs.YtljkpcckfammmaaDoor.lawNodesTell
open Go.ChangeShapes Go.WideShapes Go.ChangeAt Go.RowKit
open Go.ChangeMaps (open_string shut_string)
set_option linter.unusedVariables false

theorem own : ownKnob Tryd.prog.godebug = none := by kernel_rfl
theorem laidOut : laidOutB Tryd.prog = true := by kernel_rfl

/-! The walk: the Go text returns true and writes nothing that was there. -/
theorem walk (a0 : Int) (w : World) (w0 : (Lit.int .u64 a0).wf = true) (hT : Nodes.Tabs w) :
    Calls Tryd.prog 5 #[.int .u64 a0] w fun e w' => e = .returned (.bool true) ∧ Below w.heap.size w w' := by
  obtain ⟨l0, u0⟩ := bounds_u64 w0
  obtain ⟨S, rfl⟩ := Int.eq_ofNat_of_zero_le l0
  have hS : S < 18446744073709551616 := by omega
  have C0 := Lib.hid (Nodes.rlist_any S hS w)
  have C1 := Lib.hid (fun W => Nodes.count_any S hS W)
  have C2 := Lib.hid (fun W (h : Nodes.Tabs W) => Nodes.least_any S hS W h)
  have C3 := Lib.hid (fun W (h : Nodes.Tabs W) => Nodes.list_any S hS W h)
  have C5 := Lib.hid (fun W (h : Nodes.Tabs W) => Nodes.text_any S hS W h)
  have C6 := Lib.hid (fun W => Nodes.rtext_any S hS W)
  have HL := Lib.hid (Nodes.memI_len S)
  have HN := Nodes.mem_le S
  have HH := Lib.hid (Nodes.leastN_head hS)
  rw [← HL.out] at C1 HN
  generalize Nodes.memI S = ms at *
  go_enter Tryd.func5, Tryd.ntmps5
  go_wp2_with fail
  refine (C0.out).mono ?_; rintro e w1 ⟨ad1, cap1, rfl, hown, hB1⟩
  have HR := Lib.hid hown.rd.1
  clear hown
  by_cases h0 : 0 < ms.length
  · obtain ⟨b, off, rfl, hc⟩ := HR.out.at h0
    have HG := Lib.hid (show Nodes.leastN S = ms.getD 0 0 by rw [HH.out]; cases ms with | nil => simp at h0 | cons x r => rfl)
    rw [HG.out] at C2
    rw [Nat.add_zero] at hc
    generalize ms.getD 0 0 = y at *
    go_wp2_with fail
    refine (C1.out _).mono ?_; rintro e w' ⟨rfl, rfl⟩
    go_wp2_with fail
    refine (C2.out _ (hT.below hB1)).mono ?_; rintro e w' ⟨rfl, rfl⟩
    go_wp2_with fail
    refine (C3.out _ (hT.below hB1)).mono ?_; rintro e w3 ⟨ad3, cap3, rfl, hown3, hB3⟩
    have hB13 := hB1.trans (hB3.mono hB1.size)
    have CS := Lib.hid (fun ca cb => Nodes.same_any ad3 (some ⟨b, off, none⟩) ms.length ca cb ms w3 rfl (by omega) hown3.rd.1 (HR.out.below hB3))
    clear hown3
    go_wp2_with fail
    refine (CS.out _ _).mono ?_; rintro e w4 ⟨rfl, hB4⟩
    have hB14 := hB13.trans (hB4.mono hB13.size)
    go_wp2_with fail
    refine (C5.out _ (hT.below hB14)).mono ?_; rintro e w5 ⟨rfl, hB5⟩
    have hB15 := hB14.trans (hB5.mono hB14.size)
    go_wp2_with fail
    refine (C6.out _).mono ?_; rintro e w6 ⟨rfl, hB6⟩
    have hB16 := hB15.trans (hB6.mono hB15.size)
    have C9 := Lib.hid (Nodes.works_any _ (hT.below hB16))
    go_wp2_with fail
    refine (C9.out).mono ?_; rintro e w' ⟨rfl, hB9⟩
    go_wp2_with fail
    go_ret
    exact ⟨rfl, hB16.trans (hB9.mono hB16.size)⟩
  · have hd : decide (0 < ms.length) = false := decide_eq_false h0
    have HG := Lib.hid (show Nodes.leastN S = -1 by rw [HH.out, List.eq_nil_of_length_eq_zero (show ms.length = 0 by omega)]; rfl)
    rw [HG.out] at C2
    clear h0
    go_wp2_with fail
    refine (C1.out _).mono ?_; rintro e w' ⟨rfl, rfl⟩
    go_wp2_with fail
    refine (C2.out _ (hT.below hB1)).mono ?_; rintro e w' ⟨rfl, rfl⟩
    go_wp2_with fail
    refine (C3.out _ (hT.below hB1)).mono ?_; rintro e w3 ⟨ad3, cap3, rfl, hown3, hB3⟩
    have hB13 := hB1.trans (hB3.mono hB1.size)
    have CS := Lib.hid (fun ca cb => Nodes.same_any ad3 ad1 ms.length ca cb ms w3 rfl (by omega) hown3.rd.1 (HR.out.below hB3))
    clear hown3
    go_wp2_with fail
    refine (CS.out _ _).mono ?_; rintro e w4 ⟨rfl, hB4⟩
    have hB14 := hB13.trans (hB4.mono hB13.size)
    go_wp2_with fail
    refine (C5.out _ (hT.below hB14)).mono ?_; rintro e w5 ⟨rfl, hB5⟩
    have hB15 := hB14.trans (hB5.mono hB14.size)
    go_wp2_with fail
    refine (C6.out _).mono ?_; rintro e w6 ⟨rfl, hB6⟩
    have hB16 := hB15.trans (hB6.mono hB15.size)
    have C9 := Lib.hid (Nodes.works_any _ (hT.below hB16))
    go_wp2_with fail
    refine (C9.out).mono ?_; rintro e w' ⟨rfl, hB9⟩
    go_wp2_with fail
    go_ret
    exact ⟨rfl, hB16.trans (hB9.mono hB16.size)⟩

set_option maxRecDepth 100000 in
theorem lifted (os : Os) (started : os.Started) (H : Type) (enc : TypeId × Value → H) :
    ReturnsInHanded {} Tryd.checked os 5 .any (fun w args => (Rows.nodesTellSpec.pre enc Tryd.prog Tryd.f5 [] false w args ∧ laidMetH Tryd.prog Nodes.laidL w) ∧ sizedMet enc Tryd.prog Tryd.f5 (OpenSpec.ofChange Rows.nodesTellSpec) false w args) (Rows.nodesTellSpec.post enc Tryd.prog Tryd.f5 false true false false) := by
  refine returnsInHanded_of_change_and (C := Tryd.checked) (X := fun w _ => laidMetH Tryd.prog Nodes.laidL w) (fun _ _ _ hh h => h.of_heap hh) own started (by kernel_rfl) Tryd.func5
    (ChangeSpec.witness_shaped (enc := enc) (C := Tryd.checked) (os := os) (X := fun w _ => laidMetH Tryd.prog Nodes.laidL w) false (World.doorLaid Tryd.prog 24 os) #[.int .u64 0] 8 rfl (World.shaped_of_RefB (by kernel_rfl) (by kernel_rfl)) (by kernel_rfl) (by kernel_rfl) (by kernel_rfl) (Nodes.door_met os _)) ?_
  intro W base args ds gs before hval0 hW _ _ hL _
  have hval : ∀ (j : Nat) t v, Tryd.f5.params[j]? = some t → args[j]? = some v → Value.okWide Tryd.prog W .any base t v := hval0
  have hW' := hW
  obtain ⟨p, q, hA0, hV, rfl, hfz, hnd⟩ := hW
  have hA : DataW.TrodAll enc Tryd.prog W 0 (fun _ => true) true Tryd.f5.params.toList args.toList ds p := hA0
  rw [Tryd.params5] at hA hval
  obtain ⟨v0, vs0, d0, ds0, p0, q0, hargs, rfl, rfl, h0, r0⟩ := trodAll_cons hA
  obtain ⟨rfl, rfl, rfl⟩ := trodAll_nil r0
  obtain rfl : args = #[v0] := by cases args; simp_all
  obtain ⟨rfl, rfl⟩ := trodVars_none hV
  obtain ⟨a0, rfl, rfl, rfl, w0⟩ := open_int Tryd.underlying23 (hval 0 23 v0 rfl rfl) h0
  clear hA0 hval0
  have hT := Nodes.tabs_of_laid hL
  refine (walk a0 W w0 hT).mono fun e W' ⟨he, bel⟩ => ?_
  subst he
  exact ⟨_, rfl, _, _, _, [], _, [], hW', trodAll_mk1 (shut_bool Tryd.underlying4 _), (trodAll_cons_mk (shut_int Tryd.underlying23 w0) trodAll_mk0), rfl, bel.frame _, fun h => by cases h⟩

theorem over : Rows.nodesTellRow.holds Tryd.pinned (OpenSpec.ofChange Rows.nodesTellSpec) :=
  OpenClaim.holds_of_wide 5 Tryd.f5 rfl rfl rfl rfl rfl rfl rfl ⟨rfl, rfl, rfl, rfl, rfl⟩ rfl rfl rfl rfl rfl (by kernel_rfl) Tryd.func5 (by kernel_rfl)
    (of_decide_eq_true (by kernel_rfl)) (by unfold Func.isWrapper; first | (rw [if_pos (by decide +kernel)]; kernel_rfl) | (rw [if_neg (by decide +kernel)]; exact ⟨rfl, rfl⟩))
    (fun os started H enc _ => lifted os started H enc)

theorem func_is {f : FuncId} (h : Tryd.prog.funcNamed Rows.nodesTellRow.func = some f) : f = 5 :=
  Option.some.inj (h.symm.trans (show Tryd.prog.funcNamed Rows.nodesTellRow.func = some 5 by kernel_rfl))
theorem proved : Rows.NodesTellCardSaid :=
  Claim7.holds_tied_plain_at .later [] Rows.nodesTellCard.laidKinds true Rows.nodesTellCard.stood.harness false
    over (fun _ h => by cases h) (by kernel_rfl) (fun _ h => by cases h) nodesTell_row_tie rfl ⟨rfl, rfl⟩ (by kernel_rfl) rfl
    (fun f fn hf hfn => by
      obtain rfl := func_is hf
      obtain rfl : fn = Tryd.f5 := (Option.some.inj (Tryd.func5.symm.trans hfn)).symm
      exact ⟨by kernel_rfl, fun j t ht => by
        rw [Tryd.params5] at ht
        have hm : t ∈ [23] := by simpa using Array.mem_of_getElem? ht
        have hall : ([23].all fun u => !Tryd.prog.wantsStandIn u) = true := by kernel_rfl
        exact (show Tryd.prog.wantsStandIn t = false by simpa using List.all_eq_true.1 hall t hm)⟩)
    (by kernel_rfl)
#print axioms proved
end Go.Proofs.YtljkpcckfammmaaDoor.lawNodesTell
