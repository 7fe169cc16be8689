/- Any set is the one of its list, and has just those nodes that it has with one and without it. -/
import Derived.Test.YtljkpcckfammmaaDoorRows
import Derived.Test.YtljkpcckfammmaaDoorTie
import Derived.Test.YtljkpcckfammmaaDoorCards
import Derived.SevenTiedAt
import Derived.LaidMore
import Derived.Stop.Joined
import Derived.WalkKit
import Derived.ProofKit
import Derived.OpenShut
import Derived.ShutString
import Derived.ChangeOld
import Derived.Below
import Derived.Test.YtljkpcckfammmaaDoorNodesJ
namespace Go.Proofs.YtljkpcckfammmaaDoor.lawNodesBack
open Go.ChangeShapes Go.WideShapes Go.ChangeAt Go.RowKit
open Go.ChangeMaps (open_string shut_string)
set_option linter.unusedVariables false

theorem own : ownKnob Tryd.prog.godebug = none := by kernel_rfl
theorem laidOut : laidOutB Tryd.prog = true := by kernel_rfl

/-! The walk: the Go text returns true and writes nothing that was there. -/
theorem walk (a0 : Int) (a1 : Int) (w : World) (w0 : (Lit.int .u64 a0).wf = true) (w1 : (Lit.int .u8 a1).wf = true) (hT : Nodes.Tabs w) :
    Calls Tryd.prog 8 #[.int .u64 a0, .int .u8 a1] w fun e w' => e = .returned (.bool true) ∧ Below w.heap.size w w' := by
  obtain ⟨l0, u0⟩ := bounds_u64 w0
  obtain ⟨l1, u1⟩ := bounds_u8 w1
  obtain ⟨S, rfl⟩ := Int.eq_ofNat_of_zero_le l0
  have hS : S < 18446744073709551616 := by omega
  obtain ⟨r, hr⟩ := Int.eq_ofNat_of_zero_le (show 0 ≤ a1 % 64 by omega)
  have hr64 : r < 64 := by omega
  have HR := Lib.hid hr
  have C0 := Lib.hid (Nodes.list_any S hS w hT)
  obtain ⟨f1, f2, f3⟩ := Nodes.back_facts S r hr64
  have hW := Nodes.setP_lt (fun j => S.testBit j || decide ((j : Int) ∈ [(r : Int)]))
  have hWo := Nodes.setP_lt (fun j => S.testBit j && !decide ((j : Int) ∈ [(r : Int)]))
  have C5 := Lib.hid (fun W => Nodes.has_any (Nodes.withN S [(r : Int)]) hW (r : Int) W)
  have C6 := Lib.hid (fun W => Nodes.has_any (Nodes.withoutN S [(r : Int)]) hWo (r : Int) W)
  rw [f2] at C5
  rw [f3] at C6
  have CW : Hid (∀ (W : World) (b : Nat), W.heap.size = b → Calls Tryd.prog 17 #[.int .u64 S, .slice (some ⟨b, 0, none⟩) 1 1] (W.alloc (.cells #[.int .i64 r] 3)) fun e w' => e = .returned (.int .u64 (Nodes.withN S [(r : Int)])) ∧ W.alloc (.cells #[.int .i64 r] 3) = w') := Lib.hid (fun W b hb => Nodes.with_one S hS r W b hb)
  have CO : Hid (∀ (W : World) (b : Nat), W.heap.size = b → Calls Tryd.prog 19 #[.int .u64 S, .slice (some ⟨b, 0, none⟩) 1 1] (W.alloc (.cells #[.int .i64 r] 3)) fun e w' => e = .returned (.int .u64 (Nodes.withoutN S [(r : Int)])) ∧ W.alloc (.cells #[.int .i64 r] 3) = w') := Lib.hid (fun W b hb => Nodes.without_one S hS r W b hb)
  have CP : Hid (∀ (W : World) (b : Nat), W.heap.size = b → Calls Tryd.prog 19 #[.int .u64 (Nodes.withN S [(r : Int)]), .slice (some ⟨b, 0, none⟩) 1 1] (W.alloc (.cells #[.int .i64 r] 3)) fun e w' => e = .returned (.int .u64 (Nodes.withoutN S [(r : Int)])) ∧ W.alloc (.cells #[.int .i64 r] 3) = w') := Lib.hid (fun W b hb => by
    have := Nodes.without_one (Nodes.withN S [(r : Int)]) hW r W b hb
    rwa [f1] at this)
  have HO := Lib.hid (Nodes.ofL_memI hS)
  have HL := Lib.hid (show (Nodes.memI S).length ≤ 64 by rw [Nodes.memI_len]; exact Nodes.mem_le S)
  generalize Nodes.memI S = ms at *
  generalize Nodes.withN S [(r : Int)] = sw at *
  generalize Nodes.withoutN S [(r : Int)] = so at *
  clear f1 f2 f3
  go_enter Tryd.func8, Tryd.ntmps8
  go_wp2_with fail
  refine (C0.out).mono ?_; rintro e w1 ⟨ad1, cap1, rfl, hown, hB1⟩
  have C1 := Lib.hid (fun c => Nodes.of_any ad1 ms.length c ms w1 rfl (by have := HL.out; omega) hown.rd.1)
  rw [HO.out] at C1
  clear hown
  have h1 := hB1.size
  go_wp2_with fail
  refine (C1.out _).mono ?_; rintro e w' ⟨rfl, rfl⟩
  go_wp2_with fail
  refine (CW.out _ _ (by simp)).mono ?_; rintro e w' ⟨rfl, rfl⟩
  go_wp2_with fail
  refine (CP.out _ _ (by simp)).mono ?_; rintro e w' ⟨rfl, rfl⟩
  go_wp2_with fail
  refine (CO.out _ _ (by simp)).mono ?_; rintro e w' ⟨rfl, rfl⟩
  go_wp2_with fail
  refine (CW.out _ _ (by simp)).mono ?_; rintro e w' ⟨rfl, rfl⟩
  go_wp2_with fail
  refine (C5.out _).mono ?_; rintro e w' ⟨rfl, rfl⟩
  go_wp2_with fail
  refine (CO.out _ _ (by simp)).mono ?_; rintro e w' ⟨rfl, rfl⟩
  go_wp2_with fail
  refine (C6.out _).mono ?_; rintro e w' ⟨rfl, rfl⟩
  go_wp2_with fail
  refine (Nodes.works_any _ (hT.below (by go_grown))).mono ?_; rintro e w' ⟨rfl, hB9⟩
  go_wp2_with fail
  go_ret
  have hs9 := hB9.size
  exact ⟨rfl, Below.trans (by go_grown) (hB9.mono (by simp; omega))⟩

set_option maxRecDepth 100000 in
theorem lifted (os : Os) (started : os.Started) (H : Type) (enc : TypeId × Value → H) :
    ReturnsInHanded {} Tryd.checked os 8 .any (fun w args => (Rows.nodesBackSpec.pre enc Tryd.prog Tryd.f8 [] false w args ∧ laidMetH Tryd.prog Nodes.laidL w) ∧ sizedMet enc Tryd.prog Tryd.f8 (OpenSpec.ofChange Rows.nodesBackSpec) false w args) (Rows.nodesBackSpec.post enc Tryd.prog Tryd.f8 false true false false) := by
  refine returnsInHanded_of_change_and (C := Tryd.checked) (X := fun w _ => laidMetH Tryd.prog Nodes.laidL w) (fun _ _ _ hh h => h.of_heap hh) own started (by kernel_rfl) Tryd.func8
    (ChangeSpec.witness_shaped (enc := enc) (C := Tryd.checked) (os := os) (X := fun w _ => laidMetH Tryd.prog Nodes.laidL w) false (World.doorLaid Tryd.prog 24 os) #[.int .u64 0, .int .u8 0] 8 rfl (World.shaped_of_RefB (by kernel_rfl) (by kernel_rfl)) (by kernel_rfl) (by kernel_rfl) (by kernel_rfl) (Nodes.door_met os _)) ?_
  intro W base args ds gs before hval0 hW _ _ hL _
  have hval : ∀ (j : Nat) t v, Tryd.f8.params[j]? = some t → args[j]? = some v → Value.okWide Tryd.prog W .any base t v := hval0
  have hW' := hW
  obtain ⟨p, q, hA0, hV, rfl, hfz, hnd⟩ := hW
  have hA : DataW.TrodAll enc Tryd.prog W 0 (fun _ => true) true Tryd.f8.params.toList args.toList ds p := hA0
  rw [Tryd.params8] at hA hval
  obtain ⟨v0, vs0, d0, ds0, p0, q0, hargs, rfl, rfl, h0, r0⟩ := trodAll_cons hA
  obtain ⟨v1, vs1, d1, ds1, p1, q1, rfl, rfl, rfl, h1, r1⟩ := trodAll_cons r0
  obtain ⟨rfl, rfl, rfl⟩ := trodAll_nil r1
  obtain rfl : args = #[v0, v1] := by cases args; simp_all
  obtain ⟨rfl, rfl⟩ := trodVars_none hV
  obtain ⟨a0, rfl, rfl, rfl, w0⟩ := open_int Tryd.underlying23 (hval 0 23 v0 rfl rfl) h0
  obtain ⟨a1, rfl, rfl, rfl, w1⟩ := open_int Tryd.underlying5 (hval 1 5 v1 rfl rfl) h1
  clear hA0 hval0
  have hT := Nodes.tabs_of_laid hL
  refine (walk a0 a1 W w0 w1 hT).mono fun e W' ⟨he, bel⟩ => ?_
  subst he
  exact ⟨_, rfl, _, _, _, [], _, [], hW', trodAll_mk1 (shut_bool Tryd.underlying4 _), (trodAll_cons_mk (shut_int Tryd.underlying23 w0) (trodAll_cons_mk (shut_int Tryd.underlying5 w1) trodAll_mk0)), rfl, bel.frame _, fun h => by cases h⟩

theorem over : Rows.nodesBackRow.holds Tryd.pinned (OpenSpec.ofChange Rows.nodesBackSpec) :=
  OpenClaim.holds_of_wide 8 Tryd.f8 rfl rfl rfl rfl rfl rfl rfl ⟨rfl, rfl, rfl, rfl, rfl⟩ rfl rfl rfl rfl rfl (by kernel_rfl) Tryd.func8 (by kernel_rfl)
    (of_decide_eq_true (by kernel_rfl)) (by unfold Func.isWrapper; first | (rw [if_pos (by decide +kernel)]; kernel_rfl) | (rw [if_neg (by decide +kernel)]; exact ⟨rfl, rfl⟩))
    (fun os started H enc _ => lifted os started H enc)

theorem func_is {f : FuncId} (h : Tryd.prog.funcNamed Rows.nodesBackRow.func = some f) : f = 8 :=
  Option.some.inj (h.symm.trans (show Tryd.prog.funcNamed Rows.nodesBackRow.func = some 8 by kernel_rfl))
theorem proved : Rows.NodesBackCardSaid :=
  Claim7.holds_tied_plain_at .later [] Rows.nodesBackCard.laidKinds true Rows.nodesBackCard.stood.harness false
    over (fun _ h => by cases h) (by kernel_rfl) (fun _ h => by cases h) nodesBack_row_tie rfl ⟨rfl, rfl⟩ (by kernel_rfl) rfl
    (fun f fn hf hfn => by
      obtain rfl := func_is hf
      obtain rfl : fn = Tryd.f8 := (Option.some.inj (Tryd.func8.symm.trans hfn)).symm
      exact ⟨by kernel_rfl, fun j t ht => by
        rw [Tryd.params8] at ht
        have hm : t ∈ [23, 5] := by simpa using Array.mem_of_getElem? ht
        have hall : ([23, 5].all fun u => !Tryd.prog.wantsStandIn u) = true := by kernel_rfl
        exact (show Tryd.prog.wantsStandIn t = false by simpa using List.all_eq_true.1 hall t hm)⟩)
    (by kernel_rfl)
#print axioms proved
end Go.Proofs.YtljkpcckfammmaaDoor.lawNodesBack
