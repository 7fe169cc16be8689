/- None that is left is below one of the first ones of any set. -/
import Derived.Test.YtljkpcckfammmaaDoorRows
import Derived.Test.YtljkpcckfammmaaDoorTie
import Derived.Test.YtljkpcckfammmaaDoorCards
import Derived.SevenTiedAt
import Derived.LaidMore
import Derived.Stop.Joined
import Derived.WalkKit
import Derived.ProofKit
import Derived.OpenShut
import Derived.ShutString
import Derived.ChangeOld
import Derived.Below
import Derived.Test.YtljkpcckfammmaaDoorNodesJ
namespace Go.Proofs.YtljkpcckfammmaaDoor.lawNodesLeast
open Go.ChangeShapes Go.WideShapes Go.ChangeAt Go.RowKit
open Go.ChangeMaps (open_string shut_string)
set_option linter.unusedVariables false

theorem own : ownKnob Tryd.prog.godebug = none := by kernel_rfl
theorem laidOut : laidOutB Tryd.prog = true := by kernel_rfl

/-! The walk: the Go text returns true and writes nothing that was there. -/
theorem walk (a0 : Int) (a1 : Int) (w : World) (w0 : (Lit.int .u64 a0).wf = true) (w1 : (Lit.int .u8 a1).wf = true) (hT : Nodes.Tabs w) :
    Calls Tryd.prog 9 #[.int .u64 a0, .int .u8 a1] w fun e w' => e = .returned (.bool true) ∧ Below w.heap.size w w' := by
  obtain ⟨l0, u0⟩ := bounds_u64 w0
  obtain ⟨l1, u1⟩ := bounds_u8 w1
  obtain ⟨S, rfl⟩ := Int.eq_ofNat_of_zero_le l0
  have hS : S < 18446744073709551616 := by omega
  obtain ⟨k, rfl⟩ := Int.eq_ofNat_of_zero_le l1
  have hk : (k : Int) ≤ 255 := by omega
  have C0 := Lib.hid (fun W => Nodes.first_any S hS (k : Int) (by omega) (by omega) W)
  rw [Int.toNat_natCast] at C0
  obtain ⟨x1, x2, x3, x4, x5, x6⟩ := Nodes.first_facts hS k
  generalize Nodes.firstN S k = a at *
  have HX1 := Lib.hid x1
  have HX2 := Lib.hid x2
  have C1 := Lib.hid (fun W => Nodes.count_any a x3 W)
  have C2 := Lib.hid (fun W => Nodes.count_any S hS W)
  rw [x4] at C1
  have C3 := Lib.hid (fun W (h : Nodes.Tabs W) => Nodes.least_any (Nodes.andNotN S a) x5 W h)
  obtain ⟨n, hn⟩ : ∃ n, Hid ((Nodes.mem S).length = n) := ⟨_, Lib.hid rfl⟩
  have hn64 : n ≤ 64 := by rw [← hn.out]; exact Nodes.mem_le S
  have hmin : ((min k n : Nat) : Int) = min (k : Int) (n : Int) := by omega
  rw [hn.out] at C1 C2 x6
  have HY1 := Lib.hid (u64_andNot_nat S a hS x3)
  have HY2 := Lib.hid (u64_andNot_nat a S x3 hS)
  have HY := Lib.hid (show bits .andNot .u64 (S : Int) (a : Int) = ((Nodes.andNotN S a : Nat) : Int) from HY1.out)
  have HZ := Lib.hid (show bits .andNot .u64 (a : Int) (S : Int) = 0 by rw [HY2.out]; exact congrArg (fun n : Nat => (n : Int)) HX1.out)
  obtain ⟨b, hb⟩ : ∃ b, Hid (Nodes.andNotN S a = b) := ⟨_, Lib.hid rfl⟩
  rw [hb.out] at HY C3 x6
  have hmb : (((min k n : Nat) : Int) != min (k : Int) (n : Int)) = false := by rw [hmin]; simp
  have hy := HY.out
  have hz := HZ.out
  clear x1 x2 x4 HY1 HY2 hmin
  rcases x6 with h0 | ⟨h0, hbel⟩
  · subst h0
    go_enter Tryd.func9, Tryd.ntmps9
    go_wp2_with fail
    refine (C0.out _).mono ?_; rintro e w' ⟨rfl, rfl⟩
    go_wp2_with fail
    refine (C1.out _).mono ?_; rintro e w' ⟨rfl, rfl⟩
    go_wp2_with fail
    refine (C2.out _).mono ?_; rintro e w' ⟨rfl, rfl⟩
    have hB := Below.refl w.heap.size w
    have C9 := Lib.hid (Nodes.works_any _ (hT.below hB))
    go_wp2_with fail
    refine (C9.out).mono ?_; rintro e w' ⟨rfl, hB9⟩
    go_wp2_with fail
    go_ret
    exact ⟨rfl, hB.trans (hB9.mono hB.size)⟩
  · have hlo : -1 ≤ Nodes.leastN b ∧ Nodes.leastN b ≤ 63 := by
      rw [hb.out] at x5
      unfold Nodes.leastN
      rw [if_neg h0]
      have := (Nodes.least_spec x5 h0).1
      omega
    have hne : ((b : Int) == 0) = false := beq_eq_false_iff_ne.2 (by omega)
    generalize Nodes.leastN b = y at *
    obtain ⟨hy1, hy2⟩ := hlo
    have C4 := Lib.hid (fun W => Nodes.below_any a x3 y (by omega) (by omega) W)
    rw [hbel] at C4
    clear h0 hbel
    go_enter Tryd.func9, Tryd.ntmps9
    go_wp2_with fail
    refine (C0.out _).mono ?_; rintro e w' ⟨rfl, rfl⟩
    go_wp2_with fail
    refine (C1.out _).mono ?_; rintro e w' ⟨rfl, rfl⟩
    go_wp2_with fail
    refine (C2.out _).mono ?_; rintro e w' ⟨rfl, rfl⟩
    go_wp2_with fail
    refine (C3.out _ hT).mono ?_; rintro e w' ⟨rfl, rfl⟩
    go_wp2_with fail
    refine (C4.out _).mono ?_; rintro e w' ⟨rfl, rfl⟩
    go_wp2_with fail
    refine (C1.out _).mono ?_; rintro e w' ⟨rfl, rfl⟩
    have hB := Below.refl w.heap.size w
    have C9 := Lib.hid (Nodes.works_any _ (hT.below hB))
    go_wp2_with fail
    refine (C9.out).mono ?_; rintro e w' ⟨rfl, hB9⟩
    go_wp2_with fail
    go_ret
    exact ⟨rfl, hB.trans (hB9.mono hB.size)⟩

set_option maxRecDepth 100000 in
theorem lifted (os : Os) (started : os.Started) (H : Type) (enc : TypeId × Value → H) :
    ReturnsInHanded {} Tryd.checked os 9 .any (fun w args => (Rows.nodesLeastSpec.pre enc Tryd.prog Tryd.f9 [] false w args ∧ laidMetH Tryd.prog Nodes.laidL w) ∧ sizedMet enc Tryd.prog Tryd.f9 (OpenSpec.ofChange Rows.nodesLeastSpec) false w args) (Rows.nodesLeastSpec.post enc Tryd.prog Tryd.f9 false true false false) := by
  refine returnsInHanded_of_change_and (C := Tryd.checked) (X := fun w _ => laidMetH Tryd.prog Nodes.laidL w) (fun _ _ _ hh h => h.of_heap hh) own started (by kernel_rfl) Tryd.func9
    (ChangeSpec.witness_shaped (enc := enc) (C := Tryd.checked) (os := os) (X := fun w _ => laidMetH Tryd.prog Nodes.laidL w) false (World.doorLaid Tryd.prog 24 os) #[.int .u64 0, .int .u8 0] 8 rfl (World.shaped_of_RefB (by kernel_rfl) (by kernel_rfl)) (by kernel_rfl) (by kernel_rfl) (by kernel_rfl) (Nodes.door_met os _)) ?_
  intro W base args ds gs before hval0 hW _ _ hL _
  have hval : ∀ (j : Nat) t v, Tryd.f9.params[j]? = some t → args[j]? = some v → Value.okWide Tryd.prog W .any base t v := hval0
  have hW' := hW
  obtain ⟨p, q, hA0, hV, rfl, hfz, hnd⟩ := hW
  have hA : DataW.TrodAll enc Tryd.prog W 0 (fun _ => true) true Tryd.f9.params.toList args.toList ds p := hA0
  rw [Tryd.params9] at hA hval
  obtain ⟨v0, vs0, d0, ds0, p0, q0, hargs, rfl, rfl, h0, r0⟩ := trodAll_cons hA
  obtain ⟨v1, vs1, d1, ds1, p1, q1, rfl, rfl, rfl, h1, r1⟩ := trodAll_cons r0
  obtain ⟨rfl, rfl, rfl⟩ := trodAll_nil r1
  obtain rfl : args = #[v0, v1] := by cases args; simp_all
  obtain ⟨rfl, rfl⟩ := trodVars_none hV
  obtain ⟨a0, rfl, rfl, rfl, w0⟩ := open_int Tryd.underlying23 (hval 0 23 v0 rfl rfl) h0
  obtain ⟨a1, rfl, rfl, rfl, w1⟩ := open_int Tryd.underlying5 (hval 1 5 v1 rfl rfl) h1
  clear hA0 hval0
  have hT := Nodes.tabs_of_laid hL
  refine (walk a0 a1 W w0 w1 hT).mono fun e W' ⟨he, bel⟩ => ?_
  subst he
  exact ⟨_, rfl, _, _, _, [], _, [], hW', trodAll_mk1 (shut_bool Tryd.underlying4 _), (trodAll_cons_mk (shut_int Tryd.underlying23 w0) (trodAll_cons_mk (shut_int Tryd.underlying5 w1) trodAll_mk0)), rfl, bel.frame _, fun h => by cases h⟩

theorem over : Rows.nodesLeastRow.holds Tryd.pinned (OpenSpec.ofChange Rows.nodesLeastSpec) :=
  OpenClaim.holds_of_wide 9 Tryd.f9 rfl rfl rfl rfl rfl rfl rfl ⟨rfl, rfl, rfl, rfl, rfl⟩ rfl rfl rfl rfl rfl (by kernel_rfl) Tryd.func9 (by kernel_rfl)
    (of_decide_eq_true (by kernel_rfl)) (by unfold Func.isWrapper; first | (rw [if_pos (by decide +kernel)]; kernel_rfl) | (rw [if_neg (by decide +kernel)]; exact ⟨rfl, rfl⟩))
    (fun os started H enc _ => lifted os started H enc)

theorem func_is {f : FuncId} (h : Tryd.prog.funcNamed Rows.nodesLeastRow.func = some f) : f = 9 :=
  Option.some.inj (h.symm.trans (show Tryd.prog.funcNamed Rows.nodesLeastRow.func = some 9 by kernel_rfl))
theorem proved : Rows.NodesLeastCardSaid :=
  Claim7.holds_tied_plain_at .later [] Rows.nodesLeastCard.laidKinds true Rows.nodesLeastCard.stood.harness false
    over (fun _ h => by cases h) (by kernel_rfl) (fun _ h => by cases h) nodesLeast_row_tie rfl ⟨rfl, rfl⟩ (by kernel_rfl) rfl
    (fun f fn hf hfn => by
      obtain rfl := func_is hf
      obtain rfl : fn = Tryd.f9 := (Option.some.inj (Tryd.func9.symm.trans hfn)).symm
      exact ⟨by kernel_rfl, fun j t ht => by
        rw [Tryd.params9] at ht
        have hm : t ∈ [23, 5] := by simpa using Array.mem_of_getElem? ht
        have hall : ([23, 5].all fun u => !Tryd.prog.wantsStandIn u) = true := by kernel_rfl
        exact (show Tryd.prog.wantsStandIn t = false by simpa using List.all_eq_true.1 hall t hm)⟩)
    (by kernel_rfl)
#print axioms proved
end Go.Proofs.YtljkpcckfammmaaDoor.lawNodesLeast
