/- The set of any nodes, and what a set has, is as the document says. -/
import Derived.Test.YtljkpcckfammmaaDoorRows
import Derived.Test.YtljkpcckfammmaaDoorTie
import Derived.Test.YtljkpcckfammmaaDoorCards
import Derived.SevenTiedAt
import Derived.LaidMore
import Derived.Stop.Joined
import Derived.WalkKit
import Derived.ProofKit
import Derived.OpenShut
import Derived.ShutString
import Derived.ChangeOld
import Derived.Below
import Derived.Test.YtljkpcckfammmaaDoorNodesJ
namespace Go.Proofs.YtljkpcckfammmaaDoor.lawNodesOf
open Go.ChangeShapes Go.WideShapes Go.ChangeAt Go.RowKit
open Go.ChangeMaps (open_string shut_string)
set_option linter.unusedVariables false

theorem own : ownKnob Tryd.prog.godebug = none := by kernel_rfl
theorem laidOut : laidOutB Tryd.prog = true := by kernel_rfl

/-- What the walk is told of a slice of integers that came in. -/
def IsRow (k : IntKind) (w : World) (a : Option Addr) (len cap : Nat) (zs : List Int) : Prop :=
  (a = none ∧ len = 0 ∧ cap = 0 ∧ zs = []) ∨
  ∃ x, a = some x ∧ len ≤ cap ∧ cap ≤ maxLen ∧ zs.length = cap ∧ (∀ i, i < zs.length → w.cell? (x.add i) = some (.int k (zs.getD i 0))) ∧ ∀ n ∈ zs, (Lit.int k n).wf = true

/-! The walk: the Go text returns true and writes nothing that was there. -/
theorem walk (a0 : Option Addr) (len0 cap0 : Nat) (z0 : List Int) (a1 : Int) (w : World) (w0 : IsRow .i64 w a0 len0 cap0 z0) (w1 : (Lit.int .i64 a1).wf = true) (hT : Nodes.Tabs w) :
    Calls Tryd.prog 3 #[.slice a0 len0 cap0, .int .i64 a1] w fun e w' => e = .returned (.bool true) ∧ Below w.heap.size w w' := by
  obtain ⟨l1, u1⟩ := bounds_i64 w1
  have HNIL := Nodes.nil_of_row w0
  by_cases hl0 : len0 = 0
  · subst hl0
    obtain ⟨Z, HRD, HLZ⟩ := Nodes.Rd_none w a0
    clear w0
    have C0 := Lib.hid (fun c W (h : Nodes.Rd W a0 Z) => Nodes.of_any a0 0 c Z W HLZ.out (by omega) h)
    have C1 := Lib.hid (fun c W (h : Nodes.Rd W a0 Z) => Nodes.rof_any a0 0 c Z W HLZ.out (by omega) h)
    have C2 := Lib.hid (fun W => Nodes.has_any (Nodes.ofL Z) (Nodes.setP_lt _) a1 W)
    have C3 := Lib.hid (fun W => Nodes.rhas_any (Nodes.ofL Z) (Nodes.setP_lt _) a1 W)
    have C4 := Lib.hid (fun W => Nodes.all_any a1 l1 u1 W)
    have C5 := Lib.hid (Nodes.upto_any a1 w)
    have HU := Lib.hid (Nodes.upto_is a1)
    have HK := Lib.hid (show Nodes.upK a1 ≤ 100 from Nat.min_le_right _ _)
    have HM : Hid (((List.range (Nodes.upK a1)).map fun j : Nat => (j : Int)).length ≤ 100) := Lib.hid (by rw [List.length_map, List.length_range]; exact HK.out)
    generalize ((List.range (Nodes.upK a1)).map fun j : Nat => (j : Int)) = us at *
    go_enter Tryd.func3, Tryd.ntmps3
    go_wp2_with fail
    refine (C0.out _ _ HRD.out).mono ?_; rintro e w' ⟨rfl, rfl⟩
    go_wp2_with fail
    refine (C1.out _ _ HRD.out).mono ?_; rintro e w' ⟨rfl, rfl⟩
    go_wp2_with fail
    refine (C2.out _).mono ?_; rintro e w' ⟨rfl, rfl⟩
    go_wp2_with fail
    refine (C3.out _).mono ?_; rintro e w' ⟨rfl, rfl⟩
    go_wp2_with fail
    refine (C4.out _).mono ?_; rintro e w' ⟨rfl, rfl⟩
    go_wp2_with fail
    refine (C5.out).mono ?_; rintro e w1 ⟨ad1, cap1, rfl, hown, hB1⟩
    have C6 := Lib.hid (fun c => Nodes.rof_any ad1 us.length c us w1 rfl (by have := HM.out; omega) hown.rd.1)
    rw [HU.out] at C6
    clear hown
    go_wp2_with fail
    refine (C6.out _).mono ?_; rintro e w' ⟨rfl, rfl⟩
    have C9 := Lib.hid (Nodes.works_any _ (hT.below hB1))
    go_wp2_with fail
    refine (C9.out).mono ?_; rintro e w' ⟨rfl, hB9⟩
    go_wp2_with fail
    go_ret
    exact ⟨rfl, hB1.trans (hB9.mono hB1.size)⟩
  · obtain ⟨b, off, rfl, hle, hcap, HZ⟩ := Nodes.rd_of_row hl0 w0
    clear w0
    obtain ⟨Z, HRD, HLZ⟩ := HZ ((min (len0 : Int) 80).toNat) (by omega)
    clear HZ
    have C0 := Lib.hid (fun c W (h : Nodes.Rd W (some ⟨b, off, none⟩) Z) => Nodes.of_any (some ⟨b, off, none⟩) ((min (len0 : Int) 80).toNat) c Z W HLZ.out (by omega) h)
    have C1 := Lib.hid (fun c W (h : Nodes.Rd W (some ⟨b, off, none⟩) Z) => Nodes.rof_any (some ⟨b, off, none⟩) ((min (len0 : Int) 80).toNat) c Z W HLZ.out (by omega) h)
    have C2 := Lib.hid (fun W => Nodes.has_any (Nodes.ofL Z) (Nodes.setP_lt _) a1 W)
    have C3 := Lib.hid (fun W => Nodes.rhas_any (Nodes.ofL Z) (Nodes.setP_lt _) a1 W)
    have C4 := Lib.hid (fun W => Nodes.all_any a1 l1 u1 W)
    have C5 := Lib.hid (Nodes.upto_any a1 w)
    have HU := Lib.hid (Nodes.upto_is a1)
    have HK := Lib.hid (show Nodes.upK a1 ≤ 100 from Nat.min_le_right _ _)
    have HM : Hid (((List.range (Nodes.upK a1)).map fun j : Nat => (j : Int)).length ≤ 100) := Lib.hid (by rw [List.length_map, List.length_range]; exact HK.out)
    generalize ((List.range (Nodes.upK a1)).map fun j : Nat => (j : Int)) = us at *
    go_enter Tryd.func3, Tryd.ntmps3
    go_wp2_with fail
    refine (C0.out _ _ HRD.out).mono ?_; rintro e w' ⟨rfl, rfl⟩
    go_wp2_with fail
    refine (C1.out _ _ HRD.out).mono ?_; rintro e w' ⟨rfl, rfl⟩
    go_wp2_with fail
    refine (C2.out _).mono ?_; rintro e w' ⟨rfl, rfl⟩
    go_wp2_with fail
    refine (C3.out _).mono ?_; rintro e w' ⟨rfl, rfl⟩
    go_wp2_with fail
    refine (C4.out _).mono ?_; rintro e w' ⟨rfl, rfl⟩
    go_wp2_with fail
    refine (C5.out).mono ?_; rintro e w1 ⟨ad1, cap1, rfl, hown, hB1⟩
    have C6 := Lib.hid (fun c => Nodes.rof_any ad1 us.length c us w1 rfl (by have := HM.out; omega) hown.rd.1)
    rw [HU.out] at C6
    clear hown
    go_wp2_with fail
    refine (C6.out _).mono ?_; rintro e w' ⟨rfl, rfl⟩
    have C9 := Lib.hid (Nodes.works_any _ (hT.below hB1))
    go_wp2_with fail
    refine (C9.out).mono ?_; rintro e w' ⟨rfl, hB9⟩
    go_wp2_with fail
    go_ret
    exact ⟨rfl, hB1.trans (hB9.mono hB1.size)⟩

set_option maxRecDepth 100000 in
theorem lifted (os : Os) (started : os.Started) (H : Type) (enc : TypeId × Value → H) :
    ReturnsInHanded {} Tryd.checked os 3 .any (fun w args => (Rows.nodesOfSpec.pre enc Tryd.prog Tryd.f3 [] false w args ∧ laidMetH Tryd.prog Nodes.laidL w) ∧ sizedMet enc Tryd.prog Tryd.f3 (OpenSpec.ofChange Rows.nodesOfSpec) false w args) (Rows.nodesOfSpec.post enc Tryd.prog Tryd.f3 false true false false) := by
  refine returnsInHanded_of_change_and (C := Tryd.checked) (X := fun w _ => laidMetH Tryd.prog Nodes.laidL w) (fun _ _ _ hh h => h.of_heap hh) own started (by kernel_rfl) Tryd.func3
    (ChangeSpec.witness_shaped (enc := enc) (C := Tryd.checked) (os := os) (X := fun w _ => laidMetH Tryd.prog Nodes.laidL w) false (World.doorLaid Tryd.prog 24 os) #[.slice none 0 0, .int .i64 0] 8 rfl (World.shaped_of_RefB (by kernel_rfl) (by kernel_rfl)) (by kernel_rfl) (by kernel_rfl) (by kernel_rfl) (Nodes.door_met os _)) ?_
  intro W base args ds gs before hval0 hW _ _ hL _
  have hval : ∀ (j : Nat) t v, Tryd.f3.params[j]? = some t → args[j]? = some v → Value.okWide Tryd.prog W .any base t v := hval0
  have hW' := hW
  obtain ⟨p, q, hA0, hV, rfl, hfz, hnd⟩ := hW
  have hA : DataW.TrodAll enc Tryd.prog W 0 (fun _ => true) true Tryd.f3.params.toList args.toList ds p := hA0
  rw [Tryd.params3] at hA hval
  obtain ⟨v0, vs0, d0, ds0, p0, q0, hargs, rfl, rfl, h0, r0⟩ := trodAll_cons hA
  obtain ⟨v1, vs1, d1, ds1, p1, q1, rfl, rfl, rfl, h1, r1⟩ := trodAll_cons r0
  obtain ⟨rfl, rfl, rfl⟩ := trodAll_nil r1
  obtain rfl : args = #[v0, v1] := by cases args; simp_all
  obtain ⟨rfl, rfl⟩ := trodVars_none hV
  obtain ⟨a0, len0, cap0, rfl⟩ := okWide_slice Tryd.underlying22 (hval 0 22 v0 rfl rfl)
  have k0 := h0
  have lt0 : ∀ x ∈ p0, x.block < W.heap.size := by obtain ⟨m, hm⟩ := k0; exact DataW.trod_lt m _ _ _ hm
  obtain ⟨z0, w0⟩ : ∃ zs, IsRow .i64 W a0 len0 cap0 zs := by
    obtain ⟨fuel, hf⟩ := h0
    rcases open_ints Tryd.underlying22 Tryd.underlying3 (by kernel_rfl) hf with ⟨hcs, _⟩ | ⟨x, l, c, zs, hcs, _, hl, hm, hz, _, hcell, hwz⟩
    · simp [Value.cells] at hcs
      obtain ⟨rfl, rfl, rfl⟩ := hcs
      exact ⟨[], .inl ⟨rfl, rfl, rfl, rfl⟩⟩
    · simp [Value.cells] at hcs
      obtain ⟨rfl, rfl, rfl⟩ := hcs
      exact ⟨zs, .inr ⟨_, rfl, hl, hm, by simpa using hz, hcell, hwz⟩⟩
  obtain ⟨a1, rfl, rfl, rfl, w1⟩ := open_int Tryd.underlying3 (hval 1 3 v1 rfl rfl) h1
  clear hA0 hval0
  have hT := Nodes.tabs_of_laid hL
  refine (walk a0 len0 cap0 z0 a1 W w0 w1 hT).mono fun e W' ⟨he, bel⟩ => ?_
  subst he
  exact ⟨_, rfl, _, _, _, [], _, [], hW', trodAll_mk1 (shut_bool Tryd.underlying4 _), (trodAll_cons_mk (Below.trod laidOut (by kernel_rfl) (of_decide_eq_true (by kernel_rfl)) k0 bel lt0) (trodAll_cons_mk (shut_int Tryd.underlying3 w1) trodAll_mk0)), rfl, bel.frame _, fun h => by cases h⟩

theorem over : Rows.nodesOfRow.holds Tryd.pinned (OpenSpec.ofChange Rows.nodesOfSpec) :=
  OpenClaim.holds_of_wide 3 Tryd.f3 rfl rfl rfl rfl rfl rfl rfl ⟨rfl, rfl, rfl, rfl, rfl⟩ rfl rfl rfl rfl rfl (by kernel_rfl) Tryd.func3 (by kernel_rfl)
    (of_decide_eq_true (by kernel_rfl)) (by unfold Func.isWrapper; first | (rw [if_pos (by decide +kernel)]; kernel_rfl) | (rw [if_neg (by decide +kernel)]; exact ⟨rfl, rfl⟩))
    (fun os started H enc _ => lifted os started H enc)

theorem func_is {f : FuncId} (h : Tryd.prog.funcNamed Rows.nodesOfRow.func = some f) : f = 3 :=
  Option.some.inj (h.symm.trans (show Tryd.prog.funcNamed Rows.nodesOfRow.func = some 3 by kernel_rfl))
theorem proved : Rows.NodesOfCardSaid :=
  Claim7.holds_tied_plain_at .later [] Rows.nodesOfCard.laidKinds true Rows.nodesOfCard.stood.harness false
    over (fun _ h => by cases h) (by kernel_rfl) (fun _ h => by cases h) nodesOf_row_tie rfl ⟨rfl, rfl⟩ (by kernel_rfl) rfl
    (fun f fn hf hfn => by
      obtain rfl := func_is hf
      obtain rfl : fn = Tryd.f3 := (Option.some.inj (Tryd.func3.symm.trans hfn)).symm
      exact ⟨by kernel_rfl, fun j t ht => by
        rw [Tryd.params3] at ht
        have hm : t ∈ [22, 3] := by simpa using Array.mem_of_getElem? ht
        have hall : ([22, 3].all fun u => !Tryd.prog.wantsStandIn u) = true := by kernel_rfl
        exact (show Tryd.prog.wantsStandIn t = false by simpa using List.all_eq_true.1 hall t hm)⟩)
    (by kernel_rfl)
#print axioms proved
end Go.Proofs.YtljkpcckfammmaaDoor.lawNodesOf
