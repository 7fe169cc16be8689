/- Any set with some nodes, and without some, is as the document says. -/
import Derived.Test.YtljkpcckfammmaaDoorRows
import Derived.Test.YtljkpcckfammmaaDoorTie
import Derived.Test.YtljkpcckfammmaaDoorCards
import Derived.SevenTiedAt
import Derived.LaidMore
import Derived.Stop.Joined
import Derived.WalkKit
import Derived.ProofKit
import Derived.OpenShut
import Derived.ShutString
import Derived.ChangeOld
import Derived.Below
import Derived.Test.YtljkpcckfammmaaDoorNodesJ
namespace Go.Proofs.YtljkpcckfammmaaDoor.lawNodesChange
open Go.ChangeShapes Go.WideShapes Go.ChangeAt Go.RowKit
open Go.ChangeMaps (open_string shut_string)
set_option linter.unusedVariables false

theorem own : ownKnob Tryd.prog.godebug = none := by kernel_rfl
theorem laidOut : laidOutB Tryd.prog = true := by kernel_rfl

/-- What the walk is told of a slice of integers that came in. -/
def IsRow (k : IntKind) (w : World) (a : Option Addr) (len cap : Nat) (zs : List Int) : Prop :=
  (a = none ∧ len = 0 ∧ cap = 0 ∧ zs = []) ∨
  ∃ x, a = some x ∧ len ≤ cap ∧ cap ≤ maxLen ∧ zs.length = cap ∧ (∀ i, i < zs.length → w.cell? (x.add i) = some (.int k (zs.getD i 0))) ∧ ∀ n ∈ zs, (Lit.int k n).wf = true

/-! The walk: the Go text returns true and writes nothing that was there. -/
theorem walk (a0 : Int) (a1 : Option Addr) (len1 cap1 : Nat) (z1 : List Int) (w : World) (w0 : (Lit.int .u64 a0).wf = true) (w1 : IsRow .i64 w a1 len1 cap1 z1) (hT : Nodes.Tabs w) :
    Calls Tryd.prog 4 #[.int .u64 a0, .slice a1 len1 cap1] w fun e w' => e = .returned (.bool true) ∧ Below w.heap.size w w' := by
  obtain ⟨l0, u0⟩ := bounds_u64 w0
  obtain ⟨S, rfl⟩ := Int.eq_ofNat_of_zero_le l0
  have hS : S < 18446744073709551616 := by omega
  have HNIL := Nodes.nil_of_row w1
  by_cases hl0 : len1 = 0
  · subst hl0
    obtain ⟨Z, HRD, HLZ⟩ := Nodes.Rd_none w a1
    clear w1
    have C0 := Lib.hid (fun c W (h : Nodes.Rd W a1 Z) => Nodes.with_any S hS a1 0 c Z W HLZ.out (by omega) h)
    have C1 := Lib.hid (Nodes.rwith_any S hS a1 0 cap1 Z w HLZ.out (by omega) HRD.out HNIL.out)
    have C2 := Lib.hid (fun c W (h : Nodes.Rd W a1 Z) => Nodes.without_any S hS a1 0 c Z W HLZ.out (by omega) h)
    have C3 := Lib.hid (fun c W (h : Nodes.Rd W a1 Z) => Nodes.rwithout_any S hS a1 0 c Z W HLZ.out (by omega) h)
    go_enter Tryd.func4, Tryd.ntmps4
    go_wp2_with fail
    refine (C0.out _ _ HRD.out).mono ?_; rintro e w' ⟨rfl, rfl⟩
    go_wp2_with fail
    refine (C1.out).mono ?_; rintro e w' ⟨rfl, hB1⟩
    go_wp2_with fail
    refine (C2.out _ _ (HRD.out.below hB1)).mono ?_; rintro e w' ⟨rfl, rfl⟩
    go_wp2_with fail
    refine (C3.out _ _ (HRD.out.below hB1)).mono ?_; rintro e w' ⟨rfl, hB2⟩
    have hB := hB1.trans (hB2.mono hB1.size)
    have C9 := Lib.hid (Nodes.works_any _ (hT.below hB))
    go_wp2_with fail
    refine (C9.out).mono ?_; rintro e w' ⟨rfl, hB9⟩
    go_wp2_with fail
    go_ret
    exact ⟨rfl, hB.trans (hB9.mono hB.size)⟩
  · obtain ⟨b, off, rfl, hle, hcap, HZ⟩ := Nodes.rd_of_row hl0 w1
    clear w1
    obtain ⟨Z, HRD, HLZ⟩ := HZ ((min (len1 : Int) 80).toNat) (by omega)
    clear HZ
    have C0 := Lib.hid (fun c W (h : Nodes.Rd W (some ⟨b, off, none⟩) Z) => Nodes.with_any S hS (some ⟨b, off, none⟩) ((min (len1 : Int) 80).toNat) c Z W HLZ.out (by omega) h)
    have C1 := Lib.hid (Nodes.rwith_any S hS (some ⟨b, off, none⟩) ((min (len1 : Int) 80).toNat) cap1 Z w HLZ.out (by omega) HRD.out HNIL.out)
    have C2 := Lib.hid (fun c W (h : Nodes.Rd W (some ⟨b, off, none⟩) Z) => Nodes.without_any S hS (some ⟨b, off, none⟩) ((min (len1 : Int) 80).toNat) c Z W HLZ.out (by omega) h)
    have C3 := Lib.hid (fun c W (h : Nodes.Rd W (some ⟨b, off, none⟩) Z) => Nodes.rwithout_any S hS (some ⟨b, off, none⟩) ((min (len1 : Int) 80).toNat) c Z W HLZ.out (by omega) h)
    go_enter Tryd.func4, Tryd.ntmps4
    go_wp2_with fail
    refine (C0.out _ _ HRD.out).mono ?_; rintro e w' ⟨rfl, rfl⟩
    go_wp2_with fail
    refine (C1.out).mono ?_; rintro e w' ⟨rfl, hB1⟩
    go_wp2_with fail
    refine (C2.out _ _ (HRD.out.below hB1)).mono ?_; rintro e w' ⟨rfl, rfl⟩
    go_wp2_with fail
    refine (C3.out _ _ (HRD.out.below hB1)).mono ?_; rintro e w' ⟨rfl, hB2⟩
    have hB := hB1.trans (hB2.mono hB1.size)
    have C9 := Lib.hid (Nodes.works_any _ (hT.below hB))
    go_wp2_with fail
    refine (C9.out).mono ?_; rintro e w' ⟨rfl, hB9⟩
    go_wp2_with fail
    go_ret
    exact ⟨rfl, hB.trans (hB9.mono hB.size)⟩

set_option maxRecDepth 100000 in
theorem lifted (os : Os) (started : os.Started) (H : Type) (enc : TypeId × Value → H) :
    ReturnsInHanded {} Tryd.checked os 4 .any (fun w args => (Rows.nodesChangeSpec.pre enc Tryd.prog Tryd.f4 [] false w args ∧ laidMetH Tryd.prog Nodes.laidL w) ∧ sizedMet enc Tryd.prog Tryd.f4 (OpenSpec.ofChange Rows.nodesChangeSpec) false w args) (Rows.nodesChangeSpec.post enc Tryd.prog Tryd.f4 false true false false) := by
  refine returnsInHanded_of_change_and (C := Tryd.checked) (X := fun w _ => laidMetH Tryd.prog Nodes.laidL w) (fun _ _ _ hh h => h.of_heap hh) own started (by kernel_rfl) Tryd.func4
    (ChangeSpec.witness_shaped (enc := enc) (C := Tryd.checked) (os := os) (X := fun w _ => laidMetH Tryd.prog Nodes.laidL w) false (World.doorLaid Tryd.prog 24 os) #[.int .u64 0, .slice none 0 0] 8 rfl (World.shaped_of_RefB (by kernel_rfl) (by kernel_rfl)) (by kernel_rfl) (by kernel_rfl) (by kernel_rfl) (Nodes.door_met os _)) ?_
  intro W base args ds gs before hval0 hW _ _ hL _
  have hval : ∀ (j : Nat) t v, Tryd.f4.params[j]? = some t → args[j]? = some v → Value.okWide Tryd.prog W .any base t v := hval0
  have hW' := hW
  obtain ⟨p, q, hA0, hV, rfl, hfz, hnd⟩ := hW
  have hA : DataW.TrodAll enc Tryd.prog W 0 (fun _ => true) true Tryd.f4.params.toList args.toList ds p := hA0
  rw [Tryd.params4] at hA hval
  obtain ⟨v0, vs0, d0, ds0, p0, q0, hargs, rfl, rfl, h0, r0⟩ := trodAll_cons hA
  obtain ⟨v1, vs1, d1, ds1, p1, q1, rfl, rfl, rfl, h1, r1⟩ := trodAll_cons r0
  obtain ⟨rfl, rfl, rfl⟩ := trodAll_nil r1
  obtain rfl : args = #[v0, v1] := by cases args; simp_all
  obtain ⟨rfl, rfl⟩ := trodVars_none hV
  obtain ⟨a0, rfl, rfl, rfl, w0⟩ := open_int Tryd.underlying23 (hval 0 23 v0 rfl rfl) h0
  obtain ⟨a1, len1, cap1, rfl⟩ := okWide_slice Tryd.underlying22 (hval 1 22 v1 rfl rfl)
  have k1 := h1
  have lt1 : ∀ x ∈ p1, x.block < W.heap.size := by obtain ⟨m, hm⟩ := k1; exact DataW.trod_lt m _ _ _ hm
  obtain ⟨z1, w1⟩ : ∃ zs, IsRow .i64 W a1 len1 cap1 zs := by
    obtain ⟨fuel, hf⟩ := h1
    rcases open_ints Tryd.underlying22 Tryd.underlying3 (by kernel_rfl) hf with ⟨hcs, _⟩ | ⟨x, l, c, zs, hcs, _, hl, hm, hz, _, hcell, hwz⟩
    · simp [Value.cells] at hcs
      obtain ⟨rfl, rfl, rfl⟩ := hcs
      exact ⟨[], .inl ⟨rfl, rfl, rfl, rfl⟩⟩
    · simp [Value.cells] at hcs
      obtain ⟨rfl, rfl, rfl⟩ := hcs
      exact ⟨zs, .inr ⟨_, rfl, hl, hm, by simpa using hz, hcell, hwz⟩⟩
  clear hA0 hval0
  have hT := Nodes.tabs_of_laid hL
  refine (walk a0 a1 len1 cap1 z1 W w0 w1 hT).mono fun e W' ⟨he, bel⟩ => ?_
  subst he
  exact ⟨_, rfl, _, _, _, [], _, [], hW', trodAll_mk1 (shut_bool Tryd.underlying4 _), (trodAll_cons_mk (shut_int Tryd.underlying23 w0) (trodAll_cons_mk (Below.trod laidOut (by kernel_rfl) (of_decide_eq_true (by kernel_rfl)) k1 bel lt1) trodAll_mk0)), rfl, bel.frame _, fun h => by cases h⟩

theorem over : Rows.nodesChangeRow.holds Tryd.pinned (OpenSpec.ofChange Rows.nodesChangeSpec) :=
  OpenClaim.holds_of_wide 4 Tryd.f4 rfl rfl rfl rfl rfl rfl rfl ⟨rfl, rfl, rfl, rfl, rfl⟩ rfl rfl rfl rfl rfl (by kernel_rfl) Tryd.func4 (by kernel_rfl)
    (of_decide_eq_true (by kernel_rfl)) (by unfold Func.isWrapper; first | (rw [if_pos (by decide +kernel)]; kernel_rfl) | (rw [if_neg (by decide +kernel)]; exact ⟨rfl, rfl⟩))
    (fun os started H enc _ => lifted os started H enc)

theorem func_is {f : FuncId} (h : Tryd.prog.funcNamed Rows.nodesChangeRow.func = some f) : f = 4 :=
  Option.some.inj (h.symm.trans (show Tryd.prog.funcNamed Rows.nodesChangeRow.func = some 4 by kernel_rfl))
theorem proved : Rows.NodesChangeCardSaid :=
  Claim7.holds_tied_plain_at .later [] Rows.nodesChangeCard.laidKinds true Rows.nodesChangeCard.stood.harness false
    over (fun _ h => by cases h) (by kernel_rfl) (fun _ h => by cases h) nodesChange_row_tie rfl ⟨rfl, rfl⟩ (by kernel_rfl) rfl
    (fun f fn hf hfn => by
      obtain rfl := func_is hf
      obtain rfl : fn = Tryd.f4 := (Option.some.inj (Tryd.func4.symm.trans hfn)).symm
      exact ⟨by kernel_rfl, fun j t ht => by
        rw [Tryd.params4] at ht
        have hm : t ∈ [23, 22] := by simpa using Array.mem_of_getElem? ht
        have hall : ([23, 22].all fun u => !Tryd.prog.wantsStandIn u) = true := by kernel_rfl
        exact (show Tryd.prog.wantsStandIn t = false by simpa using List.all_eq_true.1 hall t hm)⟩)
    (by kernel_rfl)
#print axioms proved
end Go.Proofs.YtljkpcckfammmaaDoor.lawNodesChange
