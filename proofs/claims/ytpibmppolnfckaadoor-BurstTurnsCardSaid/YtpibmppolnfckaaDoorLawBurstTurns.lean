/- Any bytes of which any bits are turned are as the document says, and those that were handed in stay. -/
import Derived.Test.YtpibmppolnfckaaDoorRows
import Derived.Test.YtpibmppolnfckaaDoorTie
import Derived.Test.YtpibmppolnfckaaDoorCards
import Derived.SevenTiedAt
import Derived.LaidMore
import Derived.Stop.Joined
import Derived.WalkKit
import Derived.ProofKit
import Derived.OpenShut
import Derived.ShutString
import Derived.ChangeOld
import Derived.Below
import Derived.Test.YtpibmppolnfckaaDoorBstG
import Derived.Deep.RegionHeld3
import Derived.Deep.RegionHeldLaw
namespace Go.Proofs.YtpibmppolnfckaaDoor.lawBurstTurns
open Go.ChangeShapes Go.WideShapes Go.ChangeAt Go.RowKit
open Go.ChangeMaps (open_string shut_string)
set_option linter.unusedVariables false

theorem own : ownKnob Tryd.prog.godebug = none := by kernel_rfl
theorem laidOut : laidOutB Tryd.prog = true := by kernel_rfl

/-- What the walk is told of a slice of integers that came in. -/
def IsRow (k : IntKind) (w : World) (a : Option Addr) (len cap : Nat) (zs : List Int) : Prop :=
  (a = none ∧ len = 0 ∧ cap = 0 ∧ zs = []) ∨
  ∃ x, a = some x ∧ len ≤ cap ∧ cap ≤ maxLen ∧ zs.length = cap ∧ (∀ i, i < zs.length → w.cell? (x.add i) = some (.int k (zs.getD i 0))) ∧ ∀ n ∈ zs, (Lit.int k n).wf = true

/-! The walk: the Go text returns true and writes nothing that was there. -/
set_option maxRecDepth 100000 in
set_option maxHeartbeats 1000000 in
theorem walk (a0 : Option Addr) (len0 cap0 : Nat) (z0 : List Int) (a1 : Int) (a2 : Int) (w : World) (w0 : IsRow .u8 w a0 len0 cap0 z0) (w1 : (Lit.int .u32 a1).wf = true) (w2 : (Lit.int .u32 a2).wf = true) (hT : Bst.TabZ w) :
    Calls Tryd.prog 3 #[.slice a0 len0 cap0, .int .u32 a1, .int .u32 a2] w fun e w' => e = .returned (.bool true) ∧ Below w.heap.size w w' := by
  obtain ⟨l1, u1⟩ := bounds_u32 w1
  obtain ⟨p, rfl⟩ := Int.eq_ofNat_of_zero_le l1
  have hp : p < 4294967296 := by omega
  obtain ⟨l2, u2⟩ := bounds_u32 w2
  obtain ⟨m, rfl⟩ := Int.eq_ofNat_of_zero_le l2
  have hm : m < 4294967296 := by omega
  obtain ⟨x0, HX0, HXL0, hlc0, hcm0, HXN0, hxs0⟩ := Byt.rd_of_row w0
  have hl0 := HXL0.out
  have CC0 : Hid (∀ W, Below w.heap.size w W → Calls Tryd.prog 7 #[.slice a0 len0 cap0] W (Byt.BytesPost (x0.take 200) W)) := Lib.hid (fun W hB => Bst.cut_any a0 len0 cap0 x0 W hl0 hlc0 hcm0 (HX0.out.below hB) HXN0.out hxs0)
  have hk0 : (x0.take 200).length ≤ 200 := by rw [List.length_take]; omega
  clear w0 HX0 HXL0 HXN0 hxs0 hl0
  generalize x0.take 200 = y0 at *
  go_enter Tryd.func3, Tryd.ntmps3
  go_wp2_with fail
  refine (CC0.out _ (Below.refl _ _)).mono ?_; rintro e w1 ⟨ad, cap, rfl, hown, hB1⟩
  have O1 := Lib.hid hown
  have C0 := Lib.hid (Bst.cut_own ad cap y0 w1 w.heap.size hown hk0 w1 (Below.refl _ _))
  clear hown
  go_wp2_with fail
  refine (C0.out).mono ?_; rintro e w2 ⟨bd, bcap, rfl, hown, hB2⟩
  have hB12 := hB1.trans (hB2.mono hB1.size)
  obtain ⟨p1, p2, p3, -⟩ := O1.out.pos
  obtain ⟨q1, q2, q3, -⟩ := hown.pos
  have C1 : Hid (∀ W, Below w2.heap.size w2 W → Calls Tryd.prog 8 #[.slice ad y0.length cap, .int .u32 p, .int .u32 m] W (Bst.TPost (Bst.turnP y0 p m) w2 W)) := Lib.hid (fun W hW => Bst.turn_post hW (Bst.turn_any ad y0.length cap y0 p m W rfl (by omega) hp hm ((O1.out.rd.1.below hB2).below hW) p1 p3))
  have C2 : Hid (∀ W, Below w2.heap.size w2 W → Calls Tryd.prog 9 #[.slice bd y0.length bcap, .int .u32 p, .int .u32 m] W (Bst.TPost (Bst.turnP y0 p m) w2 W)) := Lib.hid (fun W hW => Bst.turn_post hW (Bst.rturn_any bd y0.length bcap y0 p m W rfl (by omega) hp hm (hown.rd.1.below hW) q1))
  have C6 : Hid (∀ W, Below w2.heap.size w2 W → Calls Tryd.prog 10 #[] W fun e w' => e = .returned (.bool true) ∧ Below w2.heap.size w2 w') := Lib.hid (fun W hW => (Bst.bworks_any W (hT.below (hB12.trans (hW.mono hB12.size)))).mono fun e w' h => ⟨h.1, hW.trans (h.2.mono hW.size)⟩)
  have HS : Hid (∀ W, Below w2.heap.size w2 W → Below w2.heap.size w2 W ∧ (convert 22 9 (.slice ad y0.length cap)).run Tryd.prog W = .ok (.string (Byt.strB y0)) W ∧ (convert 22 9 (.slice bd y0.length bcap)).run Tryd.prog W = .ok (.string (Byt.strB y0)) W) :=
    Lib.hid (fun W hW => ⟨hW, Byt.OwnB.str O1.out (hB2.trans (hW.mono hB2.size)), Byt.OwnB.str hown hW⟩)
  generalize Bst.turnP y0 p m = t at *
  have HB12 := Lib.hid hB12
  clear p1 p2 p3 q1 q2 q3 hown O1 hB1 hB2 hT hB12 CC0 hk0
  go_wp2_with fail
  refine wp_region_noPanic ?_
  go_region_held_law (fun W => Below w2.heap.size w2 W ∧ (convert 22 9 (.slice ad y0.length cap)).run Tryd.prog W = .ok (.string (Byt.strB y0)) W ∧ (convert 22 9 (.slice bd y0.length bcap)).run Tryd.prog W = .ok (.string (Byt.strB y0)) W) ((apply HS.out; first | assumption | exact (Below.refl _ _).drew))
    (first
      | (go_at_call 8; (with_reducible refine (C1.out _ ?_).mono ?_); (focus (first | assumption | exact (Below.refl _ _).drew)); rintro e w3 ⟨ad3, cap3, rfl, hown3, hB3, hB23⟩; have hR3 := Byt.OwnB.str hown3 (Below.refl _ _))
      | (go_at_call 9; (with_reducible refine (C2.out _ ?_).mono ?_); (focus (first | assumption | exact (Below.refl _ _).drew)); rintro e w4 ⟨ad4, cap4, rfl, hown4, hB4, hB24⟩; have hR4 := Byt.OwnB.str hown4 (Below.refl _ _); (try (have hR34 := Byt.OwnB.str hown3 hB4)))
      | (go_at_call 10; (with_reducible refine (C6.out _ ?_).mono ?_); (focus assumption); rintro e w8 ⟨rfl, hB8⟩))
  all_goals
    refine NoPanic.normal ?_
    go_wp2_with fail
    go_ret
    exact ⟨rfl, HB12.out.trans ((by assumption : Below w2.heap.size w2 _).mono HB12.out.size)⟩

set_option maxRecDepth 100000 in
theorem lifted (os : Os) (started : os.Started) (H : Type) (enc : TypeId × Value → H) :
    ReturnsInHanded {} Tryd.checked os 3 .any (fun w args => (Rows.burstTurnsSpec.pre enc Tryd.prog Tryd.f3 [] false w args ∧ laidMetH Tryd.prog Bst.laidL w) ∧ sizedMet enc Tryd.prog Tryd.f3 (OpenSpec.ofChange Rows.burstTurnsSpec) false w args) (Rows.burstTurnsSpec.post enc Tryd.prog Tryd.f3 false true false false) := by
  refine returnsInHanded_of_change_and (C := Tryd.checked) (X := fun w _ => laidMetH Tryd.prog Bst.laidL w) (fun _ _ _ hh h => h.of_heap hh) own started (by kernel_rfl) Tryd.func3
    (ChangeSpec.witness_shaped (enc := enc) (C := Tryd.checked) (os := os) (X := fun w _ => laidMetH Tryd.prog Bst.laidL w) false (World.doorLaid Tryd.prog 33 os) #[.slice none 0 0, .int .u32 0, .int .u32 0] 8 rfl (World.shaped_of_RefB (by kernel_rfl) (by kernel_rfl)) (by kernel_rfl) (by kernel_rfl) (by kernel_rfl) (Bst.door_met os _)) ?_
  intro W base args ds gs before hval0 hW _ _ hL _
  have hval : ∀ (j : Nat) t v, Tryd.f3.params[j]? = some t → args[j]? = some v → Value.okWide Tryd.prog W .any base t v := hval0
  have hW' := hW
  obtain ⟨p, q, hA0, hV, rfl, hfz, hnd⟩ := hW
  have hA : DataW.TrodAll enc Tryd.prog W 0 (fun _ => true) true Tryd.f3.params.toList args.toList ds p := hA0
  rw [Tryd.params3] at hA hval
  obtain ⟨v0, vs0, d0, ds0, p0, q0, hargs, rfl, rfl, h0, r0⟩ := trodAll_cons hA
  obtain ⟨v1, vs1, d1, ds1, p1, q1, rfl, rfl, rfl, h1, r1⟩ := trodAll_cons r0
  obtain ⟨v2, vs2, d2, ds2, p2, q2, rfl, rfl, rfl, h2, r2⟩ := trodAll_cons r1
  obtain ⟨rfl, rfl, rfl⟩ := trodAll_nil r2
  obtain rfl : args = #[v0, v1, v2] := by cases args; simp_all
  obtain ⟨rfl, rfl⟩ := trodVars_none hV
  obtain ⟨a0, len0, cap0, rfl⟩ := okWide_slice Tryd.underlying22 (hval 0 22 v0 rfl rfl)
  have k0 := h0
  have lt0 : ∀ x ∈ p0, x.block < W.heap.size := by obtain ⟨m, hm⟩ := k0; exact DataW.trod_lt m _ _ _ hm
  obtain ⟨z0, w0⟩ : ∃ zs, IsRow .u8 W a0 len0 cap0 zs := by
    obtain ⟨fuel, hf⟩ := h0
    rcases open_ints Tryd.underlying22 Tryd.underlying5 (by kernel_rfl) hf with ⟨hcs, _⟩ | ⟨x, l, c, zs, hcs, _, hl, hm, hz, _, hcell, hwz⟩
    · simp [Value.cells] at hcs
      obtain ⟨rfl, rfl, rfl⟩ := hcs
      exact ⟨[], .inl ⟨rfl, rfl, rfl, rfl⟩⟩
    · simp [Value.cells] at hcs
      obtain ⟨rfl, rfl, rfl⟩ := hcs
      exact ⟨zs, .inr ⟨_, rfl, hl, hm, by simpa using hz, hcell, hwz⟩⟩
  obtain ⟨a1, rfl, rfl, rfl, w1⟩ := open_int Tryd.underlying23 (hval 1 23 v1 rfl rfl) h1
  obtain ⟨a2, rfl, rfl, rfl, w2⟩ := open_int Tryd.underlying23 (hval 2 23 v2 rfl rfl) h2
  clear hA0 hval0
  have hT := Bst.tabs_of_laid hL
  refine (walk a0 len0 cap0 z0 a1 a2 W w0 w1 w2 hT).mono fun e W' ⟨he, bel⟩ => ?_
  subst he
  exact ⟨_, rfl, _, _, _, [], _, [], hW', trodAll_mk1 (shut_bool Tryd.underlying4 _), (trodAll_cons_mk (Below.trod laidOut (by kernel_rfl) (of_decide_eq_true (by kernel_rfl)) k0 bel lt0) (trodAll_cons_mk (shut_int Tryd.underlying23 w1) (trodAll_cons_mk (shut_int Tryd.underlying23 w2) trodAll_mk0))), rfl, bel.frame _, fun h => by cases h⟩

theorem over : Rows.burstTurnsRow.holds Tryd.pinned (OpenSpec.ofChange Rows.burstTurnsSpec) :=
  OpenClaim.holds_of_wide 3 Tryd.f3 rfl rfl rfl rfl rfl rfl rfl ⟨rfl, rfl, rfl, rfl, rfl⟩ rfl rfl rfl rfl rfl (by kernel_rfl) Tryd.func3 (by kernel_rfl)
    (of_decide_eq_true (by kernel_rfl)) (by unfold Func.isWrapper; first | (rw [if_pos (by decide +kernel)]; kernel_rfl) | (rw [if_neg (by decide +kernel)]; exact ⟨rfl, rfl⟩))
    (fun os started H enc _ => lifted os started H enc)

theorem func_is {f : FuncId} (h : Tryd.prog.funcNamed Rows.burstTurnsRow.func = some f) : f = 3 :=
  Option.some.inj (h.symm.trans (show Tryd.prog.funcNamed Rows.burstTurnsRow.func = some 3 by kernel_rfl))
theorem proved : Rows.BurstTurnsCardSaid :=
  Claim7.holds_tied_plain_at .later [] Rows.burstTurnsCard.laidKinds true Rows.burstTurnsCard.stood.harness false
    over (fun _ h => by cases h) (by kernel_rfl) (fun _ h => by cases h) burstTurns_row_tie rfl ⟨rfl, rfl⟩ (by kernel_rfl) rfl
    (fun f fn hf hfn => by
      obtain rfl := func_is hf
      obtain rfl : fn = Tryd.f3 := (Option.some.inj (Tryd.func3.symm.trans hfn)).symm
      exact ⟨by kernel_rfl, fun j t ht => by
        rw [Tryd.params3] at ht
        have hm : t ∈ [22, 23, 23] := by simpa using Array.mem_of_getElem? ht
        have hall : ([22, 23, 23].all fun u => !Tryd.prog.wantsStandIn u) = true := by kernel_rfl
        exact (show Tryd.prog.wantsStandIn t = false by simpa using List.all_eq_true.1 hall t hm)⟩)
    (by kernel_rfl)
#print axioms proved
end Go.Proofs.YtpibmppolnfckaaDoor.lawBurstTurns
