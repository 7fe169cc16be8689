/- Any bytes, sealed, are as the document says, and good; and any bytes are good or not as it says. -/
import Derived.Test.YtgacljanapmnfaaDoorRows
import Derived.Test.YtgacljanapmnfaaDoorTie
import Derived.Test.YtgacljanapmnfaaDoorCards
import Derived.SevenTiedAt
import Derived.LaidMore
import Derived.Stop.Joined
import Derived.WalkKit
import Derived.ProofKit
import Derived.OpenShut
import Derived.ShutString
import Derived.ChangeOld
import Derived.Below
import Derived.Test.YtgacljanapmnfaaDoorCrcE
import Derived.Deep.RegionHeld3
import Derived.Deep.RegionHeldLaw
namespace Go.Proofs.YtgacljanapmnfaaDoor.lawCrcSeals
open Go.ChangeShapes Go.WideShapes Go.ChangeAt Go.RowKit
open Go.ChangeMaps (open_string shut_string)
set_option linter.unusedVariables false

theorem own : ownKnob Tryd.prog.godebug = none := by kernel_rfl
theorem laidOut : laidOutB Tryd.prog = true := by kernel_rfl

/-- What the walk is told of a slice of integers that came in. -/
def IsRow (k : IntKind) (w : World) (a : Option Addr) (len cap : Nat) (zs : List Int) : Prop :=
  (a = none ∧ len = 0 ∧ cap = 0 ∧ zs = []) ∨
  ∃ x, a = some x ∧ len ≤ cap ∧ cap ≤ maxLen ∧ zs.length = cap ∧ (∀ i, i < zs.length → w.cell? (x.add i) = some (.int k (zs.getD i 0))) ∧ ∀ n ∈ zs, (Lit.int k n).wf = true

/-! The walk: the Go text returns true and writes nothing that was there. -/
set_option maxRecDepth 100000 in
set_option maxHeartbeats 1000000 in
theorem walk (a0 : Option Addr) (len0 cap0 : Nat) (z0 : List Int) (a1 : Option Addr) (len1 cap1 : Nat) (z1 : List Int) (w : World) (w0 : IsRow .u8 w a0 len0 cap0 z0) (w1 : IsRow .u8 w a1 len1 cap1 z1) (hT : Crc.Tabs w) :
    Calls Tryd.prog 7 #[.slice a0 len0 cap0, .slice a1 len1 cap1] w fun e w' => e = .returned (.bool true) ∧ Below w.heap.size w w' := by
  obtain ⟨x0, HX0, HXL0, hlc0, hcm0, HXN0, hxs0⟩ := Byt.rd_of_row w0
  have hl0 := HXL0.out
  have CC0 : Hid (∀ W, Below w.heap.size w W → Calls Tryd.prog 9 #[.slice a0 len0 cap0] W (Byt.BytesPost (x0.take 300) W)) := Lib.hid (fun W hB => Crc.cut_any a0 len0 cap0 x0 W hl0 hlc0 hcm0 (HX0.out.below hB) HXN0.out hxs0)
  have hk0 : (x0.take 300).length ≤ 300 := by rw [List.length_take]; omega
  clear w0 HX0 HXL0 HXN0 hxs0 hl0
  generalize x0.take 300 = y0 at *
  obtain ⟨x1, HX1, HXL1, hlc1, hcm1, HXN1, hxs1⟩ := Byt.rd_of_row w1
  have hl1 := HXL1.out
  have CC1 : Hid (∀ W, Below w.heap.size w W → Calls Tryd.prog 9 #[.slice a1 len1 cap1] W (Byt.BytesPost (x1.take 300) W)) := Lib.hid (fun W hB => Crc.cut_any a1 len1 cap1 x1 W hl1 hlc1 hcm1 (HX1.out.below hB) HXN1.out hxs1)
  have hk1 : (x1.take 300).length ≤ 300 := by rw [List.length_take]; omega
  clear w1 HX1 HXL1 HXN1 hxs1 hl1
  generalize x1.take 300 = y1 at *
  go_enter Tryd.func7, Tryd.ntmps7
  go_wp2_with fail
  refine (CC0.out _ (Below.refl _ _)).mono ?_; rintro e w1 ⟨ad, cap, rfl, hown, hB1⟩
  have O1 := Lib.hid hown
  clear hown
  go_wp2_with fail
  refine (CC1.out _ hB1).mono ?_; rintro e w2 ⟨bd, bcap, rfl, hown, hB2⟩
  have hB12 := hB1.trans (hB2.mono hB1.size)
  obtain ⟨p1, p2, p3, -⟩ := O1.out.pos
  obtain ⟨q1, q2, q3, -⟩ := hown.pos
  unfold maxLen at p2 q2
  have C1 : Hid (∀ W, Below w2.heap.size w2 W → Calls Tryd.prog 16 #[.slice ad y0.length cap] W (Crc.SealPost (Crc.sealB y0) w2 W)) := Lib.hid (fun W hW => Crc.sealed_post hW (Crc.seal_any ad y0.length cap y0 W rfl (by omega) ((O1.out.rd.1.below hB2).below hW) p3 p1 (hT.below (hB12.trans (hW.mono hB12.size)))))
  have C2 : Hid (∀ W, Below w2.heap.size w2 W → Calls Tryd.prog 17 #[.slice ad y0.length cap] W (Crc.SealPost (Crc.sealB y0) w2 W)) := Lib.hid (fun W hW => Crc.sealed_post hW (Crc.rseal_any ad y0.length cap y0 W rfl (by omega) ((O1.out.rd.1.below hB2).below hW) p3 p1))
  have C4 : Hid (∀ W, Below w2.heap.size w2 W → Calls Tryd.prog 18 #[.slice bd y1.length bcap] W fun e w' => e = .returned (.bool (Crc.goodB y1)) ∧ Below w2.heap.size w2 w') := Lib.hid (fun W hW => (Crc.good_any bd y1.length bcap y1 W rfl q1 (by omega) (hown.rd.1.below hW) (hT.below (hB12.trans (hW.mono hB12.size)))).mono fun e w' h => ⟨h.1, hW.trans (h.2.mono hW.size)⟩)
  have C5 : Hid (∀ W, Below w2.heap.size w2 W → Calls Tryd.prog 19 #[.slice bd y1.length bcap] W fun e w' => e = .returned (.bool (Crc.goodB y1)) ∧ Below w2.heap.size w2 w') := Lib.hid (fun W hW => (Crc.rgood_any bd y1.length bcap y1 W rfl q1 (by omega) (by omega) (hown.rd.1.below hW)).mono fun e w' h => ⟨h.1, hW.trans (h.2.mono hW.size)⟩)
  have C6 : Hid (∀ W, Below w2.heap.size w2 W → Calls Tryd.prog 12 #[] W fun e w' => e = .returned (.bool true) ∧ Below w2.heap.size w2 w') := Lib.hid (fun W hW => (Crc.works_any W (hT.below (hB12.trans (hW.mono hB12.size)))).mono fun e w' h => ⟨h.1, hW.trans (h.2.mono hW.size)⟩)
  have CG : Hid (∀ W ad4 cap4 base, Below w2.heap.size w2 W → Byt.OwnB W base (.slice ad4 (Crc.sealB y0).length cap4) (Crc.sealB y0) → Calls Tryd.prog 18 #[.slice ad4 (Crc.sealB y0).length cap4] W fun e w' => e = .returned (.bool true) ∧ Below w2.heap.size w2 w') :=
    Lib.hid (fun W ad4 cap4 base hW h => (Crc.good_own ad4 cap4 (Crc.sealB y0) W base h (hT.below (hB12.trans (hW.mono hB12.size)))).mono fun e w' h' => ⟨by rw [h'.1, Crc.good_seal], hW.trans (h'.2.mono hW.size)⟩)
  generalize Crc.goodB y1 = g at *
  generalize Crc.sealB y0 = z at *
  have HB12 := Lib.hid hB12
  clear p1 p2 p3 q1 q2 q3 hown O1 hB1 hB2 hT hB12 CC0 CC1 hk0 hk1
  go_wp2_with fail
  refine wp_region_noPanic ?_
  go_region_held_law (fun W => Below w2.heap.size w2 W) ((first | assumption | exact (Below.refl _ _).drew))
    (first
      | (go_at_call 16; (with_reducible refine (C1.out _ ?_).mono ?_); (focus assumption); rintro e w3 ⟨ad3, cap3, rfl, hown3, hB3, hB23⟩; have hR3 := Byt.OwnB.str hown3 (Below.refl _ _))
      | (go_at_call 17; (with_reducible refine (C2.out _ ?_).mono ?_); (focus assumption); rintro e w4 ⟨ad4, cap4, rfl, hown4, hB4, hB24⟩; have hR4 := Byt.OwnB.str hown4 (Below.refl _ _); (try (have hR34 := Byt.OwnB.str hown3 hB4)); have CG4 := Lib.hid (CG.out _ _ _ _ hB24 hown4))
      | (go_at_call 18; (first | ((with_reducible refine (CG4.out).mono ?_); rintro e w5 ⟨rfl, hB5⟩) | ((with_reducible refine (C4.out _ ?_).mono ?_); (focus assumption); rintro e w6 ⟨rfl, hB6⟩)))
      | (go_at_call 19; (with_reducible refine (C5.out _ ?_).mono ?_); (focus assumption); rintro e w7 ⟨rfl, hB7⟩)
      | (go_at_call 12; (with_reducible refine (C6.out _ ?_).mono ?_); (focus assumption); rintro e w8 ⟨rfl, hB8⟩))
  all_goals
    refine NoPanic.normal ?_
    go_wp2_with fail
    go_ret
    exact ⟨rfl, HB12.out.trans ((by assumption : Below w2.heap.size w2 _).mono HB12.out.size)⟩

set_option maxRecDepth 100000 in
theorem lifted (os : Os) (started : os.Started) (H : Type) (enc : TypeId × Value → H) :
    ReturnsInHanded {} Tryd.checked os 7 .any (fun w args => (Rows.crcSealsSpec.pre enc Tryd.prog Tryd.f7 [] false w args ∧ laidMetH Tryd.prog Crc.laidL w) ∧ sizedMet enc Tryd.prog Tryd.f7 (OpenSpec.ofChange Rows.crcSealsSpec) false w args) (Rows.crcSealsSpec.post enc Tryd.prog Tryd.f7 false true false false) := by
  refine returnsInHanded_of_change_and (C := Tryd.checked) (X := fun w _ => laidMetH Tryd.prog Crc.laidL w) (fun _ _ _ hh h => h.of_heap hh) own started (by kernel_rfl) Tryd.func7
    (ChangeSpec.witness_shaped (enc := enc) (C := Tryd.checked) (os := os) (X := fun w _ => laidMetH Tryd.prog Crc.laidL w) false (World.doorLaid Tryd.prog 33 os) #[.slice none 0 0, .slice none 0 0] 8 rfl (World.shaped_of_RefB (by kernel_rfl) (by kernel_rfl)) (by kernel_rfl) (by kernel_rfl) (by kernel_rfl) (Crc.door_met os _)) ?_
  intro W base args ds gs before hval0 hW _ _ hL _
  have hval : ∀ (j : Nat) t v, Tryd.f7.params[j]? = some t → args[j]? = some v → Value.okWide Tryd.prog W .any base t v := hval0
  have hW' := hW
  obtain ⟨p, q, hA0, hV, rfl, hfz, hnd⟩ := hW
  have hA : DataW.TrodAll enc Tryd.prog W 0 (fun _ => true) true Tryd.f7.params.toList args.toList ds p := hA0
  rw [Tryd.params7] at hA hval
  obtain ⟨v0, vs0, d0, ds0, p0, q0, hargs, rfl, rfl, h0, r0⟩ := trodAll_cons hA
  obtain ⟨v1, vs1, d1, ds1, p1, q1, rfl, rfl, rfl, h1, r1⟩ := trodAll_cons r0
  obtain ⟨rfl, rfl, rfl⟩ := trodAll_nil r1
  obtain rfl : args = #[v0, v1] := by cases args; simp_all
  obtain ⟨rfl, rfl⟩ := trodVars_none hV
  obtain ⟨a0, len0, cap0, rfl⟩ := okWide_slice Tryd.underlying22 (hval 0 22 v0 rfl rfl)
  have k0 := h0
  have lt0 : ∀ x ∈ p0, x.block < W.heap.size := by obtain ⟨m, hm⟩ := k0; exact DataW.trod_lt m _ _ _ hm
  obtain ⟨z0, w0⟩ : ∃ zs, IsRow .u8 W a0 len0 cap0 zs := by
    obtain ⟨fuel, hf⟩ := h0
    rcases open_ints Tryd.underlying22 Tryd.underlying5 (by kernel_rfl) hf with ⟨hcs, _⟩ | ⟨x, l, c, zs, hcs, _, hl, hm, hz, _, hcell, hwz⟩
    · simp [Value.cells] at hcs
      obtain ⟨rfl, rfl, rfl⟩ := hcs
      exact ⟨[], .inl ⟨rfl, rfl, rfl, rfl⟩⟩
    · simp [Value.cells] at hcs
      obtain ⟨rfl, rfl, rfl⟩ := hcs
      exact ⟨zs, .inr ⟨_, rfl, hl, hm, by simpa using hz, hcell, hwz⟩⟩
  obtain ⟨a1, len1, cap1, rfl⟩ := okWide_slice Tryd.underlying22 (hval 1 22 v1 rfl rfl)
  have k1 := h1
  have lt1 : ∀ x ∈ p1, x.block < W.heap.size := by obtain ⟨m, hm⟩ := k1; exact DataW.trod_lt m _ _ _ hm
  obtain ⟨z1, w1⟩ : ∃ zs, IsRow .u8 W a1 len1 cap1 zs := by
    obtain ⟨fuel, hf⟩ := h1
    rcases open_ints Tryd.underlying22 Tryd.underlying5 (by kernel_rfl) hf with ⟨hcs, _⟩ | ⟨x, l, c, zs, hcs, _, hl, hm, hz, _, hcell, hwz⟩
    · simp [Value.cells] at hcs
      obtain ⟨rfl, rfl, rfl⟩ := hcs
      exact ⟨[], .inl ⟨rfl, rfl, rfl, rfl⟩⟩
    · simp [Value.cells] at hcs
      obtain ⟨rfl, rfl, rfl⟩ := hcs
      exact ⟨zs, .inr ⟨_, rfl, hl, hm, by simpa using hz, hcell, hwz⟩⟩
  clear hA0 hval0
  have hT := Crc.tabs_of_laid hL
  refine (walk a0 len0 cap0 z0 a1 len1 cap1 z1 W w0 w1 hT).mono fun e W' ⟨he, bel⟩ => ?_
  subst he
  exact ⟨_, rfl, _, _, _, [], _, [], hW', trodAll_mk1 (shut_bool Tryd.underlying4 _), (trodAll_cons_mk (Below.trod laidOut (by kernel_rfl) (of_decide_eq_true (by kernel_rfl)) k0 bel lt0) (trodAll_cons_mk (Below.trod laidOut (by kernel_rfl) (of_decide_eq_true (by kernel_rfl)) k1 bel lt1) trodAll_mk0)), rfl, bel.frame _, fun h => by cases h⟩

theorem over : Rows.crcSealsRow.holds Tryd.pinned (OpenSpec.ofChange Rows.crcSealsSpec) :=
  OpenClaim.holds_of_wide 7 Tryd.f7 rfl rfl rfl rfl rfl rfl rfl ⟨rfl, rfl, rfl, rfl, rfl⟩ rfl rfl rfl rfl rfl (by kernel_rfl) Tryd.func7 (by kernel_rfl)
    (of_decide_eq_true (by kernel_rfl)) (by unfold Func.isWrapper; first | (rw [if_pos (by decide +kernel)]; kernel_rfl) | (rw [if_neg (by decide +kernel)]; exact ⟨rfl, rfl⟩))
    (fun os started H enc _ => lifted os started H enc)

theorem func_is {f : FuncId} (h : Tryd.prog.funcNamed Rows.crcSealsRow.func = some f) : f = 7 :=
  Option.some.inj (h.symm.trans (show Tryd.prog.funcNamed Rows.crcSealsRow.func = some 7 by kernel_rfl))
theorem proved : Rows.CrcSealsCardSaid :=
  Claim7.holds_tied_plain_at .later [] Rows.crcSealsCard.laidKinds true Rows.crcSealsCard.stood.harness false
    over (fun _ h => by cases h) (by kernel_rfl) (fun _ h => by cases h) crcSeals_row_tie rfl ⟨rfl, rfl⟩ (by kernel_rfl) rfl
    (fun f fn hf hfn => by
      obtain rfl := func_is hf
      obtain rfl : fn = Tryd.f7 := (Option.some.inj (Tryd.func7.symm.trans hfn)).symm
      exact ⟨by kernel_rfl, fun j t ht => by
        rw [Tryd.params7] at ht
        have hm : t ∈ [22, 22] := by simpa using Array.mem_of_getElem? ht
        have hall : ([22, 22].all fun u => !Tryd.prog.wantsStandIn u) = true := by kernel_rfl
        exact (show Tryd.prog.wantsStandIn t = false by simpa using List.all_eq_true.1 hall t hm)⟩)
    (by kernel_rfl)
#print axioms proved
end Go.Proofs.YtgacljanapmnfaaDoor.lawCrcSeals
