/- Any array is a key's or none's as the document says, and any key comes back from its array. -/
import Derived.Test.YtpfnjippdjhfgaaDoorRows
import Derived.Test.YtpfnjippdjhfgaaDoorTie
import Derived.Test.YtpfnjippdjhfgaaDoorCards
import Derived.SevenTiedAt
import Derived.LaidMore
import Derived.Stop.Joined
import Derived.WalkKit
import Derived.ProofKit
import Derived.OpenShut
import Derived.ShutString
import Derived.ChangeOld
import Derived.Below
import Derived.Test.YtpfnjippdjhfgaaDoorKeyN
import Derived.Deep.Cut
namespace Go.Proofs.YtpfnjippdjhfgaaDoor.lawKeyArrays
open Go.ChangeShapes Go.WideShapes Go.ChangeAt Go.RowKit
open Go.ChangeMaps (open_string shut_string)
set_option linter.unusedVariables false

theorem own : ownKnob Tryd.prog.godebug = none := by kernel_rfl
theorem laidOut : laidOutB Tryd.prog = true := by kernel_rfl

/-! The walk: the Go text returns true and writes nothing that was there. -/
set_option maxRecDepth 100000 in
set_option maxHeartbeats 1000000 in
theorem walk (a0 : Int × Int × Int) (a1 : Key.Ky) (w : World) (w0 : (-9223372036854775808 ≤ a0.1 ∧ a0.1 ≤ 9223372036854775807) ∧ (-9223372036854775808 ≤ a0.2.1 ∧ a0.2.1 ≤ 9223372036854775807) ∧ (-9223372036854775808 ≤ a0.2.2 ∧ a0.2.2 ≤ 9223372036854775807)) (w1 : Key.ok a1) (hT : Key.Tabs w) :
    Calls Tryd.prog 4 #[Key.aval a0.1 a0.2.1 a0.2.2, Key.kval a1] w fun e w' => e = .returned (.bool true) ∧ Below w.heap.size w w' := by
  obtain ⟨a, b, c⟩ := a0
  obtain ⟨p, q, s⟩ := a1
  simp only at w0
  have hok : Key.ok (p, q, s) := w1
  unfold Key.ok at w1
  simp only at w1
  obtain ⟨w00, w01, w02⟩ := w0
  obtain ⟨-, w11, w12⟩ := w1
  obtain ⟨wb, hwb⟩ : ∃ wb, Hid (wb = (w.alloc (.cells #[.int .i64 a, .int .i64 b, .int .i64 c] 29)).alloc (.cells #[.int .i64 p, .int .i64 q, .int .u32 s] 24)) := ⟨_, Lib.hid rfl⟩
  obtain ⟨hsz, hb0, hcc⟩ := Key.arr_box w wb a b c (p, q, s) hwb.out
  have HB0 := Lib.hid hb0
  have HC := Lib.hid hcc
  try simp only at HC
  clear hb0 hcc
  have C1 := Lib.hid (fun W => Key.of_any a b c W)
  have C2 := Lib.hid (fun W => Key.array_any (p, q, s) hok W)
  have C3 := Lib.hid (fun W => Key.of_any p q s W)
  have HT := Lib.hid hT
  have hrefl : ∀ v, Key.eqK v v = true := fun v => by unfold Key.eqK; simp
  have hqs : Key.okA q s = decide (0 ≤ q ∧ q < 64) := by
    unfold Key.okA
    rw [decide_eq_true (show 0 ≤ s ∧ s ≤ 4294967295 from w12), Bool.and_true]
  obtain ⟨x, hx⟩ : ∃ x, Hid (x = Key.ofA a b c) := ⟨_, Lib.hid rfl⟩
  obtain ⟨z, hz⟩ : ∃ z, Hid (z = Key.ofA p q s) := ⟨_, Lib.hid rfl⟩
  obtain ⟨o, ho⟩ : ∃ o, Hid (o = Key.okA b c) := ⟨_, Lib.hid rfl⟩
  rw [← hx.out, ← ho.out] at C1
  obtain ⟨o2, ho2⟩ : ∃ o2, Hid (o2 = decide (0 ≤ q ∧ q < 64)) := ⟨_, Lib.hid rfl⟩
  rw [← hz.out, hqs, ← ho2.out] at C3
  obtain ⟨x1, x2, x3⟩ := x
  obtain ⟨z1, z2, z3⟩ := z
  simp only [Key.kval, Key.aval] at C1 C2 C3
  unfold Key.kval Key.aval
  clear hT
  go_enter Tryd.func4, Tryd.ntmps4
  go_upto_region 1 with fail
  rw [← hwb.out]
  obtain ⟨⟨c0, c1, c2⟩, d0, d1, d2⟩ := HC.out wb (Below.refl _ _)
  go_wp2_with fail
  refine (C1.out _).mono ?_; rintro e w2 ⟨rfl, hB2⟩
  obtain ⟨wx, hwx⟩ : ∃ wx, Hid (wx = w2.alloc (.cells #[.int .i64 x1, .int .i64 x2, .int .u32 x3] 24)) := ⟨_, Lib.hid rfl⟩
  have HBx : Hid (Below wb.heap.size wb wx) := Lib.hid (by rw [hwx.out]; exact hB2.trans ((Key.box_below _ _).mono hB2.size))
  have HFx : Hid (Key.Fst wx w2.heap.size (x1, x2, x3)) := Lib.hid (by rw [hwx.out]; exact Key.Fst.made w2 (x1, x2, x3))
  clear c0 c1 c2 d0 d1 d2 hB2
  obtain ⟨⟨c0, c1, c2⟩, d0, d1, d2⟩ := HC.out wx HBx.out
  go_upto_region 2 with fail
  rw [← hwx.out]
  go_cut [7] from 15 (fun v W => v = .bool o ∧ W = wx)
  case first =>
    by_cases h1 : 0 ≤ b
    · by_cases h2 : b < 64
      · by_cases h3 : 0 ≤ c
        · by_cases h4 : c ≤ 4294967295
          · have hv : Hid (o = true) := Lib.hid (by rw [ho.out]; unfold Key.okA; simp [h1, h2, h3, h4])
            go_wp2_with fail
            go_meet
            case rel => exact ⟨by rw [hv.out], rfl⟩
          · have hv : Hid (o = false) := Lib.hid (by rw [ho.out]; unfold Key.okA; simp [h4])
            go_wp2_with fail
            go_meet
            case rel => exact ⟨by rw [hv.out], rfl⟩
        · have hv : Hid (o = false) := Lib.hid (by rw [ho.out]; unfold Key.okA; simp [h3])
          go_wp2_with fail
          go_meet
          case rel => exact ⟨by rw [hv.out], rfl⟩
      · have hv : Hid (o = false) := Lib.hid (by rw [ho.out]; unfold Key.okA; simp [h2])
        go_wp2_with fail
        go_meet
        case rel => exact ⟨by rw [hv.out], rfl⟩
    · have hv : Hid (o = false) := Lib.hid (by rw [ho.out]; unfold Key.okA; simp [h1])
      go_wp2_with fail
      go_meet
      case rel => exact ⟨by rw [hv.out], rfl⟩
  case rest =>
    obtain ⟨rfl, rfl⟩ := hcut
    have HK : Hid (∀ W, Below wc.heap.size wc W → ((W.cell? ⟨w.heap.size, 0, none⟩ = some (.int .i64 a) ∧ W.cell? ⟨w.heap.size, 1, none⟩ = some (.int .i64 b) ∧ W.cell? ⟨w.heap.size, 2, none⟩ = some (.int .i64 c)) ∧
      (W.cell? ⟨w.heap.size + 1, 0, none⟩ = some (.int .i64 p) ∧ W.cell? ⟨w.heap.size + 1, 1, none⟩ = some (.int .i64 q) ∧ W.cell? ⟨w.heap.size + 1, 2, none⟩ = some (.int .u32 s))) ∧ (W.cell? ⟨w2.heap.size, 0, none⟩ = some (.int .i64 x1) ∧ W.cell? ⟨w2.heap.size, 1, none⟩ = some (.int .i64 x2) ∧ W.cell? ⟨w2.heap.size, 2, none⟩ = some (.int .u32 x3)) ∧ Below w.heap.size w W) := Lib.hid (fun W hW =>
        have h := HBx.out.trans (hW.mono HBx.out.size)
        ⟨HC.out W h, (HFx.out.below hW HFx.out.lt).cells, HB0.out.trans (h.mono HB0.out.size)⟩)
    have C2c := Lib.hid (C2.out wc)
    clear HC HBx HFx HB0 C1 hwx
    go_wp2_with fail
    refine (C2c.out).mono ?_; rintro e w3 ⟨rfl, hB3⟩
    go_wp2_with fail
    refine (C3.out _).mono ?_; rintro e w4 ⟨rfl, hB4⟩
    obtain ⟨wy, hwy⟩ : ∃ wy, Hid (wy = w4.alloc (.cells #[.int .i64 z1, .int .i64 z2, .int .u32 z3] 24)) := ⟨_, Lib.hid rfl⟩
    have HB4 := Lib.hid (hB3.trans (hB4.mono hB3.size))
    have HBy : Hid (Below wc.heap.size wc wy) := Lib.hid (by rw [hwy.out]; exact HB4.out.trans ((Key.box_below _ _).mono HB4.out.size))
    have HFy : Hid (Key.Fst wy w4.heap.size (z1, z2, z3)) := Lib.hid (by rw [hwy.out]; exact Key.Fst.made w4 (z1, z2, z3))
    have HKy : Hid (∀ W, Below wy.heap.size wy W → ((W.cell? ⟨w.heap.size, 0, none⟩ = some (.int .i64 a) ∧ W.cell? ⟨w.heap.size, 1, none⟩ = some (.int .i64 b) ∧ W.cell? ⟨w.heap.size, 2, none⟩ = some (.int .i64 c)) ∧
      (W.cell? ⟨w2.heap.size, 0, none⟩ = some (.int .i64 x1) ∧ W.cell? ⟨w2.heap.size, 1, none⟩ = some (.int .i64 x2) ∧ W.cell? ⟨w2.heap.size, 2, none⟩ = some (.int .u32 x3))) ∧ Below w.heap.size w W) := Lib.hid (fun W hW =>
        have h := HK.out W (HBy.out.trans (hW.mono HBy.out.size))
        ⟨⟨h.1.1, h.2.1⟩, h.2.2⟩)
    have HTy : Hid (Key.Tabs wy) := Lib.hid (HT.out.below (HKy.out wy (Below.refl _ _)).2)
    have hca := HK.out wy HBy.out
    obtain ⟨⟨⟨c0, c1, c2⟩, d0, d1, d2⟩, ⟨f0, f1, f2⟩, -⟩ := hca
    obtain ⟨g0, g1, g2⟩ := HFy.out.cells
    have CWk := Lib.hid (fun W (hW : Below wy.heap.size wy W) => (Key.works_any W (HTy.out.below hW)).mono fun e w' h => (⟨h.1, hW.trans (h.2.mono hW.size)⟩ : _ ∧ Below wy.heap.size wy w'))
    clear hB3 hB4 HB4 HBy HFy HK C2c
    simp only at g0 g1 g2
    go_upto_region 4 with fail
    rw [← hwy.out]
    go_cut [9, 55] from 33 (fun u v W => v = .bool false ∧ W = wy)
    case first =>
      by_cases h1 : 0 ≤ q
      · by_cases h2 : q < 64
        · have hn := decide_eq_true (show 0 ≤ q ∧ q < 64 from ⟨h1, h2⟩)
          have hzz : Hid ((z1, z2, z3) = (p, q, s)) := Lib.hid (by
            rw [hz.out]; unfold Key.ofA; rw [hqs, hn]; rfl)
          have he : Key.eqK (z1, z2, z3) (p, q, s) = true := by rw [hzz.out]; exact hrefl _
          obtain rfl : o2 = true := by rw [ho2.out, hn]
          clear hzz
          go_wp2_with fail
          go_meet
          case rel => exact ⟨rfl, rfl⟩
        · go_wp2_with fail
          go_meet
          case rel => exact ⟨rfl, rfl⟩
      · go_wp2_with fail
        go_meet
        case rel => exact ⟨rfl, rfl⟩
    case rest =>
      obtain ⟨rfl, rfl⟩ := hcut
      clear c0 c1 c2 d0 d1 d2 f0 f1 f2 g0 g1 g2
      cases o with
      | false =>
        have hx0 : Hid (((x1, x2, x3) : Key.Ky) = (0, 0, 0)) := Lib.hid (by rw [hx.out]; unfold Key.ofA; rw [← ho.out]; rfl)
        obtain ⟨⟨-, f0, f1, f2⟩, -⟩ := HKy.out wc (Below.refl _ _)
        have he : Key.eqK (x1, x2, x3) (0, 0, 0) = true := by rw [hx0.out]; exact hrefl _
        clear hx0
        go_wp2_with fail
        refine (CWk.out _ (Below.refl _ _)).mono ?_; rintro e w5 ⟨rfl, hB5⟩
        go_wp2_with fail
        go_ret
        exact ⟨rfl, (HKy.out w5 hB5).2⟩
      | true =>
        have hx0 : ((x1, x2, x3) : Key.Ky) = (a, b, c) := by rw [hx.out]; unfold Key.ofA; rw [← ho.out]; rfl
        simp only [Prod.mk.injEq] at hx0
        obtain ⟨rfl, rfl, rfl⟩ := hx0
        have hbd : (0 ≤ x2 ∧ x2 < 64) ∧ (0 ≤ x3 ∧ x3 ≤ 4294967295) := by
          have := ho.out
          unfold Key.okA at this
          simpa using this.symm
        have CA : Hid (∀ W, Below wc.heap.size wc W → Calls Tryd.prog 16 #[.agg #[.int .i64 x1, .int .i64 x2, .int .u32 x3]] W fun e w' => e = .returned (.agg #[.int .i64 x1, .int .i64 x2, .int .i64 x3]) ∧ Below wc.heap.size wc w') := Lib.hid (fun W hW => (Key.array_any (x1, x2, x3) (by unfold Key.ok; simp only; omega) W).mono fun e w' h => ⟨h.1, hW.trans (h.2.mono hW.size)⟩)
        have hw : IntKind.u32.wrap x3 = x3 := by rw [IntKind.wrap_u32]; omega
        have he := hrefl (x1, x2, x3)
        have h3 := fun W => Key.eq3 x1 x2 x3 W
        have HKA := Lib.hid (fun W hW => (HKy.out W hW).1)
        obtain ⟨⟨c0, c1, c2⟩, f0, f1, f2⟩ := HKA.out wc (Below.refl _ _)
        go_upto_region 8 with fail
        refine wp_region_noPanic ?_
        go_region_held_law (fun W => Below wc.heap.size wc W ∧ (W.cell? ⟨w.heap.size, 0, none⟩ = some (.int .i64 x1) ∧ W.cell? ⟨w.heap.size, 1, none⟩ = some (.int .i64 x2) ∧ W.cell? ⟨w.heap.size, 2, none⟩ = some (.int .i64 x3)) ∧ (W.cell? ⟨w2.heap.size, 0, none⟩ = some (.int .i64 x1) ∧ W.cell? ⟨w2.heap.size, 1, none⟩ = some (.int .i64 x2) ∧ W.cell? ⟨w2.heap.size, 2, none⟩ = some (.int .u32 x3))) ((refine ⟨?_, HKA.out _ ?_⟩ <;> (first | assumption | exact (Below.refl _ _) | exact (Below.refl _ _).drew)))
          (first
            | (go_at_call 16; (with_reducible refine (CA.out _ ?_).mono ?_); (focus (first | assumption | exact (Below.refl _ _).drew | exact (‹Below wc.heap.size wc _ ∧ _›).1)); rintro e w9 ⟨rfl, hB9⟩)
            | (go_at_call 14; (with_reducible refine (CWk.out _ ?_).mono ?_); (focus (first | assumption | exact (Below.refl _ _).drew | exact (‹Below wc.heap.size wc _ ∧ _›).1)); rintro e w8 ⟨rfl, hB8⟩))
        all_goals
          refine NoPanic.normal ?_
          go_wp2_with fail
          go_ret
          exact ⟨rfl, (HKy.out _ (‹Below wc.heap.size wc _ ∧ _›).1).2⟩

set_option maxRecDepth 100000 in
theorem lifted (os : Os) (started : os.Started) (H : Type) (enc : TypeId × Value → H) :
    ReturnsInHanded {} Tryd.checked os 4 .any (fun w args => (Rows.keyArraysSpec.pre enc Tryd.prog Tryd.f4 [] false w args ∧ laidMetH Tryd.prog Key.laidL w) ∧ sizedMet enc Tryd.prog Tryd.f4 (OpenSpec.ofChange Rows.keyArraysSpec) false w args) (Rows.keyArraysSpec.post enc Tryd.prog Tryd.f4 false true false false) := by
  refine returnsInHanded_of_change_and (C := Tryd.checked) (X := fun w _ => laidMetH Tryd.prog Key.laidL w) (fun _ _ _ hh h => h.of_heap hh) own started (by kernel_rfl) Tryd.func4
    (ChangeSpec.witness_shaped (enc := enc) (C := Tryd.checked) (os := os) (X := fun w _ => laidMetH Tryd.prog Key.laidL w) false (World.doorLaid Tryd.prog 24 os) #[.agg #[.int .i64 0, .int .i64 0, .int .i64 0], .agg #[.int .i64 0, .int .i64 0, .int .u32 0]] 8 rfl (World.shaped_of_RefB (by kernel_rfl) (by kernel_rfl)) (by kernel_rfl) (by kernel_rfl) (by kernel_rfl) (Key.door_met os _)) ?_
  intro W base args ds gs before hval0 hW _ _ hL _
  have hval : ∀ (j : Nat) t v, Tryd.f4.params[j]? = some t → args[j]? = some v → Value.okWide Tryd.prog W .any base t v := hval0
  have hW' := hW
  obtain ⟨p, q, hA0, hV, rfl, hfz, hnd⟩ := hW
  have hA : DataW.TrodAll enc Tryd.prog W 0 (fun _ => true) true Tryd.f4.params.toList args.toList ds p := hA0
  rw [Tryd.params4] at hA hval
  obtain ⟨v0, vs0, d0, ds0, p0, q0, hargs, rfl, rfl, h0, r0⟩ := trodAll_cons hA
  obtain ⟨v1, vs1, d1, ds1, p1, q1, rfl, rfl, rfl, h1, r1⟩ := trodAll_cons r0
  obtain ⟨rfl, rfl, rfl⟩ := trodAll_nil r1
  obtain rfl : args = #[v0, v1] := by cases args; simp_all
  obtain ⟨rfl, rfl⟩ := trodVars_none hV
  have k0 := h0
  have lt0 : ∀ x ∈ p0, x.block < W.heap.size := by obtain ⟨m, hm⟩ := k0; exact DataW.trod_lt m _ _ _ hm
  obtain ⟨a0, rfl, w0⟩ := Key.open_arr3 (hval 0 29 v0 rfl rfl) h0
  have k1 := h1
  have lt1 : ∀ x ∈ p1, x.block < W.heap.size := by obtain ⟨m, hm⟩ := k1; exact DataW.trod_lt m _ _ _ hm
  obtain ⟨a1, rfl, w1⟩ := Key.open_key (hval 1 24 v1 rfl rfl) h1
  clear hA0 hval0
  have hT := Key.tabs_of_laid hL
  refine (walk a0 a1 W w0 w1 hT).mono fun e W' ⟨he, bel⟩ => ?_
  subst he
  exact ⟨_, rfl, _, _, _, [], _, [], hW', trodAll_mk1 (shut_bool Tryd.underlying4 _), (trodAll_cons_mk (Below.trod laidOut (by kernel_rfl) (of_decide_eq_true (by kernel_rfl)) k0 bel lt0) (trodAll_cons_mk (Below.trod laidOut (by kernel_rfl) (of_decide_eq_true (by kernel_rfl)) k1 bel lt1) trodAll_mk0)), rfl, bel.frame _, fun h => by cases h⟩

theorem over : Rows.keyArraysRow.holds Tryd.pinned (OpenSpec.ofChange Rows.keyArraysSpec) :=
  OpenClaim.holds_of_wide 4 Tryd.f4 rfl rfl rfl rfl rfl rfl rfl ⟨rfl, rfl, rfl, rfl, rfl⟩ rfl rfl rfl rfl rfl (by kernel_rfl) Tryd.func4 (by kernel_rfl)
    (of_decide_eq_true (by kernel_rfl)) (by unfold Func.isWrapper; first | (rw [if_pos (by decide +kernel)]; kernel_rfl) | (rw [if_neg (by decide +kernel)]; exact ⟨rfl, rfl⟩))
    (fun os started H enc _ => lifted os started H enc)

theorem func_is {f : FuncId} (h : Tryd.prog.funcNamed Rows.keyArraysRow.func = some f) : f = 4 :=
  Option.some.inj (h.symm.trans (show Tryd.prog.funcNamed Rows.keyArraysRow.func = some 4 by kernel_rfl))
theorem proved : Rows.KeyArraysCardSaid :=
  Claim7.holds_tied_plain_at .later [] Rows.keyArraysCard.laidKinds true Rows.keyArraysCard.stood.harness false
    over (fun _ h => by cases h) (by kernel_rfl) (fun _ h => by cases h) keyArrays_row_tie rfl ⟨rfl, rfl⟩ (by kernel_rfl) rfl
    (fun f fn hf hfn => by
      obtain rfl := func_is hf
      obtain rfl : fn = Tryd.f4 := (Option.some.inj (Tryd.func4.symm.trans hfn)).symm
      exact ⟨by kernel_rfl, fun j t ht => by
        rw [Tryd.params4] at ht
        have hm : t ∈ [29, 24] := by simpa using Array.mem_of_getElem? ht
        have hall : ([29, 24].all fun u => !Tryd.prog.wantsStandIn u) = true := by kernel_rfl
        exact (show Tryd.prog.wantsStandIn t = false by simpa using List.all_eq_true.1 hall t hm)⟩)
    (by kernel_rfl)
#print axioms proved
end Go.Proofs.YtpfnjippdjhfgaaDoor.lawKeyArrays
