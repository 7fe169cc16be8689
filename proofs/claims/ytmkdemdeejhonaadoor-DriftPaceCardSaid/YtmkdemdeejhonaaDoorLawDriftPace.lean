/- Clocks that go on by what they may are in pace, whatever they tell. -/
import Derived.Test.YtmkdemdeejhonaaDoorRows
import Derived.Test.YtmkdemdeejhonaaDoorTie
import Derived.Test.YtmkdemdeejhonaaDoorCards
import Derived.SevenTiedAt
import Derived.LaidMore
import Derived.Stop.Joined
import Derived.WalkKit
import Derived.ProofKit
import Derived.OpenShut
import Derived.ShutString
import Derived.ChangeOld
import Derived.Below
import Derived.Test.YtmkdemdeejhonaaDoorDrfI
import Derived.Test.YtmkdemdeejhonaaDoorDrfD
import Derived.Test.YtmkdemdeejhonaaDoorIntK
import Derived.Deep.CutBlock
import Derived.Deep.Cut
import Derived.BigRegion
namespace Go.Proofs.YtmkdemdeejhonaaDoor.lawDriftPace
open Go.ChangeShapes Go.WideShapes Go.ChangeAt Go.RowKit
open Go.ChangeMaps (open_string shut_string)
set_option linter.unusedVariables false

theorem own : ownKnob Tryd.prog.godebug = none := by kernel_rfl
theorem laidOut : laidOutB Tryd.prog = true := by kernel_rfl

/-! The walk: the Go text returns true and writes nothing that was there. -/
set_option linter.unusedSimpArgs false in
set_option maxRecDepth 100000 in
set_option maxHeartbeats 4000000 in
theorem walk (a0 : Int × Int × Int) (a1 : Int × Int) (a2 : Option Addr) (len2 cap2 : Nat) (z2 : List (Int × Int × Int)) (w : World) (w0 : Drf.ok3_u32 a0) (w1 : Drf.ok2_u8 a1) (w2 : Drf.S3_u8 w w.heap.size a2 len2 cap2 z2) (hT : Nodes.Tabs w) :
    Calls Tryd.prog 4 #[Drf.v3_u32 a0, Drf.v2_u8 a1, .slice a2 len2 cap2] w fun e w' => e = .returned (.bool true) ∧ Below w.heap.size w w' := by
  have HBY := Lib.hid (fun (i : Nat) (hi : i < len2) => Drf.by_cell w2 hi)
  have HT := Lib.hid hT
  obtain ⟨x0, x1, x2⟩ := a0
  obtain ⟨s, d⟩ := a1
  obtain ⟨o0, o1, o2⟩ := w0
  obtain ⟨o3, o4⟩ := w1
  obtain ⟨p0, p0'⟩ := bounds_u32 o0
  obtain ⟨p1, p1'⟩ := bounds_u32 o1
  obtain ⟨p2, p2'⟩ := bounds_u32 o2
  obtain ⟨s0, s1⟩ := Drf.byte_bd o3
  obtain ⟨d0, d1⟩ := Drf.byte_bd o4
  clear w2 hT o0 o1 o2 o3 o4
  unfold Drf.v3_u32 Drf.v2_u8
  dsimp only at *
  obtain ⟨w0', hw0⟩ : ∃ w0', Hid (w0' = (w.alloc (.cells #[.int .u32 x0, .int .u32 x1, .int .u32 x2] 42)).alloc (.cells #[.int .u8 s, .int .u8 d] 43)) := ⟨_, Lib.hid rfl⟩
  obtain ⟨hB0, hbox⟩ := Drf.box32 w w0' x0 x1 x2 s d hw0.out
  have HB0 := Lib.hid hB0
  have HBX := Lib.hid hbox
  clear hB0 hbox
  have q0 : ∀ x : Qui.Cls w0', x.V.cell? ⟨w.heap.size + 1, 0, none⟩ = some (.int .u8 s) := fun x => (HBX.out _ x.lies).2.2.2.1
  have q1 : ∀ x : Qui.Cls w0', x.V.cell? ⟨w.heap.size + 1, 1, none⟩ = some (.int .u8 d) := fun x => (HBX.out _ x.lies).2.2.2.2
  have y0 : IntKind.i64.wrap s = s := by rw [IntKind.wrap_i64]; omega
  have y1 : IntKind.i64.wrap d = d := by rw [IntKind.wrap_i64]; omega
  have y2 : IntKind.i64.wrap (s + d) = s + d := by rw [IntKind.wrap_i64]; omega
  have y3 : IntKind.i64.wrap x0 = x0 := by rw [IntKind.wrap_i64]; omega
  have y4 : IntKind.i64.wrap x1 = x1 := by rw [IntKind.wrap_i64]; omega
  have y5 : IntKind.i64.wrap x2 = x2 := by rw [IntKind.wrap_i64]; omega
  have CNW := Lib.hid (fun F W (hB : Below w.heap.size w W) => Drf.on_new 4611686018427387904 s F w W hB (HT.out.below hB))
  have C9 := Lib.hid (fun W (hB : Below w.heap.size w W) => Drf.works28_any W (HT.out.below hB))
  go_enter Tryd.func4, Tryd.ntmps4
  go_upto_region 1 with fail
  rw [← hw0.out]
  refine Qui.wp_region_quiet_below (by kernel_rfl) (by kernel_rfl) ?_
  repeat (go_big_quiet_step (fail))
  refine wpQuiet_nil ?_
  intro _ hw'
  obtain ⟨zz, rfl⟩ := hw'
  have HB1 := Lib.hid (HB0.out.trans (zz.lies.mono HB0.out.size))
  have HX1 := Lib.hid (fun W (hW : Below zz.V.heap.size zz.V W) => HBX.out W (zz.lies.trans (hW.mono zz.lies.size)))
  clear q0 q1 HBX HB0 hw0
  generalize zz.V = w1 at *
  clear zz
  obtain ⟨F, hF⟩ : ∃ F, s + d = F := ⟨_, rfl⟩
  rw [hF] at y2 ⊢
  have F0 : s ≤ F := by omega
  have F1 : F ≤ 510 := by omega
  have F2 : F - s ≤ 255 := by omega
  clear hF y1 d0 d1
  go_wp2_with fail
  refine (CNW.out F _ HB1.out).mono ?_; rintro e w2 ⟨g, rfl, hon, hB2⟩
  obtain ⟨r0, r1, r2, -, -⟩ := HX1.out w2 hB2
  have HON := Lib.hid (fun o => hon.later ((Below.refl w2.heap.size w2).alloc (Nat.le_refl _) o))
  have hown := hon.below.size
  have HOX : Hid (Drf.OX w g (Drf.wt0 4611686018427387904 s F) w2.heap.size [x0, x1, x2] (w2.alloc (.cells #[.int .i64 x0, .int .i64 x1, .int .i64 x2] 2))) := Lib.hid ⟨HON.out _, Rw.Blk.new w2 _ _, hown⟩
  have HPS : Hid (Drf.PS s F (Drf.wt0 4611686018427387904 s F) 0 [x0, x1, x2]) := Lib.hid (Drf.ps_start rfl (fun i hi => by
    match i, hi with
    | 0, _ => exact ⟨p0, p0'⟩
    | 1, _ => exact ⟨p1, p1'⟩
    | 2, _ => exact ⟨p2, p2'⟩))
  clear hon hB2 HON HX1 CNW HB1
  go_upto_block 0 with fail
  obtain ⟨X, hX⟩ : ∃ X, w2.heap.size = X := ⟨_, rfl⟩
  rw [hX] at HOX hown ⊢
  generalize w2.alloc (.cells #[.int .i64 x0, .int .i64 x1, .int .i64 x2] 2) = w3 at *
  clear hX r0 r1 r2 y3 y4 y5 p0 p0' p1 p1' p2 p2'
  have HTL := Lib.hid HT.out.2
  go_cut [11, 12] from 38 to 80 (fun _ _ W => Hid (∃ a k Z, Drf.PS s F a k Z ∧ Drf.OX w g a X Z W))
  case first =>
    go_wp2_with fail
    go_loopw [11] (fun iv W => ∃ (k : Nat) (a : Drf.Wt) (Z : List Int), k ≤ 40 ∧ iv = .int .i64 k ∧ Hid (Drf.PS s F a k Z) ∧ Hid (Drf.OX w g a X Z W)) (fun iv _ => 40 - (intOf iv).toNat)
    case atStart => exact ⟨0, _, _, by omega, rfl, HPS, HOX⟩
    case round =>
      clear HPS HOX
      obtain ⟨k, a, Z, hk, rfl, HP, HO⟩ := hrel
      generalize wr = W1 at *
      rcases (show ¬ (k < len2) ∨ (k < len2 ∧ ¬ (k < 40)) ∨ (k < len2 ∧ k < 40) by omega) with hx | ⟨hx, hx2⟩ | ⟨hx, hx2⟩
      · have z1 : decide ((k : Int) < (len2 : Int)) = false := decide_eq_false (by omega)
        have HE : Hid (∃ a k Z, Drf.PS s F a k Z ∧ Drf.OX w g a X Z W1) := Lib.hid ⟨a, k, Z, HP.out, HO.out⟩
        clear HP HO HBY C9 HT
        go_wp2_with fail
        go_meet
        case rel => exact HE
      · have z1 : decide ((k : Int) < (len2 : Int)) = true := decide_eq_true (by omega)
        have z2 : decide ((k : Int) < 40) = false := decide_eq_false (by omega)
        have HE : Hid (∃ a k Z, Drf.PS s F a k Z ∧ Drf.OX w g a X Z W1) := Lib.hid ⟨a, k, Z, HP.out, HO.out⟩
        clear HP HO HBY C9 HT
        go_wp2_with fail
        go_meet
        case rel => exact HE
      · have z1 : decide ((k : Int) < (len2 : Int)) = true := decide_eq_true (by omega)
        have z2 : decide ((k : Int) < 40) = true := decide_eq_true (by omega)
        obtain ⟨b, off, rfl, hb, hby⟩ := HBY.out k hx
        have HBY2 := Lib.hid hby
        have hxb : X ≠ b := by omega
        have hxb2 : b ≠ X := by omega
        have hlen := HP.out.len
        have CN := Lib.hid (fun l ad cap W (hl : l = Z) (hO : Drf.OX w g a X Z W) (hs : I64s.Sl W ad cap l) => show Calls Tryd.prog 9 #[.pointer (some ⟨g, 0, none⟩), .int .i64 (k : Int), .slice ad l.length cap, .int .u64 7] W fun e w' => e = .returned (.bool true) ∧ Drf.OX w g (Drf.nextW a ⟨(k : Int), Z, 7⟩) X Z w' from by
          subst hl
          have h1 := Drf.ox_note g a X l (k : Int) ad cap l 7 (by decide) HP.out.set (by rw [HP.out.apart]; decide) (by rw [HP.out.pace]; decide) w W hO hs
          rw [Drf.ps_note HP.out hx2] at h1
          exact h1)
        have hsl := (HO.out.later ((Below.refl W1.heap.size W1).alloc (Nat.le_refl _) (.cells #[] 2))).sl (by omega)
        have hown0 := Drf.own_lit0 W1
        rw [hlen] at hsl
        clear hby HBY C9 HT
        go_upto_region 7 with fail
        go_wp2_with (at_builtin; refine I64s.app_all rfl _ _ rfl W1.heap.size _ _ _ [] rfl hown0 (some ⟨X, 0, none⟩) 3 3 Z rfl hlen.symm hsl.rd (fun h => by cases h) (by rw [hlen]; decide) (by simp) ?_; intro l' ad' cap' w4 hl' hown4 hB4 _)
        have HB4 : Hid (Below W1.heap.size W1 w4) := Lib.hid (((Below.refl W1.heap.size W1).alloc (Nat.le_refl _) (.cells #[] 2)).trans hB4)
        refine (CN.out l' ad' cap' w4 (by simpa using hl'.out) (HO.out.later HB4.out) hown4.sl).mono ?_; rintro e w5 ⟨rfl, hO5⟩
        have HO5 := Lib.hid hO5
        have HBD := Lib.hid HP.out.bd
        have HNX := Lib.hid (fun (Z' : List Int) (hl : Z'.length = 3) hz => Drf.ps_next HP.out hx2 s0 F1 hl hz)
        clear hl' hown4 hB4 hO5 HB4 HO hsl hown0 CN HP z1 z2
        generalize Drf.nextW a ⟨(k : Int), Z, 7⟩ = a' at *
        go_wp2_with fail
        go_loopw [57, 12] (fun jv _ W => ∃ (q : Nat) (Z' : List Int), q ≤ 3 ∧ jv = .int .i64 q ∧ Hid (Drf.OX w g a' X Z' W) ∧ Hid (Z'.length = 3 ∧ ∀ i, i < 3 → (i < q → s ≤ Z'.getD i 0 - Z.getD i 0 ∧ Z'.getD i 0 - Z.getD i 0 ≤ F) ∧ (q ≤ i → Z'.getD i 0 = Z.getD i 0))) (fun jv _ _ => 3 - (intOf jv).toNat)
        case atStart => exact ⟨0, Z, by omega, rfl, HO5, Lib.hid ⟨hlen, fun i hi => ⟨fun h => absurd h (by omega), fun _ => rfl⟩⟩⟩
        case round =>
          clear HO5
          obtain ⟨q, Z', hq, rfl, HO, HZ⟩ := hrel
          generalize wr = W2 at *
          by_cases hq3 : q < 3
          · obtain ⟨hl3, hz⟩ := HZ.out
            obtain ⟨y, v0, v1, hcy⟩ := HBY2.out q hq3
            have cY := hcy W2 HO.out.on.below
            have cN := HO.out.cell (i := q) (by omega)
            have fN := HO.out.row.free q
            rw [(hz q hq3).2 (Nat.le_refl _)] at cN
            obtain ⟨g0, g1⟩ := HBD.out q hq3
            have hqi : (q : Int) < 3 := by omega
            have hq0 : (0 : Int) ≤ (q : Int) := by omega
            have hki : (k : Int) < (len2 : Int) := by omega
            obtain ⟨m, hm⟩ : ∃ m, y.tmod (F - s + 1) = m := ⟨_, rfl⟩
            obtain ⟨m0, m1⟩ := IntK.tmod_one y (F - s) v0 (by omega)
            rw [hm] at m0 m1
            obtain ⟨zq, hzq⟩ : ∃ zq, Hid (Z.getD q 0 = zq) := ⟨_, Lib.hid rfl⟩
            rw [hzq.out] at cN g0 g1
            have t1 : IntKind.i64.wrap y = y := by rw [IntKind.wrap_i64]; omega
            have t2 : IntKind.i64.wrap (F - s) = F - s := by rw [IntKind.wrap_i64]; omega
            have t3 : IntKind.i64.wrap (F - s + 1) = F - s + 1 := by rw [IntKind.wrap_i64]; omega
            have t4 : ¬ (F - s + 1 = 0) := by omega
            have t5 : IntKind.i64.wrap (s + m) = s + m := by rw [IntKind.wrap_i64]; omega
            have t6 : IntKind.i64.wrap (zq + (s + m)) = zq + (s + m) := by rw [IntKind.wrap_i64]; omega
            have HREL : Hid (Drf.OX w g a' X (Z'.set q (zq + (s + m))) (W2.drew.setCell ⟨X, q, none⟩ (.int .i64 (zq + (s + m)))) ∧ (Z'.set q (zq + (s + m))).length = 3 ∧ ∀ i, i < 3 → (i < q + 1 → s ≤ (Z'.set q (zq + (s + m))).getD i 0 - Z.getD i 0 ∧ (Z'.set q (zq + (s + m))).getD i 0 - Z.getD i 0 ≤ F) ∧ (q + 1 ≤ i → (Z'.set q (zq + (s + m))).getD i 0 = Z.getD i 0)) := Lib.hid (by
              refine ⟨(HO.out.later ((Below.refl _ _).drew)).put q _ HTL.out, by rw [List.length_set]; exact hl3, fun i hi => ?_⟩
              rw [Drf.set_at Z' q _ i (by omega)]
              by_cases hiq : i = q
              · subst hiq
                rw [if_pos rfl, hzq.out]
                exact ⟨fun _ => ⟨by omega, by omega⟩, fun h => absurd h (by omega)⟩
              · rw [if_neg hiq]
                exact ⟨fun h => (hz i hi).1 (by omega), fun h => (hz i hi).2 (by omega)⟩)
            clear HO HZ hz HBD HNX hzq g0 g1 hcy HBY2 v0 v1 m0 m1 HTL
            go_wp2_with fail
            go_region
            all_goals (
              go_wp2_with fail
              go_roundw
              case rel => exact ⟨q + 1, _, by omega, by go_num, Lib.hid HREL.out.1, Lib.hid HREL.out.2⟩
              case measure => simp [intOf]; omega)
          · obtain rfl : q = 3 := by omega
            obtain ⟨hl3, hz⟩ := HZ.out
            have HP2 := Lib.hid (HNX.out Z' hl3 (fun i hi => (hz i hi).1 hi))
            clear HZ hz HBD HNX HBY2 HTL
            go_wp2_with fail
            go_roundw
            case rel => exact ⟨k + 1, a', Z', by omega, by go_num, HP2, HO⟩
            case measure => simp [intOf]; omega
  case rest =>
    clear HPS HOX HBY HTL HT
    obtain ⟨a, k, Z, hP, hO⟩ := hcut.out
    clear hcut
    generalize wc = W1 at *
    have CC := Lib.hid (Drf.dcount_any g a W1 hO.on.wc)
    rw [hP.apart, hP.pace] at CC
    have CF := Lib.hid (fun W (hB : Below W1.heap.size W1 W) => Drf.fine_any g a W (hO.on.wc.below hB))
    rw [Drf.ps_fine hP] at CF
    have HB := Lib.hid hO.on.below
    clear hP hO
    go_wp2_with fail
    refine (CC.out).mono ?_; rintro e w4 ⟨rfl, hB4⟩
    have HB4 := Lib.hid (HB.out.trans (hB4.mono HB.out.size))
    have CF := Lib.hid (CF.out w4 hB4)
    clear hB4 CC HB
    go_wp2_with fail
    refine (CF.out).mono ?_; rintro e w' ⟨rfl, rfl⟩
    have CW := Lib.hid (C9.out _ HB4.out)
    clear C9 CF
    go_wp2_with fail
    refine (CW.out).mono ?_; rintro e w9 ⟨rfl, hB⟩
    have B9 := Lib.hid (HB4.out.trans (hB.mono HB4.out.size))
    clear hB
    go_wp2_with fail
    go_ret
    exact ⟨rfl, B9.out⟩

set_option maxRecDepth 100000 in
theorem lifted (os : Os) (started : os.Started) (H : Type) (enc : TypeId × Value → H) :
    ReturnsInHanded {} Tryd.checked os 4 .any (fun w args => (Rows.driftPaceSpec.pre enc Tryd.prog Tryd.f4 [] false w args ∧ laidMetH Tryd.prog Drf.laidL w) ∧ sizedMet enc Tryd.prog Tryd.f4 (OpenSpec.ofChange Rows.driftPaceSpec) false w args) (Rows.driftPaceSpec.post enc Tryd.prog Tryd.f4 false true false false) := by
  refine returnsInHanded_of_change_and (C := Tryd.checked) (X := fun w _ => laidMetH Tryd.prog Drf.laidL w) (fun _ _ _ hh h => h.of_heap hh) own started (by kernel_rfl) Tryd.func4
    (ChangeSpec.witness_shaped (enc := enc) (C := Tryd.checked) (os := os) (X := fun w _ => laidMetH Tryd.prog Drf.laidL w) false (World.doorLaid Tryd.prog 14 os) #[.agg #[.int .u32 0, .int .u32 0, .int .u32 0], .agg #[.int .u8 0, .int .u8 0], .slice none 0 0] 8 rfl (World.shaped_of_RefB (by kernel_rfl) (by kernel_rfl)) (by kernel_rfl) (by kernel_rfl) (by kernel_rfl) (Drf.door_met os _)) ?_
  intro W base args ds gs before hval0 hW _ _ hL _
  have hval : ∀ (j : Nat) t v, Tryd.f4.params[j]? = some t → args[j]? = some v → Value.okWide Tryd.prog W .any base t v := hval0
  have hW' := hW
  obtain ⟨p, q, hA0, hV, rfl, hfz, hnd⟩ := hW
  have hA : DataW.TrodAll enc Tryd.prog W 0 (fun _ => true) true Tryd.f4.params.toList args.toList ds p := hA0
  rw [Tryd.params4] at hA hval
  obtain ⟨v0, vs0, d0, ds0, p0, q0, hargs, rfl, rfl, h0, r0⟩ := trodAll_cons hA
  obtain ⟨v1, vs1, d1, ds1, p1, q1, rfl, rfl, rfl, h1, r1⟩ := trodAll_cons r0
  obtain ⟨v2, vs2, d2, ds2, p2, q2, rfl, rfl, rfl, h2, r2⟩ := trodAll_cons r1
  obtain ⟨rfl, rfl, rfl⟩ := trodAll_nil r2
  obtain rfl : args = #[v0, v1, v2] := by cases args; simp_all
  obtain ⟨rfl, rfl⟩ := trodVars_none hV
  have k0 := h0
  have lt0 : ∀ x ∈ p0, x.block < W.heap.size := by obtain ⟨m, hm⟩ := k0; exact DataW.trod_lt m _ _ _ hm
  obtain ⟨a0, rfl, w0⟩ := Drf.open3_u32 (hval 0 42 v0 rfl rfl) h0
  have k1 := h1
  have lt1 : ∀ x ∈ p1, x.block < W.heap.size := by obtain ⟨m, hm⟩ := k1; exact DataW.trod_lt m _ _ _ hm
  obtain ⟨a1, rfl, w1⟩ := Drf.open2_u8 (hval 1 43 v1 rfl rfl) h1
  obtain ⟨a2, len2, cap2, rfl⟩ := okWide_slice Tryd.underlying44 (hval 2 44 v2 rfl rfl)
  have k2 := h2
  have lt2 : ∀ x ∈ p2, x.block < W.heap.size := by obtain ⟨m, hm⟩ := k2; exact DataW.trod_lt m _ _ _ hm
  obtain ⟨z2, w2⟩ : ∃ zs, Drf.S3_u8 W W.heap.size a2 len2 cap2 zs := by
    obtain ⟨fuel, hf⟩ := h2
    exact Drf.opens3_u8 rfl (by simpa [Value.cells] using hf)
  clear hA0 hval0
  have hT := Drf.tabs_of_laid hL
  refine (walk a0 a1 a2 len2 cap2 z2 W w0 w1 w2 hT).mono fun e W' ⟨he, bel⟩ => ?_
  subst he
  exact ⟨_, rfl, _, _, _, [], _, [], hW', trodAll_mk1 (shut_bool Tryd.underlying4 _), (trodAll_cons_mk (Below.trod laidOut (by kernel_rfl) (of_decide_eq_true (by kernel_rfl)) k0 bel lt0) (trodAll_cons_mk (Below.trod laidOut (by kernel_rfl) (of_decide_eq_true (by kernel_rfl)) k1 bel lt1) (trodAll_cons_mk (Below.trod laidOut (by kernel_rfl) (of_decide_eq_true (by kernel_rfl)) k2 bel lt2) trodAll_mk0))), rfl, bel.frame _, fun h => by cases h⟩

theorem over : Rows.driftPaceRow.holds Tryd.pinned (OpenSpec.ofChange Rows.driftPaceSpec) :=
  OpenClaim.holds_of_wide 4 Tryd.f4 rfl rfl rfl rfl rfl rfl rfl ⟨rfl, rfl, rfl, rfl, rfl⟩ rfl rfl rfl rfl rfl (by kernel_rfl) Tryd.func4 (by kernel_rfl)
    (of_decide_eq_true (by kernel_rfl)) (by unfold Func.isWrapper; first | (rw [if_pos (by decide +kernel)]; kernel_rfl) | (rw [if_neg (by decide +kernel)]; exact ⟨rfl, rfl⟩))
    (fun os started H enc _ => lifted os started H enc)

theorem func_is {f : FuncId} (h : Tryd.prog.funcNamed Rows.driftPaceRow.func = some f) : f = 4 :=
  Option.some.inj (h.symm.trans (show Tryd.prog.funcNamed Rows.driftPaceRow.func = some 4 by kernel_rfl))
theorem proved : Rows.DriftPaceCardSaid :=
  Claim7.holds_tied_plain_at .later [] Rows.driftPaceCard.laidKinds true Rows.driftPaceCard.stood.harness false
    over (fun _ h => by cases h) (by kernel_rfl) (fun _ h => by cases h) driftPace_row_tie rfl ⟨rfl, rfl⟩ (by kernel_rfl) rfl
    (fun f fn hf hfn => by
      obtain rfl := func_is hf
      obtain rfl : fn = Tryd.f4 := (Option.some.inj (Tryd.func4.symm.trans hfn)).symm
      exact ⟨by kernel_rfl, fun j t ht => by
        rw [Tryd.params4] at ht
        have hm : t ∈ [42, 43, 44] := by simpa using Array.mem_of_getElem? ht
        have hall : ([42, 43, 44].all fun u => !Tryd.prog.wantsStandIn u) = true := by kernel_rfl
        exact (show Tryd.prog.wantsStandIn t = false by simpa using List.all_eq_true.1 hall t hm)⟩)
    (by kernel_rfl)
#print axioms proved
end Go.Proofs.YtmkdemdeejhonaaDoor.lawDriftPace
