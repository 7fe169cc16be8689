/- Of any clocks, noted at any ticks, a watch tells what the document says. -/
import Derived.Test.YtmkdemdeejhonaaDoorRows
import Derived.Test.YtmkdemdeejhonaaDoorTie
import Derived.Test.YtmkdemdeejhonaaDoorCards
import Derived.SevenTiedAt
import Derived.LaidMore
import Derived.Stop.Joined
import Derived.WalkKit
import Derived.ProofKit
import Derived.OpenShut
import Derived.ShutString
import Derived.ChangeOld
import Derived.Below
import Derived.Test.YtmkdemdeejhonaaDoorDrfJ
import Derived.Test.YtmkdemdeejhonaaDoorDrfD
import Derived.Deep.CutBlock
import Derived.Deep.Cut
import Derived.BigRegion
import Derived.Deep.RegionHeld3
namespace Go.Proofs.YtmkdemdeejhonaaDoor.lawDriftWatches
open Go.ChangeShapes Go.WideShapes Go.ChangeAt Go.RowKit
open Go.ChangeMaps (open_string shut_string)
set_option linter.unusedVariables false

theorem own : ownKnob Tryd.prog.godebug = none := by kernel_rfl
theorem laidOut : laidOutB Tryd.prog = true := by kernel_rfl

/-! The walk: the Go text returns true and writes nothing that was there. -/
set_option linter.unusedSimpArgs false in
set_option maxRecDepth 100000 in
set_option maxHeartbeats 4000000 in
theorem walk (a0 : Int) (a1 : Int × Int) (a2 : Option Addr) (len2 cap2 : Nat) (z2 : List Drf.Ne) (w : World) (w0 : (Lit.int .i64 a0).wf = true) (w1 : Drf.ok2_i64 a1) (w2 : Drf.Nes w w.heap.size a2 len2 cap2 z2) (hT : Nodes.Tabs w) :
    Calls Tryd.prog 3 #[.int .i64 a0, Drf.v2_i64 a1, .slice a2 len2 cap2] w fun e w' => e = .returned (.bool true) ∧ Below w.heap.size w w' := by
  have HNE := Lib.hid (fun (i : Nat) (hi : i < len2) => Drf.ne_cell w2 hi)
  have HT := Lib.hid hT
  obtain ⟨s, f⟩ := a1
  obtain ⟨o0, o1⟩ := w1
  have hs := bounds_i64 o0
  have hf := bounds_i64 o1
  clear w2 hT o0 o1 w0
  unfold Drf.v2_i64
  dsimp only at *
  obtain ⟨w0', hw0⟩ : ∃ w0', Hid (w0' = w.alloc (.cells #[.int .i64 s, .int .i64 f] 22)) := ⟨_, Lib.hid rfl⟩
  obtain ⟨hB0, hsz, hbox⟩ := Drf.box2_i64 w w0' (s, f) hw0.out
  have HB0 := Lib.hid hB0
  have HBX := Lib.hid hbox
  obtain ⟨r0, r1⟩ := hbox w0' (Below.refl _ _)
  have HT0 := Lib.hid (HT.out.below hB0)
  have HTL : Hid (0 < w0'.heap.size) := Lib.hid (by have := HT.out.2; omega)
  dsimp only at r0 r1 HBX
  clear hB0 hbox
  have CNW := Lib.hid (Drf.on_new a0 s f w0' w0' (Below.refl _ _) HT0.out)
  have C9 := Lib.hid (fun W (hB : Below w0'.heap.size w0' W) => Drf.works28_any W (HT0.out.below hB))
  go_enter Tryd.func3, Tryd.ntmps3
  go_upto_region 1 with fail
  rw [← hw0.out]
  go_wp2_with fail
  refine (CNW.out).mono ?_; rintro e w2 ⟨g, rfl, hon, hB2⟩
  have HL0 : Hid (Drf.LW w0' g w2.heap.size (max a0 0) s f 0 (Drf.wt0 a0 s f) none 0 (w2.alloc (.cells #[.int .i64 0, .slice none 0 0, .int .u64 0] 29))) := Lib.hid
    ⟨⟨hon.later ((Below.refl _ _).alloc (Nat.le_refl _) _), Rw.Blk.new w2 _ _, hon.below.size⟩, ⟨.inl rfl, Nat.le_refl _, (show (0 : Nat) ≤ 9223372036854775807 by decide), fun _ => rfl⟩, (show (0 : Nat) < 18446744073709551616 by decide), rfl, rfl, rfl, Nat.le_refl _, Nat.le_refl _⟩
  clear hon hB2 CNW r0 r1
  go_upto_block 0 with fail
  generalize w2.alloc (.cells #[.int .i64 0, .slice none 0 0, .int .u64 0] 29) = w3 at *
  generalize w2.heap.size = L at *
  generalize max a0 0 = ep at *
  go_cut [8, 9, 10, 11, 13, 14, 15, 16, 17, 18, 19, 20] from 29 to 140 (fun _ _ _ _ _ _ _ _ _ _ _ _ W => Hid (Below w0'.heap.size w0' W))
  case first =>
    go_wp2_with fail
    go_loopw [8, 9, 10, 11, 13] (fun v8 v9 v10 v11 iv W => ∃ (k : Nat) (a : Drf.Wt) (ad : Option Addr) (cap : Nat), k ≤ 30 ∧ v8 = .int .i64 a.gap ∧ v9 = .int .i64 a.tick ∧ v10 = .int .i64 (a.apart : Int) ∧ v11 = .int .i64 (a.pace : Int) ∧ iv = .int .i64 k ∧ Hid (Drf.LW w0' g L ep s f k a ad cap W)) (fun _ _ _ _ iv _ => 30 - (intOf iv).toNat)
    case atStart => exact ⟨0, _, none, 0, by omega, rfl, rfl, rfl, rfl, rfl, HL0⟩
    case round =>
      clear HL0
      obtain ⟨k, a, ad, cap, hk, rfl, rfl, rfl, rfl, rfl, HL⟩ := hrel
      generalize wr = W1 at *
      rcases (show ¬ (k < len2) ∨ (k < len2 ∧ ¬ (k < 30)) ∨ (k < len2 ∧ k < 30) by omega) with hx | ⟨hx, hx2⟩ | ⟨hx, hx2⟩
      · have z1 : decide ((k : Int) < (len2 : Int)) = false := decide_eq_false (by omega)
        have HE := Lib.hid HL.out.ol.below
        clear HL HNE C9 HT HT0 HTL
        go_wp2_with fail
        go_meet
        case rel => exact HE
      · have z1 : decide ((k : Int) < (len2 : Int)) = true := decide_eq_true (by omega)
        have z2 : decide ((k : Int) < 30) = false := decide_eq_false (by omega)
        have HE := Lib.hid HL.out.ol.below
        clear HL HNE C9 HT HT0 HTL
        go_wp2_with fail
        go_meet
        case rel => exact HE
      · have z1 : decide ((k : Int) < (len2 : Int)) = true := decide_eq_true (by omega)
        have z2 : decide ((k : Int) < 30) = true := decide_eq_true (by omega)
        have hki : (k : Int) < (len2 : Int) := by omega
        have hk0 : (0 : Int) ≤ (k : Int) := by omega
        obtain ⟨b, off, n, an, cn, rfl, hnS, hnl, hcell⟩ := HNE.out k hx
        have HNL := Lib.hid (hnl.below HB0.out)
        have HCE := Lib.hid (fun W (hB : Below w0'.heap.size w0' W) => hcell W (HB0.out.trans (hB.mono HB0.out.size)))
        have haS := HL.out.set
        have hap := HL.out.apart
        have hpc := HL.out.pace
        have he1 := HL.out.eps
        have he2 := HL.out.slow
        have he3 := HL.out.fast
        have CG := Lib.hid (Drf.drgap_any n an cn hnS W1 (HNL.out.below HL.out.ol.below))
        have CP := Lib.hid (fun W (hB : Below w0'.heap.size w0' W) => Drf.rpace_any a.n n ad an cap cn s f hs hf haS hnS W (HL.out.sl.below hB) (HNL.out.below hB))
        have CN := Lib.hid (fun W (hO : Drf.OL w0' g a L (Drf.ecs a.n ad cap) W) => Drf.ol_note g a L (Drf.ecs a.n ad cap) n an cn hnS haS (by omega) (by omega) w0' W hO (HNL.out.below hO.below))
        have HNX := Lib.hid (fun W (ho : Drf.OL w0' g (Drf.nextW a n) L (Drf.ecs n an cn) W) => Drf.lw_next HL.out n hnS HNL.out ho)
        have HA := Lib.hid (Drf.next_apart a n)
        have HG := Lib.hid (Drf.next_gap a n)
        have HK := Lib.hid (Drf.next_tick a n)
        have HPC := Lib.hid (Drf.next_pace a n)
        have HLE := Lib.hid (Drf.late_le a.n n a.slow a.fast)
        have HN : Hid (Drf.noteB a n = (decide (Drf.gapV n ≤ a.eps) && decide (Drf.lateN a.n n a.slow a.fast = 0))) := Lib.hid rfl
        rw [he1] at HN HA
        rw [he2, he3] at HN HPC HLE
        have HOL := Lib.hid HL.out.ol
        have CK := Lib.hid (fun W => Span.rclamp_any n.tick 0 1152921504606846976 W)
        rw [show Span.clampV n.tick 0 1152921504606846976 = Drf.kp n.tick from rfl] at CK
        unfold Drf.eval at CG CP
        obtain ⟨c0, c1, c2⟩ := HCE.out W1 HL.out.ol.below
        clear HL HNE HT hnl hcell he1 he2 he3 HNL HT0 C9
        generalize Drf.nextW a n = a' at *
        generalize Drf.gapV n = gv at *
        generalize Drf.lateN a.n n s f = lt at *
        generalize Drf.noteB a n = nb at *
        generalize Drf.kp n.tick = kt at *
        go_wp2_with fail
        refine (CG.out).mono ?_; rintro e W2 ⟨rfl, hB2⟩
        have HO2 := Lib.hid (HOL.out.later hB2)
        clear hB2 HOL CG c0 c1 c2 z1 z2
        have HBV := Lib.hid (fun W (hW : Below W2.heap.size W2 W) => HO2.out.below.trans (hW.mono HO2.out.below.size))
        have CPV := Lib.hid (fun W (hW : Below W2.heap.size W2 W) => CP.out W (HBV.out W hW))
        have q0 : ∀ x : Qui.Cls W2, x.V.cell? ⟨w.heap.size, 0, none⟩ = some (.int .i64 s) := fun x => (HBX.out _ (HBV.out _ x.lies)).1
        have q1 : ∀ x : Qui.Cls W2, x.V.cell? ⟨w.heap.size, 1, none⟩ = some (.int .i64 f) := fun x => (HBX.out _ (HBV.out _ x.lies)).2
        have q2 : ∀ x : Qui.Cls W2, x.V.cell? ⟨L, 0, none⟩ = some (.int .i64 a.n.tick) := fun x => (HO2.out.later x.lies).row.cell 0
        have q3 : ∀ x : Qui.Cls W2, x.V.cell? ⟨L, 1, none⟩ = some (.slice ad a.n.l.length cap) := fun x => (HO2.out.later x.lies).row.cell 1
        have q4 : ∀ x : Qui.Cls W2, x.V.cell? ⟨L, 2, none⟩ = some (.int .u64 (a.n.set : Int)) := fun x => (HO2.out.later x.lies).row.cell 2
        have q5 : ∀ x : Qui.Cls W2, x.V.cell? ⟨b, off + k * 3, none⟩ = some (.int .i64 n.tick) := fun x => (HCE.out _ (HBV.out _ x.lies)).1
        have q6 : ∀ x : Qui.Cls W2, x.V.cell? ⟨b, off + k * 3 + 1, none⟩ = some (.slice an n.l.length cn) := fun x => (HCE.out _ (HBV.out _ x.lies)).2.1
        have q7 : ∀ x : Qui.Cls W2, x.V.cell? ⟨b, off + k * 3 + 2, none⟩ = some (.int .u64 (n.set : Int)) := fun x => (HCE.out _ (HBV.out _ x.lies)).2.2
        go_upto_region 9 with fail
        refine Qui.wp_region_quiet_below (by kernel_rfl) (by kernel_rfl) ?_
        repeat (go_big_quiet_step (first | (go_at_call 8; with_reducible exact Qui.cls_below (CPV.out _ (Qui.Cls.lies _)))))
        refine wpQuiet_nil ?_
        intro _ hw'
        obtain ⟨zz, rfl⟩ := hw'
        have HO3 := Lib.hid (HO2.out.later zz.lies)
        clear q0 q1 q2 q3 q4 q5 q6 q7 CPV CP HBV HO2
        generalize zz.V = W3 at *
        clear zz
        go_upto_region 10 with fail
        go_cut [16] from 54 to 60 (fun v W => Hid (v = .bool nb) ∧ Hid (W = W3))
        case first =>
          clear HCE CN HNX HA HG HK HPC CK HO3
          cases h1 : decide (gv ≤ ep) with
          | false =>
            go_wp2_with fail
            go_meet
            case rel => exact ⟨Lib.hid (by rw [HN.out, h1]; rfl), Lib.hid (by trivial)⟩
          | true =>
            have HV : Hid (nb = ((lt : Int) == 0)) := Lib.hid (by rw [HN.out, h1, Bool.eq_iff_iff]; simp)
            clear HN
            go_wp2_with fail
            go_meet
            case rel => exact ⟨Lib.hid (by rw [HV.out]), Lib.hid (by trivial)⟩
        case rest =>
          obtain ⟨hv, hW⟩ := hcut
          have hv := hv.out
          have hW := hW.out
          subst hv
          rw [hW]
          clear hW HN
          obtain ⟨c0, c1, c2⟩ := HCE.out W3 HO3.out.below
          have hnn : (nb != nb) = false := by cases nb <;> rfl
          have CN3 := Lib.hid (CN.out W3.drew (HO3.out.later (Below.refl _ _).drew))
          clear CN HO3
          go_upto_region 11 with fail
          have hO3d := CN3
          go_region_held3 (fun W => W.cell? ⟨b, off + k * 3, none⟩ = some (.int .i64 n.tick) ∧ W.cell? ⟨b, off + k * 3 + 1, none⟩ = some (.slice an n.l.length cn) ∧ W.cell? ⟨b, off + k * 3 + 2, none⟩ = some (.int .u64 (n.set : Int))) (first | go_keep | exact HCE.out _ (Drf.OL.below (by assumption))) (first
            | (go_at_call 9; refine (CN3.out).mono ?_; rintro e W4 ⟨rfl, hO4⟩))
          have HO4 := Lib.hid hO4
          clear hO4 hO3d CN3 c0 c1 c2
          go_upto_if 82 with fail
          go_cut [10] from 80 to 84 (fun v W => Hid (v = .int .i64 (a'.apart : Int)) ∧ Hid (W = W4))
          case first =>
            clear HCE HNX HG HK HPC CK HO4
            by_cases h2 : ep < gv
            · have z3 : decide (ep < gv) = true := decide_eq_true h2
              have z4 : IntKind.i64.wrap ((a.apart : Int) + 1) = (a.apart : Int) + 1 := by rw [IntKind.wrap_i64]; omega
              have HV : Hid ((a'.apart : Int) = (a.apart : Int) + 1) := Lib.hid (by rw [HA.out, if_pos h2, Int.natCast_add]; rfl)
              clear HA
              go_wp2_with fail
              go_meet
              case rel => exact ⟨Lib.hid (by rw [HV.out]), Lib.hid (by trivial)⟩
            · have z3 : decide (ep < gv) = false := decide_eq_false h2
              have HV : Hid ((a'.apart : Int) = (a.apart : Int)) := Lib.hid (by rw [HA.out, if_neg h2])
              clear HA
              go_wp2_with fail
              go_meet
              case rel => exact ⟨Lib.hid (by rw [HV.out]), Lib.hid (by trivial)⟩
          case rest =>
            obtain ⟨hv, hW⟩ := hcut
            have hv := hv.out
            have hW := hW.out
            subst hv
            rw [hW]
            clear hW HA
            go_upto_if 87 with fail
            go_cut [8, 9] from 85 to 94 (fun v1 v2 W => Hid (v1 = .int .i64 a'.gap) ∧ Hid (v2 = .int .i64 a'.tick) ∧ Hid (W = W4))
            case first =>
              obtain ⟨c0, c1, c2⟩ := HCE.out W4 HO4.out.below
              clear HCE HNX HPC HO4 c1 c2
              by_cases h3 : a.gap < gv
              · have z3 : decide (a.gap < gv) = true := decide_eq_true h3
                have HV : Hid (a'.gap = gv ∧ a'.tick = kt) := Lib.hid ⟨by rw [HG.out, if_pos h3], by rw [HK.out, if_pos h3]⟩
                clear HG HK
                go_wp2_with fail
                refine (CK.out _).mono ?_; rintro e w' ⟨rfl, rfl⟩
                go_wp2_with fail
                go_meet
                case rel => exact ⟨Lib.hid (by rw [HV.out.1]), Lib.hid (by rw [HV.out.2]), Lib.hid (by trivial)⟩
              · have z3 : decide (a.gap < gv) = false := decide_eq_false h3
                have HV : Hid (a'.gap = a.gap ∧ a'.tick = a.tick) := Lib.hid ⟨by rw [HG.out, if_neg h3], by rw [HK.out, if_neg h3]⟩
                clear HG HK
                go_wp2_with fail
                go_meet
                case rel => exact ⟨Lib.hid (by rw [HV.out.1]), Lib.hid (by rw [HV.out.2]), Lib.hid (by trivial)⟩
            case rest =>
              obtain ⟨hv1, hv2, hW⟩ := hcut
              have hv1 := hv1.out
              have hv2 := hv2.out
              have hW := hW.out
              subst hv1
              subst hv2
              rw [hW]
              clear hW HG HK CK
              obtain ⟨c0, c1, c2⟩ := HCE.out W4 HO4.out.below
              have z5 : IntKind.i64.wrap ((a.pace : Int) + (lt : Int)) = (a'.pace : Int) := by have := HLE.out; rw [HPC.out, IntKind.wrap_i64]; omega
              have HRW := Lib.hid HO4.out.row
              have HL5 := Lib.hid (HNX.out _ (HO4.out.put (Drf.ecs n an cn) HTL.out))
              clear HNX HCE HPC HLE HO4
              go_upto_region 19 with (refine Drf.store_e rfl _ _ rfl L (Drf.ecs n an cn) rfl rfl rfl (by simp [Drf.ecs, Value.oneCell']) _ HRW.out rfl ?_)
              generalize W4.setRow L (Drf.ecs n an cn) = W5 at *
              clear HRW c0 c1 c2 z5
              have CW := Lib.hid (Drf.worst_any g a' W5 HL5.out.ol.on.wc)
              have HLV := Lib.hid (fun W (hB : Below W5.heap.size W5 W) => (⟨HL5.out.ol.later hB, HL5.out.sl, HL5.out.set, HL5.out.eps, HL5.out.slow, HL5.out.fast, HL5.out.apart, HL5.out.pace⟩ : Drf.LW w0' g L ep s f (k + 1) a' an cn W))
              clear HL5
              go_wp2_with fail
              refine (CW.out).mono ?_; rintro e W6 ⟨rfl, hB6⟩
              have HB6 := Lib.hid hB6
              have CC := Lib.hid (Drf.dcount_any g a' W6 (HLV.out W6 hB6).ol.on.wc)
              clear hB6 CW
              go_wp2_with fail
              refine (CC.out).mono ?_; rintro e W7 ⟨rfl, hB7⟩
              have HB7 := Lib.hid (HB6.out.trans (hB7.mono HB6.out.size))
              have CF := Lib.hid (Drf.fine_any g a' W7 (HLV.out W7 HB7.out).ol.on.wc)
              have HL7 := Lib.hid (HLV.out W7 HB7.out)
              clear hB7 CC HB6 HB7 HLV
              have y1 : (a'.gap != a'.gap) = false := by simp
              have y2 : (a'.tick != a'.tick) = false := by simp
              have y3 : ((a'.apart : Int) != (a'.apart : Int)) = false := by simp
              have y4 : ((a'.pace : Int) != (a'.pace : Int)) = false := by simp
              have HFI : Hid (Drf.fineB a' = (decide (a'.apart = 0) && decide (a'.pace = 0))) := Lib.hid rfl
              rw [HFI.out] at CF
              clear HFI
              by_cases h4 : a'.apart = 0
              · have z6 : ((a'.apart : Int) == 0) = true := by rw [h4]; rfl
                rw [decide_eq_true h4, Bool.true_and, show decide (a'.pace = 0) = ((a'.pace : Int) == 0) from by rw [Bool.eq_iff_iff]; simp] at CF
                have y5 : (((a'.pace : Int) == 0) != ((a'.pace : Int) == 0)) = false := by simp
                clear h4
                go_wp2_with fail
                refine (CF.out).mono ?_; rintro e w' ⟨rfl, rfl⟩
                go_wp2_with fail
                go_roundw
                case rel => exact ⟨k + 1, a', an, cn, by omega, rfl, rfl, rfl, rfl, by go_num, HL7⟩
                case measure => simp [intOf]; omega
              · have z6 : ((a'.apart : Int) == 0) = false := by simp; omega
                rw [decide_eq_false h4, Bool.false_and] at CF
                clear h4
                go_wp2_with fail
                refine (CF.out).mono ?_; rintro e w' ⟨rfl, rfl⟩
                go_wp2_with fail
                go_roundw
                case rel => exact ⟨k + 1, a', an, cn, by omega, rfl, rfl, rfl, rfl, by go_num, HL7⟩
                case measure => simp [intOf]; omega
  case rest =>
    have HB := hcut
    clear hcut HL0 HNE HT HTL HBX
    generalize wc = W1 at *
    have CW := Lib.hid (C9.out _ HB.out)
    clear C9
    go_wp2_with fail
    refine (CW.out).mono ?_; rintro e w9 ⟨rfl, hB⟩
    have B9 := Lib.hid (HB.out.trans (hB.mono HB.out.size))
    clear hB
    go_wp2_with fail
    go_ret
    exact ⟨rfl, HB0.out.trans (B9.out.mono HB0.out.size)⟩

set_option maxRecDepth 100000 in
theorem lifted (os : Os) (started : os.Started) (H : Type) (enc : TypeId × Value → H) :
    ReturnsInHanded {} Tryd.checked os 3 .any (fun w args => (Rows.driftWatchesSpec.pre enc Tryd.prog Tryd.f3 [] false w args ∧ laidMetH Tryd.prog Drf.laidL w) ∧ sizedMet enc Tryd.prog Tryd.f3 (OpenSpec.ofChange Rows.driftWatchesSpec) false w args) (Rows.driftWatchesSpec.post enc Tryd.prog Tryd.f3 false true false false) := by
  refine returnsInHanded_of_change_and (C := Tryd.checked) (X := fun w _ => laidMetH Tryd.prog Drf.laidL w) (fun _ _ _ hh h => h.of_heap hh) own started (by kernel_rfl) Tryd.func3
    (ChangeSpec.witness_shaped (enc := enc) (C := Tryd.checked) (os := os) (X := fun w _ => laidMetH Tryd.prog Drf.laidL w) false (World.doorLaid Tryd.prog 14 os) #[.int .i64 0, .agg #[.int .i64 0, .int .i64 0], .slice none 0 0] 8 rfl (World.shaped_of_RefB (by kernel_rfl) (by kernel_rfl)) (by kernel_rfl) (by kernel_rfl) (by kernel_rfl) (Drf.door_met os _)) ?_
  intro W base args ds gs before hval0 hW _ _ hL _
  have hval : ∀ (j : Nat) t v, Tryd.f3.params[j]? = some t → args[j]? = some v → Value.okWide Tryd.prog W .any base t v := hval0
  have hW' := hW
  obtain ⟨p, q, hA0, hV, rfl, hfz, hnd⟩ := hW
  have hA : DataW.TrodAll enc Tryd.prog W 0 (fun _ => true) true Tryd.f3.params.toList args.toList ds p := hA0
  rw [Tryd.params3] at hA hval
  obtain ⟨v0, vs0, d0, ds0, p0, q0, hargs, rfl, rfl, h0, r0⟩ := trodAll_cons hA
  obtain ⟨v1, vs1, d1, ds1, p1, q1, rfl, rfl, rfl, h1, r1⟩ := trodAll_cons r0
  obtain ⟨v2, vs2, d2, ds2, p2, q2, rfl, rfl, rfl, h2, r2⟩ := trodAll_cons r1
  obtain ⟨rfl, rfl, rfl⟩ := trodAll_nil r2
  obtain rfl : args = #[v0, v1, v2] := by cases args; simp_all
  obtain ⟨rfl, rfl⟩ := trodVars_none hV
  obtain ⟨a0, rfl, rfl, rfl, w0⟩ := open_int Tryd.underlying2 (hval 0 2 v0 rfl rfl) h0
  have k1 := h1
  have lt1 : ∀ x ∈ p1, x.block < W.heap.size := by obtain ⟨m, hm⟩ := k1; exact DataW.trod_lt m _ _ _ hm
  obtain ⟨a1, rfl, w1⟩ := Drf.open2_i64 (hval 1 22 v1 rfl rfl) h1
  obtain ⟨a2, len2, cap2, rfl⟩ := okWide_slice Tryd.underlying23 (hval 2 23 v2 rfl rfl)
  have k2 := h2
  have lt2 : ∀ x ∈ p2, x.block < W.heap.size := by obtain ⟨m, hm⟩ := k2; exact DataW.trod_lt m _ _ _ hm
  obtain ⟨z2, w2⟩ : ∃ zs, Drf.Nes W W.heap.size a2 len2 cap2 zs := by
    obtain ⟨fuel, hf⟩ := h2
    exact Drf.open_nes rfl (by simpa [Value.cells] using hf)
  clear hA0 hval0
  have hT := Drf.tabs_of_laid hL
  refine (walk a0 a1 a2 len2 cap2 z2 W w0 w1 w2 hT).mono fun e W' ⟨he, bel⟩ => ?_
  subst he
  exact ⟨_, rfl, _, _, _, [], _, [], hW', trodAll_mk1 (shut_bool Tryd.underlying4 _), (trodAll_cons_mk (shut_int Tryd.underlying2 w0) (trodAll_cons_mk (Below.trod laidOut (by kernel_rfl) (of_decide_eq_true (by kernel_rfl)) k1 bel lt1) (trodAll_cons_mk (Below.trod laidOut (by kernel_rfl) (of_decide_eq_true (by kernel_rfl)) k2 bel lt2) trodAll_mk0))), rfl, bel.frame _, fun h => by cases h⟩

theorem over : Rows.driftWatchesRow.holds Tryd.pinned (OpenSpec.ofChange Rows.driftWatchesSpec) :=
  OpenClaim.holds_of_wide 3 Tryd.f3 rfl rfl rfl rfl rfl rfl rfl ⟨rfl, rfl, rfl, rfl, rfl⟩ rfl rfl rfl rfl rfl (by kernel_rfl) Tryd.func3 (by kernel_rfl)
    (of_decide_eq_true (by kernel_rfl)) (by unfold Func.isWrapper; first | (rw [if_pos (by decide +kernel)]; kernel_rfl) | (rw [if_neg (by decide +kernel)]; exact ⟨rfl, rfl⟩))
    (fun os started H enc _ => lifted os started H enc)

theorem func_is {f : FuncId} (h : Tryd.prog.funcNamed Rows.driftWatchesRow.func = some f) : f = 3 :=
  Option.some.inj (h.symm.trans (show Tryd.prog.funcNamed Rows.driftWatchesRow.func = some 3 by kernel_rfl))
theorem proved : Rows.DriftWatchesCardSaid :=
  Claim7.holds_tied_plain_at .later [] Rows.driftWatchesCard.laidKinds true Rows.driftWatchesCard.stood.harness false
    over (fun _ h => by cases h) (by kernel_rfl) (fun _ h => by cases h) driftWatches_row_tie rfl ⟨rfl, rfl⟩ (by kernel_rfl) rfl
    (fun f fn hf hfn => by
      obtain rfl := func_is hf
      obtain rfl : fn = Tryd.f3 := (Option.some.inj (Tryd.func3.symm.trans hfn)).symm
      exact ⟨by kernel_rfl, fun j t ht => by
        rw [Tryd.params3] at ht
        have hm : t ∈ [2, 22, 23] := by simpa using Array.mem_of_getElem? ht
        have hall : ([2, 22, 23].all fun u => !Tryd.prog.wantsStandIn u) = true := by kernel_rfl
        exact (show Tryd.prog.wantsStandIn t = false by simpa using List.all_eq_true.1 hall t hm)⟩)
    (by kernel_rfl)
#print axioms proved
end Go.Proofs.YtmkdemdeejhonaaDoor.lawDriftWatches
