/- Whether any packet may be a chunk, and whether any two belong together, is as the document says. -/
import Derived.Test.YtidfdlpdacbkoaaRows
import Derived.WalkKit
import Derived.ProofKit
import Derived.OpenShut
import Derived.ShutString
import Derived.ChangeOld
import Derived.Below
import Derived.Test.YtidfdlpdacbkoaaChuK
import Derived.Test.YtidfdlpdacbkoaaChuC
import Derived.Test.YtidfdlpdacbkoaaChuU
import Derived.Test.YtidfdlpdacbkoaaDatX
import Derived.Deep.RegionHeldLaw
import Derived.Deep.Cut
import Derived.Deep.RegionWith
namespace Go.Proofs.Ytidfdlpdacbkoaa.lawChunkGood
open Go.ChangeShapes Go.WideShapes Go.ChangeAt Go.RowKit
open Go.ChangeMaps (open_string shut_string)
set_option linter.unusedVariables false

theorem own : ownKnob Try.prog.godebug = none := by kernel_rfl
theorem laidOut : laidOutB Try.prog = true := by kernel_rfl

/-! The walk: the Go text returns true and writes nothing that was there. -/
set_option linter.unusedSimpArgs false in
set_option maxRecDepth 100000 in
set_option maxHeartbeats 4000000 in
theorem walk (a0 : Hed.Pk) (a1 : Hed.Pk) (w : World) (w0 : Hed.Ok w a0) (w1 : Hed.Ok w a1) :
    Calls Try.prog 4 #[Hed.pval a0, Hed.pval a1] w fun e w' => e = .returned (.bool true) ∧ Below w.heap.size w w' := by
  have hr0 := w0.rd
  have hn0 := w0.nil
  have hl0 := w0.le
  have hm0 := w0.max
  have hr1 := w1.rd
  have hn1 := w1.nil
  have hl1 := w1.le
  have hm1 := w1.max
  obtain ⟨wb, hwb⟩ : ∃ wb, Hid (wb = (w.alloc (.cells (Hed.Pk.cells a0) 27)).alloc (.cells (Hed.Pk.cells a1) 27)) := ⟨_, Lib.hid rfl⟩
  have hX := Hed.boxes_two w wb _ _ _ hwb.out
  have HB0 := Lib.hid hX.1
  have HBA := Lib.hid hX.2.1
  have HBB := Lib.hid hX.2.2
  have HCF : Hid (∀ W, Below wb.heap.size wb W → (_ ∧ _) ∧ (_ ∧ _)) := Lib.hid (fun W hW => ⟨⟨Hed.blk_cells (HBA.out.below hW), Dat.blk_free (HBA.out.below hW)⟩, ⟨Hed.blk_cells (HBB.out.below hW), Dat.blk_free (HBB.out.below hW)⟩⟩)
  have CA : Hid (∀ W, Below wb.heap.size wb W → Calls Try.prog 7 #[Hed.pval a0] W fun e w' => ∃ ad' cap', e = .returned (Hed.pval (Dat.bodP a0 ad' cap' (a0.body.take 80))) ∧ Below wb.heap.size wb w') := Lib.hid (fun W hW => (Chu.ccut_any a0 W (hr0.below (HB0.out.trans (hW.mono HB0.out.size))) hn0 hl0 hm0).mono fun e w' h => by
    obtain ⟨ad', cap', rfl, h1, h2⟩ := h
    exact ⟨ad', cap', rfl, hW.trans (h2.mono hW.size)⟩)
  have CB : Hid (∀ W, Below wb.heap.size wb W → Calls Try.prog 7 #[Hed.pval a1] W fun e w' => ∃ ad' cap', e = .returned (Hed.pval (Dat.bodP a1 ad' cap' (a1.body.take 80))) ∧ Below wb.heap.size wb w') := Lib.hid (fun W hW => (Chu.ccut_any a1 W (hr1.below (HB0.out.trans (hW.mono HB0.out.size))) hn1 hl1 hm1).mono fun e w' h => by
    obtain ⟨ad', cap', rfl, h1, h2⟩ := h
    exact ⟨ad', cap', rfl, hW.trans (h2.mono hW.size)⟩)
  clear hX w0 w1 hr0 hn0 hl0 hm0 hr1 hn1 hl1 hm1
  unfold Dat.bodP at CA CB
  generalize a0.body.take 80 = y0 at *
  generalize a1.body.take 80 = y1 at *
  have HA12 := Lib.hid (fun (W : World) (h : Buf.Blk W w.heap.size 27 (Hed.Pk.cells a0)) => Dat.row12 a0 h)
  have HB12 := Lib.hid (fun (W : World) (h : Buf.Blk W (w.heap.size + 1) 27 (Hed.Pk.cells a1)) => Dat.row12 a1 h)
  obtain ⟨kind, ⟨t, f, s⟩, hops, no, to, index, total, stamp, value, ad, cap, body⟩ := a0
  obtain ⟨kindb, ⟨tb, fb, sb⟩, hopsb, nob, tob, indexb, totalb, stampb, valueb, adb, capb, bodyb⟩ := a1
  unfold Hed.pval Hed.Pk.cells at CA CB
  unfold Hed.Pk.cells at hwb HBA HBB HA12 HB12
  unfold Hed.pval Hed.Pk.cells
  simp only at CA CB hwb HBA HBB HCF HA12 HB12 ⊢
  obtain ⟨n, hn⟩ : ∃ n, body.length = n := ⟨_, rfl⟩
  obtain ⟨nb, hnb⟩ : ∃ n, bodyb.length = n := ⟨_, rfl⟩
  obtain ⟨m, hm⟩ : ∃ m, y0.length = m := ⟨_, rfl⟩
  obtain ⟨mb, hmb⟩ : ∃ m, y1.length = m := ⟨_, rfl⟩
  simp only [hn, hnb] at CA CB hwb HBA HBB HCF HA12 HB12 ⊢
  simp only [hm] at CA
  simp only [hmb] at CB
  have HM := Lib.hid hm
  have HMB := Lib.hid hmb
  clear hn hnb hm hmb
  go_enter Try.func4, Try.ntmps4
  go_upto_region 1 with fail
  rw [← hwb.out]
  go_cut [] from 6 (fun W => ∃ ad1 cap1 ad2 cap2, Hid (Below w.heap.size w W ∧ Buf.Blk W w.heap.size 27 #[.int .i64 kind, .int .i64 t, .int .i64 f, .int .u32 s, .int .i64 hops, .int .i64 no, .int .i64 to, .int .i64 index, .int .i64 total, .int .i64 stamp, .int .i64 value, .slice ad1 m cap1] ∧ Buf.Blk W (w.heap.size + 1) 27 #[.int .i64 kindb, .int .i64 tb, .int .i64 fb, .int .u32 sb, .int .i64 hopsb, .int .i64 nob, .int .i64 tob, .int .i64 indexb, .int .i64 totalb, .int .i64 stampb, .int .i64 valueb, .slice ad2 mb cap2]))
  case first =>
    obtain ⟨⟨⟨c0, c1, c2, c3, c4, c5, c6, c7, c8, c9, c10, c11⟩, ⟨f0, f1, f2, f3, f4, f5, f6, f7, f8, f9, f10, f11⟩⟩, ⟨⟨d0, d1, d2, d3, d4, d5, d6, d7, d8, d9, d10, d11⟩, ⟨g0, g1, g2, g3, g4, g5, g6, g7, g8, g9, g10, g11⟩⟩⟩ := HCF.out wb (Below.refl _ _)
    refine wp_region_noPanic ?_
    go_region_with (first
      | (go_at_call 7; (with_reducible refine (CA.out _ ?_).mono ?_); (focus (first | assumption | exact (Below.refl _ _) | exact (Below.refl _ _).drew)); rintro e w2 ⟨ad1, cap1, rfl, hB2⟩; clear c0 c1 c2 c3 c4 c5 c6 c7 c8 c9 c10 c11 f0 f1 f2 f3 f4 f5 f6 f7 f8 f9 f10 f11 d0 d1 d2 d3 d4 d5 d6 d7 d8 d9 d10 d11 g0 g1 g2 g3 g4 g5 g6 g7 g8 g9 g10 g11; obtain ⟨⟨⟨c0, c1, c2, c3, c4, c5, c6, c7, c8, c9, c10, c11⟩, ⟨f0, f1, f2, f3, f4, f5, f6, f7, f8, f9, f10, f11⟩⟩, ⟨⟨d0, d1, d2, d3, d4, d5, d6, d7, d8, d9, d10, d11⟩, ⟨g0, g1, g2, g3, g4, g5, g6, g7, g8, g9, g10, g11⟩⟩⟩ := HCF.out w2 hB2)
      | (go_at_call 7; (with_reducible refine (CB.out _ ?_).mono ?_); (focus (first | assumption | exact Below.drew (by assumption))); rintro e w3 ⟨ad2, cap2, rfl, hB3⟩; clear c0 c1 c2 c3 c4 c5 c6 c7 c8 c9 c10 c11 f0 f1 f2 f3 f4 f5 f6 f7 f8 f9 f10 f11 d0 d1 d2 d3 d4 d5 d6 d7 d8 d9 d10 d11 g0 g1 g2 g3 g4 g5 g6 g7 g8 g9 g10 g11; obtain ⟨⟨⟨c0, c1, c2, c3, c4, c5, c6, c7, c8, c9, c10, c11⟩, ⟨f0, f1, f2, f3, f4, f5, f6, f7, f8, f9, f10, f11⟩⟩, ⟨⟨d0, d1, d2, d3, d4, d5, d6, d7, d8, d9, d10, d11⟩, ⟨g0, g1, g2, g3, g4, g5, g6, g7, g8, g9, g10, g11⟩⟩⟩ := HCF.out w3 hB3))
    all_goals
      refine NoPanic.normal ?_
      obtain ⟨ha, hAa⟩ := HA12.out w3 (HBA.out.below hB3) (.int .i64 kind) (.int .i64 t) (.int .i64 f) (.int .u32 s) (.int .i64 hops) (.int .i64 no) (.int .i64 to) (.int .i64 index) (.int .i64 total) (.int .i64 stamp) (.int .i64 value) (.slice ad1 m cap1)
      obtain ⟨hb, hAb⟩ := HB12.out _ ((hAa.block (w.heap.size + 1) (by omega)).trans (HBB.out.below hB3)) (.int .i64 kindb) (.int .i64 tb) (.int .i64 fb) (.int .u32 sb) (.int .i64 hopsb) (.int .i64 nob) (.int .i64 tob) (.int .i64 indexb) (.int .i64 totalb) (.int .i64 stampb) (.int .i64 valueb) (.slice ad2 mb cap2)
      have HQ1 := Lib.hid (HB0.out.trans ((hB3.mono HB0.out.size).trans ((hAa.below (Nat.le_refl _)).trans (hAb.below (by omega)))))
      have HQ2 := Lib.hid ((hAb.block w.heap.size (by omega)).trans ha)
      have HQ3 := Lib.hid hb
      clear c0 c1 c2 c3 c4 c5 c6 c7 c8 c9 c10 c11 f0 f1 f2 f3 f4 f5 f6 f7 f8 f9 f10 f11 d0 d1 d2 d3 d4 d5 d6 d7 d8 d9 d10 d11 g0 g1 g2 g3 g4 g5 g6 g7 g8 g9 g10 g11 ha hb hAa hAb HA12 HB12 HCF CA CB hB2 hB3
      go_wp2_with fail
      go_meet
      case rel => exact ⟨ad1, cap1, ad2, cap2, Lib.hid ⟨HQ1.out, HQ2.out, HQ3.out⟩⟩
  case rest =>
    obtain ⟨ad1, cap1, ad2, cap2, HQ⟩ := hcut
    obtain ⟨w3, rfl⟩ : ∃ z, z = wc := ⟨_, rfl⟩
    clear CA CB HA12 HB12 HBA HBB HCF hwb HB0
    have HB3 := Lib.hid HQ.out.1
    have HZA : Hid (∀ (W : World) (b : Nat), Buf.Blk W b 27 #[.int .i64 kind, .int .i64 t, .int .i64 f, .int .u32 s, .int .i64 hops, .int .i64 no, .int .i64 to, .int .i64 index, .int .i64 total, .int .i64 stamp, .int .i64 value, .slice ad1 m cap1] → _ ∧ _) := Lib.hid (fun W b h => Hed.blk_cells (p := ⟨kind, (t, f, s), hops, no, to, index, total, stamp, value, ad1, cap1, y0⟩) (by unfold Hed.Pk.cells; simp only [HM.out]; exact h))
    have HZB : Hid (∀ (W : World) (b : Nat), Buf.Blk W b 27 #[.int .i64 kindb, .int .i64 tb, .int .i64 fb, .int .u32 sb, .int .i64 hopsb, .int .i64 nob, .int .i64 tob, .int .i64 indexb, .int .i64 totalb, .int .i64 stampb, .int .i64 valueb, .slice ad2 mb cap2] → _ ∧ _) := Lib.hid (fun W b h => Hed.blk_cells (p := ⟨kindb, (tb, fb, sb), hopsb, nob, tob, indexb, totalb, stampb, valueb, ad2, cap2, y1⟩) (by unfold Hed.Pk.cells; simp only [HMB.out]; exact h))
    simp only [HM.out] at HZA
    simp only [HMB.out] at HZB
    have HC : Hid (∀ W, Below w3.heap.size w3 W → _ ∧ _) := Lib.hid (fun W hW => ⟨HZA.out W w.heap.size (HQ.out.2.1.below hW), HZB.out W (w.heap.size + 1) (HQ.out.2.2.below hW)⟩)
    clear HZA HZB HQ
    have CG : Hid (∀ W, Below w3.heap.size w3 W → Calls Try.prog 11 #[Hed.pval ⟨kind, (t, f, s), hops, no, to, index, total, stamp, value, ad1, cap1, y0⟩] W fun e w' => e = .returned (.bool (Chu.chuG ⟨kind, (t, f, s), hops, no, to, index, total, stamp, value, ad1, cap1, y0⟩)) ∧ Below w3.heap.size w3 w') := Lib.hid (fun W hW => (Chu.cgood_any ⟨kind, (t, f, s), hops, no, to, index, total, stamp, value, ad1, cap1, y0⟩ W).mono fun e w' h => ⟨h.1, hW.trans (h.2.mono hW.size)⟩)
    have CRa : Hid (∀ W, Below w3.heap.size w3 W → Calls Try.prog 12 #[Hed.pval ⟨kind, (t, f, s), hops, no, to, index, total, stamp, value, ad1, cap1, y0⟩] W fun e w' => e = .returned (.bool (Chu.chuG ⟨kind, (t, f, s), hops, no, to, index, total, stamp, value, ad1, cap1, y0⟩)) ∧ Below w3.heap.size w3 w') := Lib.hid (fun W hW => (Chu.rcgood_any ⟨kind, (t, f, s), hops, no, to, index, total, stamp, value, ad1, cap1, y0⟩ W).mono fun e w' h => ⟨h.1, hW.trans (h.2.mono hW.size)⟩)
    have CRb : Hid (∀ W, Below w3.heap.size w3 W → Calls Try.prog 12 #[Hed.pval ⟨kindb, (tb, fb, sb), hopsb, nob, tob, indexb, totalb, stampb, valueb, ad2, cap2, y1⟩] W fun e w' => e = .returned (.bool (Chu.chuG ⟨kindb, (tb, fb, sb), hopsb, nob, tob, indexb, totalb, stampb, valueb, ad2, cap2, y1⟩)) ∧ Below w3.heap.size w3 w') := Lib.hid (fun W hW => (Chu.rcgood_any ⟨kindb, (tb, fb, sb), hopsb, nob, tob, indexb, totalb, stampb, valueb, ad2, cap2, y1⟩ W).mono fun e w' h => ⟨h.1, hW.trans (h.2.mono hW.size)⟩)
    have CM : Hid (∀ W, Below w3.heap.size w3 W → Calls Try.prog 14 #[Hed.pval ⟨kind, (t, f, s), hops, no, to, index, total, stamp, value, ad1, cap1, y0⟩, Hed.pval ⟨kindb, (tb, fb, sb), hopsb, nob, tob, indexb, totalb, stampb, valueb, ad2, cap2, y1⟩] W fun e w' => e = .returned (.bool (Chu.mateB ⟨kind, (t, f, s), hops, no, to, index, total, stamp, value, ad1, cap1, y0⟩ ⟨kindb, (tb, fb, sb), hopsb, nob, tob, indexb, totalb, stampb, valueb, ad2, cap2, y1⟩)) ∧ Below w3.heap.size w3 w') := Lib.hid (fun W hW => (Chu.mate_any ⟨kind, (t, f, s), hops, no, to, index, total, stamp, value, ad1, cap1, y0⟩ ⟨kindb, (tb, fb, sb), hopsb, nob, tob, indexb, totalb, stampb, valueb, ad2, cap2, y1⟩ W).mono fun e w' h => ⟨h.1, hW.trans (h.2.mono hW.size)⟩)
    have CW : Hid (∀ W, Below w3.heap.size w3 W → Calls Try.prog 13 #[] W fun e w' => e = .returned (.bool true) ∧ Below w3.heap.size w3 w') := Lib.hid (fun W hW => (Chu.cworks_any W).mono fun e w' h => ⟨h.1, hW.trans (h.2.mono hW.size)⟩)
    have HMt := Lib.hid (show Chu.mateB ⟨kind, (t, f, s), hops, no, to, index, total, stamp, value, ad1, cap1, y0⟩ ⟨kindb, (tb, fb, sb), hopsb, nob, tob, indexb, totalb, stampb, valueb, ad2, cap2, y1⟩ = (Chu.chuG ⟨kind, (t, f, s), hops, no, to, index, total, stamp, value, ad1, cap1, y0⟩ && (Chu.chuG ⟨kindb, (tb, fb, sb), hopsb, nob, tob, indexb, totalb, stampb, valueb, ad2, cap2, y1⟩ && ((to == tob) && ((no == nob) && (total == totalb))))) from rfl)
    unfold Hed.pval Hed.Pk.cells at CG CRa CRb CM
    simp only [HM.out, HMB.out] at CG CRa CRb CM
    generalize Chu.mateB ⟨kind, (t, f, s), hops, no, to, index, total, stamp, value, ad1, cap1, y0⟩ ⟨kindb, (tb, fb, sb), hopsb, nob, tob, indexb, totalb, stampb, valueb, ad2, cap2, y1⟩ = mt at *
    generalize Chu.chuG ⟨kind, (t, f, s), hops, no, to, index, total, stamp, value, ad1, cap1, y0⟩ = ga at *
    generalize Chu.chuG ⟨kindb, (tb, fb, sb), hopsb, nob, tob, indexb, totalb, stampb, valueb, ad2, cap2, y1⟩ = gb at *
    clear HM HMB
    have hga : (ga == ga) = true := by simp
    have hmt : (mt == mt) = true := by simp
    go_upto_region 2 with fail
    go_cut [5] from 10 (fun v W => v = .bool mt ∧ Hid (Below w3.heap.size w3 W))
    case first =>
      obtain ⟨m1, e1⟩ : ∃ x, (to == tob) = x := ⟨_, rfl⟩
      obtain ⟨m2, e2⟩ : ∃ x, (no == nob) = x := ⟨_, rfl⟩
      obtain ⟨m3, e3⟩ : ∃ x, (total == totalb) = x := ⟨_, rfl⟩
      rw [e1, e2, e3] at HMt
      clear CG CM CW hga hmt
      obtain ⟨⟨c0, c1, c2, c3, c4, c5, c6, c7, c8, c9, c10, c11⟩, ⟨d0, d1, d2, d3, d4, d5, d6, d7, d8, d9, d10, d11⟩⟩ := HC.out w3 (Below.refl _ _)
      go_wp2_with fail
      refine (CRa.out _ (Below.refl _ _)).mono ?_; rintro e w4 ⟨rfl, hB4⟩
      have HB4 := Lib.hid hB4
      clear hB4 c0 c1 c2 c3 c4 c5 c6 c7 c8 c9 c10 c11 d0 d1 d2 d3 d4 d5 d6 d7 d8 d9 d10 d11
      obtain ⟨⟨c0, c1, c2, c3, c4, c5, c6, c7, c8, c9, c10, c11⟩, ⟨d0, d1, d2, d3, d4, d5, d6, d7, d8, d9, d10, d11⟩⟩ := HC.out w4 HB4.out
      cases ga with
      | false =>
        go_wp2_with fail
        go_meet
        case rel => exact ⟨by rw [HMt.out]; rfl, HB4⟩
      | true =>
        go_wp2_with fail
        refine (CRb.out _ HB4.out).mono ?_; rintro e w5 ⟨rfl, hB5⟩
        have HB5 := Lib.hid hB5
        clear hB5 c0 c1 c2 c3 c4 c5 c6 c7 c8 c9 c10 c11 d0 d1 d2 d3 d4 d5 d6 d7 d8 d9 d10 d11
        obtain ⟨⟨c0, c1, c2, c3, c4, c5, c6, c7, c8, c9, c10, c11⟩, ⟨d0, d1, d2, d3, d4, d5, d6, d7, d8, d9, d10, d11⟩⟩ := HC.out w5 HB5.out
        cases gb with
        | false =>
          go_wp2_with fail
          go_meet
          case rel => exact ⟨by rw [HMt.out]; rfl, HB5⟩
        | true =>
          cases m1 with
          | false =>
            go_wp2_with fail
            go_meet
            case rel => exact ⟨by rw [HMt.out]; rfl, HB5⟩
          | true =>
            cases m2 with
            | false =>
              go_wp2_with fail
              go_meet
              case rel => exact ⟨by rw [HMt.out]; rfl, HB5⟩
            | true =>
              go_wp2_with fail
              go_meet
              case rel => exact ⟨by rw [HMt.out]; simp, HB5⟩
    case rest =>
      obtain ⟨rfl, HB4⟩ := hcut
      obtain ⟨⟨c0, c1, c2, c3, c4, c5, c6, c7, c8, c9, c10, c11⟩, ⟨d0, d1, d2, d3, d4, d5, d6, d7, d8, d9, d10, d11⟩⟩ := HC.out wc HB4.out
      clear CRb HMt
      go_upto_region 3 with fail
      refine wp_region_noPanic ?_
      go_region_held_law (fun W => Below w3.heap.size w3 W ∧ (W.cell? ⟨w.heap.size, 0, none⟩ = some (.int .i64 kind) ∧ W.cell? ⟨w.heap.size, 1, none⟩ = some (.int .i64 t) ∧ W.cell? ⟨w.heap.size, 2, none⟩ = some (.int .i64 f) ∧ W.cell? ⟨w.heap.size, 3, none⟩ = some (.int .u32 s) ∧ W.cell? ⟨w.heap.size, 4, none⟩ = some (.int .i64 hops) ∧ W.cell? ⟨w.heap.size, 5, none⟩ = some (.int .i64 no) ∧ W.cell? ⟨w.heap.size, 6, none⟩ = some (.int .i64 to) ∧ W.cell? ⟨w.heap.size, 7, none⟩ = some (.int .i64 index) ∧ W.cell? ⟨w.heap.size, 8, none⟩ = some (.int .i64 total) ∧ W.cell? ⟨w.heap.size, 9, none⟩ = some (.int .i64 stamp) ∧ W.cell? ⟨w.heap.size, 10, none⟩ = some (.int .i64 value) ∧ W.cell? ⟨w.heap.size, 11, none⟩ = some (.slice ad1 m cap1)) ∧ (W.cell? ⟨w.heap.size + 1, 0, none⟩ = some (.int .i64 kindb) ∧ W.cell? ⟨w.heap.size + 1, 1, none⟩ = some (.int .i64 tb) ∧ W.cell? ⟨w.heap.size + 1, 2, none⟩ = some (.int .i64 fb) ∧ W.cell? ⟨w.heap.size + 1, 3, none⟩ = some (.int .u32 sb) ∧ W.cell? ⟨w.heap.size + 1, 4, none⟩ = some (.int .i64 hopsb) ∧ W.cell? ⟨w.heap.size + 1, 5, none⟩ = some (.int .i64 nob) ∧ W.cell? ⟨w.heap.size + 1, 6, none⟩ = some (.int .i64 tob) ∧ W.cell? ⟨w.heap.size + 1, 7, none⟩ = some (.int .i64 indexb) ∧ W.cell? ⟨w.heap.size + 1, 8, none⟩ = some (.int .i64 totalb) ∧ W.cell? ⟨w.heap.size + 1, 9, none⟩ = some (.int .i64 stampb) ∧ W.cell? ⟨w.heap.size + 1, 10, none⟩ = some (.int .i64 valueb) ∧ W.cell? ⟨w.heap.size + 1, 11, none⟩ = some (.slice ad2 mb cap2))) ((refine ⟨?_, HC.out _ ?_⟩ <;> (first | assumption | exact HB4.out | exact HB4.out.drew | exact Below.drew (by assumption))))
        (first
          | (go_at_call 11; (with_reducible refine (CG.out _ ?_).mono ?_); (focus (first | assumption | exact HB4.out | exact HB4.out.drew | exact Below.drew (by assumption) | exact (‹Below w3.heap.size w3 _ ∧ _›).1)); rintro e w5 ⟨rfl, hB5⟩)
          | (go_at_call 12; (with_reducible refine (CRa.out _ ?_).mono ?_); (focus (first | assumption | exact HB4.out | exact HB4.out.drew | exact Below.drew (by assumption) | exact (‹Below w3.heap.size w3 _ ∧ _›).1)); rintro e w6 ⟨rfl, hB6⟩)
          | (go_at_call 14; (with_reducible refine (CM.out _ ?_).mono ?_); (focus (first | assumption | exact HB4.out | exact HB4.out.drew | exact Below.drew (by assumption) | exact (‹Below w3.heap.size w3 _ ∧ _›).1)); rintro e w7 ⟨rfl, hB7⟩)
          | (go_at_call 13; (with_reducible refine (CW.out _ ?_).mono ?_); (focus (first | assumption | exact HB4.out | exact HB4.out.drew | exact Below.drew (by assumption) | exact (‹Below w3.heap.size w3 _ ∧ _›).1)); rintro e w8 ⟨rfl, hB8⟩))
      all_goals
        refine NoPanic.normal ?_
        go_wp2_with fail
        go_ret
        exact ⟨rfl, HB3.out.trans ((‹Below w3.heap.size w3 _ ∧ _›).1.mono HB3.out.size)⟩

set_option maxRecDepth 100000 in
theorem lifted (os : Os) (started : os.Started) (H : Type) (enc : TypeId × Value → H) :
    ReturnsInHanded {} Try.checked os 4 .any (Rows.chunkGoodSpec.pre6 enc Try.prog Try.f4 Rows.chunkGoodRow.domain false) (Rows.chunkGoodSpec.post enc Try.prog Try.f4 false true false false) := by
  refine returnsInHanded_of_change (C := Try.checked) own started (by kernel_rfl) Try.func4
    (ChangeSpec.witness6 (enc := enc) (C := Try.checked) false ⟨#[], #[.agg #[.int .i64 0, .int .i64 0, .int .i64 0, .int .u32 0, .int .i64 0, .int .i64 0, .int .i64 0, .int .i64 0, .int .i64 0, .int .i64 0, .int .i64 0, .slice none 0 0], .agg #[.int .i64 0, .int .i64 0, .int .i64 0, .int .u32 0, .int .i64 0, .int .i64 0, .int .i64 0, .int .i64 0, .int .i64 0, .int .i64 0, .int .i64 0, .slice none 0 0]], []⟩ 8 (by kernel_rfl) (by kernel_rfl) (by kernel_rfl) (by kernel_rfl)) ?_
  intro W base args ds gs before hval0 hW hcnd _
  have hval : ∀ (j : Nat) t v, Try.f4.params[j]? = some t → args[j]? = some v → Value.okWide Try.prog W .any base t v := hval0
  have hW' := hW
  obtain ⟨p, q, hA0, hV, rfl, hfz, hnd⟩ := hW
  have hA : DataW.TrodAll enc Try.prog W 0 (fun _ => true) true Try.f4.params.toList args.toList ds p := hA0
  rw [Try.params4] at hA hval
  obtain ⟨v0, vs0, d0, ds0, p0, q0, hargs, rfl, rfl, h0, r0⟩ := trodAll_cons hA
  obtain ⟨v1, vs1, d1, ds1, p1, q1, rfl, rfl, rfl, h1, r1⟩ := trodAll_cons r0
  obtain ⟨rfl, rfl, rfl⟩ := trodAll_nil r1
  obtain rfl : args = #[v0, v1] := by cases args; simp_all
  obtain ⟨rfl, rfl⟩ := trodVars_none hV
  have k0 := h0
  have lt0 : ∀ x ∈ p0, x.block < W.heap.size := by obtain ⟨m, hm⟩ := k0; exact DataW.trod_lt m _ _ _ hm
  obtain ⟨a0, rfl, w0⟩ := Hed.open_pk (hval 0 27 v0 rfl rfl) h0
  have k1 := h1
  have lt1 : ∀ x ∈ p1, x.block < W.heap.size := by obtain ⟨m, hm⟩ := k1; exact DataW.trod_lt m _ _ _ hm
  obtain ⟨a1, rfl, w1⟩ := Hed.open_pk (hval 1 27 v1 rfl rfl) h1
  clear hA0 hval0
  refine (walk a0 a1 W w0 w1).mono fun e W' ⟨he, bel⟩ => ?_
  subst he
  exact ⟨_, rfl, _, _, _, [], _, [], hW', trodAll_mk1 (shut_bool Try.underlying4 _), (trodAll_cons_mk (Below.trod laidOut (by kernel_rfl) (of_decide_eq_true (by kernel_rfl)) k0 bel lt0) (trodAll_cons_mk (Below.trod laidOut (by kernel_rfl) (of_decide_eq_true (by kernel_rfl)) k1 bel lt1) trodAll_mk0)), rfl, bel.frame _, fun h => by cases h⟩

theorem over : Rows.chunkGoodRow.holds Try.pinned (OpenSpec.ofChange Rows.chunkGoodSpec) :=
  OpenClaim.holds_of_wide 4 Try.f4 rfl rfl rfl rfl rfl rfl rfl ⟨rfl, rfl, rfl, rfl, rfl⟩ rfl rfl rfl rfl rfl (by kernel_rfl) Try.func4 (by kernel_rfl)
    (of_decide_eq_true (by kernel_rfl)) (by unfold Func.isWrapper; first | (rw [if_pos (by decide +kernel)]; kernel_rfl) | (rw [if_neg (by decide +kernel)]; exact ⟨rfl, rfl⟩))
    (fun os started H enc _ => lifted os started H enc)

theorem proved : Rows.ChunkGoodSaid := over
#print axioms proved
end Go.Proofs.Ytidfdlpdacbkoaa.lawChunkGood
