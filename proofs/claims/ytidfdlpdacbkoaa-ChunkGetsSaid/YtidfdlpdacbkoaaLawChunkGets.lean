/- Of any bytes what stands behind the head is read as the document says, or it is told what is wrong first. -/
import Derived.Test.YtidfdlpdacbkoaaRows
import Derived.WalkKit
import Derived.ProofKit
import Derived.OpenShut
import Derived.ShutString
import Derived.ChangeOld
import Derived.Below
import Derived.Test.YtidfdlpdacbkoaaChuK
import Derived.Test.YtidfdlpdacbkoaaChuC
import Derived.Test.YtidfdlpdacbkoaaChuU
import Derived.Test.YtidfdlpdacbkoaaDatX
import Derived.Deep.RegionHeldLaw
import Derived.Deep.Cut
import Derived.Test.YtidfdlpdacbkoaaDatM
namespace Go.Proofs.Ytidfdlpdacbkoaa.lawChunkGets
open Go.ChangeShapes Go.WideShapes Go.ChangeAt Go.RowKit
open Go.ChangeMaps (open_string shut_string)
set_option linter.unusedVariables false

theorem own : ownKnob Try.prog.godebug = none := by kernel_rfl
theorem laidOut : laidOutB Try.prog = true := by kernel_rfl

/-- What the walk is told of a slice of integers that came in. -/
def IsRow (k : IntKind) (w : World) (a : Option Addr) (len cap : Nat) (zs : List Int) : Prop :=
  (a = none ∧ len = 0 ∧ cap = 0 ∧ zs = []) ∨
  ∃ x, a = some x ∧ len ≤ cap ∧ cap ≤ maxLen ∧ zs.length = cap ∧ (∀ i, i < zs.length → w.cell? (x.add i) = some (.int k (zs.getD i 0))) ∧ ∀ n ∈ zs, (Lit.int k n).wf = true

/-! The walk: the Go text returns true and writes nothing that was there. -/
set_option linter.unusedSimpArgs false in
set_option maxRecDepth 100000 in
set_option maxHeartbeats 4000000 in
theorem walk (a0 : Option Addr) (len0 cap0 : Nat) (z0 : List Int) (a1 : Hed.Pk) (w : World) (w0 : IsRow .u8 w a0 len0 cap0 z0) (w1 : Hed.Ok w a1) :
    Calls Try.prog 6 #[.slice a0 len0 cap0, Hed.pval a1] w fun e w' => e = .returned (.bool true) ∧ Below w.heap.size w w' := by
  obtain ⟨xa, HX0, HXL0, hlc0, hcm0, HXN0, hxs0⟩ := Byt.rd_of_row w0
  clear w0 hxs0
  have hl0 := HXL0.out
  have hr0 := w1.rd
  have hn0 := w1.nil
  have hle0 := w1.le
  have hm0 := w1.max
  obtain ⟨wb, hwb⟩ : ∃ wb, Hid (wb = w.alloc (.cells (Hed.Pk.cells a1) 27)) := ⟨_, Lib.hid rfl⟩
  have HB0 := Lib.hid (Hed.one_box w wb _ _ hwb.out).1
  have HBx := Lib.hid (Hed.one_box w wb _ _ hwb.out).2
  have HRD : Hid (∀ W, Below wb.heap.size wb W → Byt.RdB W a0 (xa.take 120)) := Lib.hid (fun W hW => (HX0.out.below (HB0.out.trans (hW.mono HB0.out.size))).take 120)
  have HE : Hid ((min (len0 : Int) 120).toNat = (xa.take 120).length) := Lib.hid (by rw [List.length_take]; omega)
  have HYs : Hid ((xa.take 120).length ≤ 120) := Lib.hid (by rw [List.length_take]; omega)
  have HCF : Hid (∀ W, Below wb.heap.size wb W → _ ∧ _) := Lib.hid (fun W hW => ⟨Hed.blk_cells (HBx.out.below hW), Dat.blk_free (HBx.out.below hW)⟩)
  have CCut : Hid (∀ W, Below wb.heap.size wb W → Calls Try.prog 7 #[Hed.pval a1] W fun e w' => ∃ ad' cap', e = .returned (Hed.pval (Dat.bodP a1 ad' cap' (a1.body.take 80))) ∧ Hid (Below W.heap.size W w') ∧ Below wb.heap.size wb w') := Lib.hid (fun W hW => (Chu.ccut_any a1 W (hr0.below (HB0.out.trans (hW.mono HB0.out.size))) hn0 hle0 hm0).mono fun e w' h => by
    obtain ⟨ad', cap', rfl, h1, h2⟩ := h
    exact ⟨ad', cap', rfl, Lib.hid h2, hW.trans (h2.mono hW.size)⟩)
  have HA : Hid (∀ o, Below wb.heap.size wb (wb.alloc o)) := Lib.hid (fun o => (Below.refl _ _).alloc (Nat.le_refl _) o)
  have HAd : Hid (∀ o, Below wb.heap.size wb (wb.drew.alloc o)) := Lib.hid (fun o => (Below.refl _ _).drew.alloc (Nat.le_refl _) o)
  have HAw : Hid (∀ W, Below wb.heap.size wb W → ∀ o, Below wb.heap.size wb (W.alloc o)) := Lib.hid (fun W hW o => hW.alloc hW.size o)
  have HAv : Hid (∀ W, Below wb.heap.size wb W → ∀ o, Below wb.heap.size wb (W.drew.alloc o)) := Lib.hid (fun W hW o => hW.drew.alloc hW.size o)
  have HTr : Hid (∀ W V, Below wb.heap.size wb W → Below W.heap.size W V → Below wb.heap.size wb V) := Lib.hid (fun W V h1 h2 => h1.trans (h2.mono h1.size))
  have hin : (len0 : Int) ≤ (cap0 : Int) ∧ (cap0 : Int) ≤ 9223372036854775807 := by omega
  obtain ⟨hin1, hin2⟩ := hin
  have hmin1 : 0 ≤ min (len0 : Int) 120 := by omega
  have hmin2 : min (len0 : Int) 120 ≤ (cap0 : Int) := by omega
  clear HX0 HXL0 hl0 w1 hr0 hn0 hle0 hm0
  generalize xa.take 120 = xs at *
  unfold Dat.bodP at CCut
  generalize a1.body.take 80 = y0 at *
  obtain ⟨kind, ⟨t, f, s⟩, hops, no, to, index, total, stamp, value, ad, cap, body⟩ := a1
  unfold Hed.pval Hed.Pk.cells at CCut
  unfold Hed.Pk.cells at hwb HBx
  unfold Hed.pval Hed.Pk.cells
  simp only at CCut hwb HBx HCF ⊢
  obtain ⟨n, hn⟩ : ∃ n, body.length = n := ⟨_, rfl⟩
  obtain ⟨m, hmm⟩ : ∃ m, y0.length = m := ⟨_, rfl⟩
  simp only [hn] at CCut hwb HBx HCF ⊢
  simp only [hmm] at CCut
  have HM := Lib.hid hmm
  have HN := Lib.hid hn
  clear hn hmm
  go_enter Try.func6, Try.ntmps6
  go_upto_region 1 with fail
  rw [← hwb.out]
  go_cut [0] from 11 (fun v W => ∃ adb capb ad1 cap1, v = .slice adb xs.length capb ∧ Hid (Below w.heap.size w W ∧ Buf.Blk W w.heap.size 27 #[.int .i64 kind, .int .i64 t, .int .i64 f, .int .u32 s, .int .i64 hops, .int .i64 no, .int .i64 to, .int .i64 index, .int .i64 total, .int .i64 stamp, .int .i64 value, .slice ad1 m cap1] ∧ Buf.RdS W W.heap.size adb xs.length capb xs))
  case first =>
    obtain ⟨⟨c0, c1, c2, c3, c4, c5, c6, c7, c8, c9, c10, c11⟩, ⟨f0, f1, f2, f3, f4, f5, f6, f7, f8, f9, f10, f11⟩⟩ := HCF.out wb (Below.refl _ _)
    refine wp_region_noPanic ?_
    refine wp_region_any (by kernel_rfl) ?_
    try (change wpAny _ _ _ _ _ _ _ (World.drew _))
    refine wpAny_take (i := 1) (v := ?_) rfl (by kernel_rfl) (by kernel_rfl) (by kernel_rfl) (fun _ _ _ h => h) (Or.inl ⟨by kernel_rfl, ?_⟩) ?_
    rotate_left 1
    focus (intro w; go_simp; try with_reducible rfl)
    refine wpAny_take (i := 2) (v := ?_) rfl (by kernel_rfl) (by kernel_rfl) (by kernel_rfl) (fun _ _ _ h => h) (Or.inl ⟨by kernel_rfl, ?_⟩) ?_
    rotate_left 1
    focus (intro w; go_simp; try with_reducible rfl)
    refine wpAny_take (i := 3) (v := ?_) rfl (by kernel_rfl) (by kernel_rfl) (by kernel_rfl) (fun _ _ _ h => h) (Or.inl ⟨by kernel_rfl, ?_⟩) ?_
    rotate_left 1
    focus (intro w; go_simp; try with_reducible rfl)
    refine wpAny_take (i := 4) (v := ?_) rfl (by kernel_rfl) (by kernel_rfl) (by kernel_rfl) (fun _ _ _ h => h) (Or.inl ⟨by kernel_rfl, ?_⟩) ?_
    rotate_left 1
    focus (intro w; go_simp; try with_reducible rfl)
    refine wpAny_take (i := 5) (v := ?_) rfl (by kernel_rfl) (by kernel_rfl) (by kernel_rfl) (fun _ _ _ h => h) (Or.inl ⟨by kernel_rfl, ?_⟩) ?_
    rotate_left 1
    focus (intro w; go_simp; try with_reducible rfl)
    refine wpAny_ready (rs := [0, 7]) (by kernel_rfl) (by simp) ?_
    refine AllReady.cons rfl (fun K hK => ?_) ?_
    · go_simp
      clear c0 c1 c2 c3 c4 c5 c6 c7 c8 c9 c10 c11 f0 f1 f2 f3 f4 f5 f6 f7 f8 f9 f10 f11
      obtain ⟨⟨c0, c1, c2, c3, c4, c5, c6, c7, c8, c9, c10, c11⟩, ⟨f0, f1, f2, f3, f4, f5, f6, f7, f8, f9, f10, f11⟩⟩ := HCF.out _ (HA.out (.cells #[] 5))
      first
        | (refine hK _ _ ?_; clear hK K)
        | skip
      refine wpAny_ready (rs := [6, 7]) (by kernel_rfl) (by simp) ?_
      refine AllReady.cons rfl (fun K hK => ?_) ?_
      · refine Dat.step_app0 rfl _ _ rfl (wb.heap.size) ?_ a0 _ cap0 xs ?_ HE.out (HRD.out _ ?_) (by simp) (by have := HE.out; have := HYs.out; omega) ?_
        · simp [Act.eval, Act.put]
        · simp [Act.eval, Act.put]
        · (first | assumption | exact (Below.refl _ _) | exact (Below.refl _ _).drew | exact HA.out _ | exact (HA.out _).drew | exact HAd.out _ | exact (HAd.out _).drew | exact HAw.out _ (by assumption) _ | exact (HAw.out _ (by assumption) _).drew | exact HAv.out _ (by assumption) _ | exact (HAv.out _ (by assumption) _).drew | exact Below.drew (by assumption))
        intro adb capb w4 hrs hB4
        have hT4 : Below wb.heap.size wb w4 := HTr.out _ _ (by (first | assumption | exact (Below.refl _ _) | exact (Below.refl _ _).drew | exact HA.out _ | exact (HA.out _).drew | exact HAd.out _ | exact (HAd.out _).drew | exact HAw.out _ (by assumption) _ | exact (HAw.out _ (by assumption) _).drew | exact HAv.out _ (by assumption) _ | exact (HAv.out _ (by assumption) _).drew | exact Below.drew (by assumption))) hB4
        clear c0 c1 c2 c3 c4 c5 c6 c7 c8 c9 c10 c11 f0 f1 f2 f3 f4 f5 f6 f7 f8 f9 f10 f11
        obtain ⟨⟨c0, c1, c2, c3, c4, c5, c6, c7, c8, c9, c10, c11⟩, ⟨f0, f1, f2, f3, f4, f5, f6, f7, f8, f9, f10, f11⟩⟩ := HCF.out w4 hT4
        first
          | (refine hK _ _ ?_; clear hK K)
          | skip
        refine wpAny_ready (rs := [7]) (by kernel_rfl) (by simp) ?_
        refine AllReady.cons rfl (fun K hK => ?_) ?_
        · go_simp
          first
            | (refine hK _ _ ?_; clear hK K)
            | skip
          refine wpAny_ready (rs := [8]) (by kernel_rfl) (by simp) ?_
          refine AllReady.cons rfl (fun K hK => ?_) ?_
          · go_simp
            go_wp2_with (go_at_call 7; (with_reducible refine (CCut.out _ ?_).mono ?_); (first | assumption | exact (Below.refl _ _) | exact (Below.refl _ _).drew | exact HA.out _ | exact (HA.out _).drew | exact HAd.out _ | exact (HAd.out _).drew | exact HAw.out _ (by assumption) _ | exact (HAw.out _ (by assumption) _).drew | exact HAv.out _ (by assumption) _ | exact (HAv.out _ (by assumption) _).drew | exact Below.drew (by assumption)); rintro e w3 ⟨ad1, cap1, rfl, hK3, hB3⟩; clear c0 c1 c2 c3 c4 c5 c6 c7 c8 c9 c10 c11 f0 f1 f2 f3 f4 f5 f6 f7 f8 f9 f10 f11; obtain ⟨⟨c0, c1, c2, c3, c4, c5, c6, c7, c8, c9, c10, c11⟩, ⟨f0, f1, f2, f3, f4, f5, f6, f7, f8, f9, f10, f11⟩⟩ := HCF.out w3 hB3)
            first
              | (refine hK _ _ ?_; clear hK K)
              | skip
            refine wpAny_take (i := 9) (v := ?_) rfl (by kernel_rfl) (by kernel_rfl) (by kernel_rfl) (fun _ _ _ h => h) (Or.inl ⟨by kernel_rfl, ?_⟩) ?_
            rotate_left 1
            focus (intro w; go_simp; try with_reducible rfl)
            refine wpAny_ready (rs := [10]) (by kernel_rfl) (by simp) ?_
            refine AllReady.cons rfl (fun K hK => ?_) ?_
            · go_simp
              first
                | (refine hK _ _ ?_; clear hK K)
                | skip
              refine wpAny_done (by kernel_rfl) ?_ _
              refine NoPanic.normal ?_
              have hP : Buf.Blk w3 w.heap.size 27 (Hed.Pk.cells ⟨kind, (t, f, s), hops, no, to, index, total, stamp, value, ad, cap, body⟩) := by
                unfold Hed.Pk.cells
                simp only [HN.out]
                exact HBx.out.below hB3
              obtain ⟨hb, ha⟩ := Dat.row12 ⟨kind, (t, f, s), hops, no, to, index, total, stamp, value, ad, cap, body⟩ hP (.int .i64 kind) (.int .i64 t) (.int .i64 f) (.int .u32 s) (.int .i64 hops) (.int .i64 no) (.int .i64 to) (.int .i64 index) (.int .i64 total) (.int .i64 stamp) (.int .i64 value) (.slice ad1 m cap1)
              have HQ1 := Lib.hid (HB0.out.trans ((hB3.mono HB0.out.size).trans (ha.below (Nat.le_refl _))))
              have HQ2 := Lib.hid hb
              have HQ3 := Lib.hid (Dat.rds_far _ hrs (fun b hb => hK3.out.block b hb) (Nat.le_trans hK3.out.size (Nat.le_of_eq ha.size.symm)) hP ha)
              clear c0 c1 c2 c3 c4 c5 c6 c7 c8 c9 c10 c11 f0 f1 f2 f3 f4 f5 f6 f7 f8 f9 f10 f11 hb ha hrs hP
              go_wp2_with fail
              go_meet
              case rel => exact ⟨adb, capb, ad1, cap1, by rw [HE.out], Lib.hid ⟨HQ1.out, HQ2.out, by rw [← HE.out]; exact HQ3.out⟩⟩
            exact AllReady.nil
          exact AllReady.nil
        exact AllReady.nil
      refine AllReady.cons rfl (fun K hK => ?_) ?_
      · go_simp
        first
          | (refine hK _ _ ?_; clear hK K)
          | skip
        refine wpAny_ready (rs := [6]) (by kernel_rfl) (by simp) ?_
        refine AllReady.cons rfl (fun K hK => ?_) ?_
        · refine Dat.step_app0 rfl _ _ rfl (wb.heap.size) ?_ a0 _ cap0 xs ?_ HE.out (HRD.out _ ?_) (by simp) (by have := HE.out; have := HYs.out; omega) ?_
          · simp [Act.eval, Act.put]
          · simp [Act.eval, Act.put]
          · (first | assumption | exact (Below.refl _ _) | exact (Below.refl _ _).drew | exact HA.out _ | exact (HA.out _).drew | exact HAd.out _ | exact (HAd.out _).drew | exact HAw.out _ (by assumption) _ | exact (HAw.out _ (by assumption) _).drew | exact HAv.out _ (by assumption) _ | exact (HAv.out _ (by assumption) _).drew | exact Below.drew (by assumption))
          intro adb capb w4 hrs hB4
          have hT4 : Below wb.heap.size wb w4 := HTr.out _ _ (by (first | assumption | exact (Below.refl _ _) | exact (Below.refl _ _).drew | exact HA.out _ | exact (HA.out _).drew | exact HAd.out _ | exact (HAd.out _).drew | exact HAw.out _ (by assumption) _ | exact (HAw.out _ (by assumption) _).drew | exact HAv.out _ (by assumption) _ | exact (HAv.out _ (by assumption) _).drew | exact Below.drew (by assumption))) hB4
          clear c0 c1 c2 c3 c4 c5 c6 c7 c8 c9 c10 c11 f0 f1 f2 f3 f4 f5 f6 f7 f8 f9 f10 f11
          obtain ⟨⟨c0, c1, c2, c3, c4, c5, c6, c7, c8, c9, c10, c11⟩, ⟨f0, f1, f2, f3, f4, f5, f6, f7, f8, f9, f10, f11⟩⟩ := HCF.out w4 hT4
          first
            | (refine hK _ _ ?_; clear hK K)
            | skip
          refine wpAny_ready (rs := [8]) (by kernel_rfl) (by simp) ?_
          refine AllReady.cons rfl (fun K hK => ?_) ?_
          · go_simp
            go_wp2_with (go_at_call 7; (with_reducible refine (CCut.out _ ?_).mono ?_); (first | assumption | exact (Below.refl _ _) | exact (Below.refl _ _).drew | exact HA.out _ | exact (HA.out _).drew | exact HAd.out _ | exact (HAd.out _).drew | exact HAw.out _ (by assumption) _ | exact (HAw.out _ (by assumption) _).drew | exact HAv.out _ (by assumption) _ | exact (HAv.out _ (by assumption) _).drew | exact Below.drew (by assumption)); rintro e w3 ⟨ad1, cap1, rfl, hK3, hB3⟩; clear c0 c1 c2 c3 c4 c5 c6 c7 c8 c9 c10 c11 f0 f1 f2 f3 f4 f5 f6 f7 f8 f9 f10 f11; obtain ⟨⟨c0, c1, c2, c3, c4, c5, c6, c7, c8, c9, c10, c11⟩, ⟨f0, f1, f2, f3, f4, f5, f6, f7, f8, f9, f10, f11⟩⟩ := HCF.out w3 hB3)
            first
              | (refine hK _ _ ?_; clear hK K)
              | skip
            refine wpAny_take (i := 9) (v := ?_) rfl (by kernel_rfl) (by kernel_rfl) (by kernel_rfl) (fun _ _ _ h => h) (Or.inl ⟨by kernel_rfl, ?_⟩) ?_
            rotate_left 1
            focus (intro w; go_simp; try with_reducible rfl)
            refine wpAny_ready (rs := [10]) (by kernel_rfl) (by simp) ?_
            refine AllReady.cons rfl (fun K hK => ?_) ?_
            · go_simp
              first
                | (refine hK _ _ ?_; clear hK K)
                | skip
              refine wpAny_done (by kernel_rfl) ?_ _
              refine NoPanic.normal ?_
              have hP : Buf.Blk w3 w.heap.size 27 (Hed.Pk.cells ⟨kind, (t, f, s), hops, no, to, index, total, stamp, value, ad, cap, body⟩) := by
                unfold Hed.Pk.cells
                simp only [HN.out]
                exact HBx.out.below hB3
              obtain ⟨hb, ha⟩ := Dat.row12 ⟨kind, (t, f, s), hops, no, to, index, total, stamp, value, ad, cap, body⟩ hP (.int .i64 kind) (.int .i64 t) (.int .i64 f) (.int .u32 s) (.int .i64 hops) (.int .i64 no) (.int .i64 to) (.int .i64 index) (.int .i64 total) (.int .i64 stamp) (.int .i64 value) (.slice ad1 m cap1)
              have HQ1 := Lib.hid (HB0.out.trans ((hB3.mono HB0.out.size).trans (ha.below (Nat.le_refl _))))
              have HQ2 := Lib.hid hb
              have HQ3 := Lib.hid (Dat.rds_far _ hrs (fun b hb => hK3.out.block b hb) (Nat.le_trans hK3.out.size (Nat.le_of_eq ha.size.symm)) hP ha)
              clear c0 c1 c2 c3 c4 c5 c6 c7 c8 c9 c10 c11 f0 f1 f2 f3 f4 f5 f6 f7 f8 f9 f10 f11 hb ha hrs hP
              go_wp2_with fail
              go_meet
              case rel => exact ⟨adb, capb, ad1, cap1, by rw [HE.out], Lib.hid ⟨HQ1.out, HQ2.out, by rw [← HE.out]; exact HQ3.out⟩⟩
            exact AllReady.nil
          exact AllReady.nil
        exact AllReady.nil
      exact AllReady.nil
    refine AllReady.cons rfl (fun K hK => ?_) ?_
    · go_simp
      first
        | (refine hK _ _ ?_; clear hK K)
        | skip
      refine wpAny_ready (rs := [0]) (by kernel_rfl) (by simp) ?_
      refine AllReady.cons rfl (fun K hK => ?_) ?_
      · go_simp
        clear c0 c1 c2 c3 c4 c5 c6 c7 c8 c9 c10 c11 f0 f1 f2 f3 f4 f5 f6 f7 f8 f9 f10 f11
        obtain ⟨⟨c0, c1, c2, c3, c4, c5, c6, c7, c8, c9, c10, c11⟩, ⟨f0, f1, f2, f3, f4, f5, f6, f7, f8, f9, f10, f11⟩⟩ := HCF.out _ (HA.out (.cells #[] 5))
        first
          | (refine hK _ _ ?_; clear hK K)
          | skip
        refine wpAny_ready (rs := [6]) (by kernel_rfl) (by simp) ?_
        refine AllReady.cons rfl (fun K hK => ?_) ?_
        · refine Dat.step_app0 rfl _ _ rfl (wb.heap.size) ?_ a0 _ cap0 xs ?_ HE.out (HRD.out _ ?_) (by simp) (by have := HE.out; have := HYs.out; omega) ?_
          · simp [Act.eval, Act.put]
          · simp [Act.eval, Act.put]
          · (first | assumption | exact (Below.refl _ _) | exact (Below.refl _ _).drew | exact HA.out _ | exact (HA.out _).drew | exact HAd.out _ | exact (HAd.out _).drew | exact HAw.out _ (by assumption) _ | exact (HAw.out _ (by assumption) _).drew | exact HAv.out _ (by assumption) _ | exact (HAv.out _ (by assumption) _).drew | exact Below.drew (by assumption))
          intro adb capb w4 hrs hB4
          have hT4 : Below wb.heap.size wb w4 := HTr.out _ _ (by (first | assumption | exact (Below.refl _ _) | exact (Below.refl _ _).drew | exact HA.out _ | exact (HA.out _).drew | exact HAd.out _ | exact (HAd.out _).drew | exact HAw.out _ (by assumption) _ | exact (HAw.out _ (by assumption) _).drew | exact HAv.out _ (by assumption) _ | exact (HAv.out _ (by assumption) _).drew | exact Below.drew (by assumption))) hB4
          clear c0 c1 c2 c3 c4 c5 c6 c7 c8 c9 c10 c11 f0 f1 f2 f3 f4 f5 f6 f7 f8 f9 f10 f11
          obtain ⟨⟨c0, c1, c2, c3, c4, c5, c6, c7, c8, c9, c10, c11⟩, ⟨f0, f1, f2, f3, f4, f5, f6, f7, f8, f9, f10, f11⟩⟩ := HCF.out w4 hT4
          first
            | (refine hK _ _ ?_; clear hK K)
            | skip
          refine wpAny_ready (rs := [8]) (by kernel_rfl) (by simp) ?_
          refine AllReady.cons rfl (fun K hK => ?_) ?_
          · go_simp
            go_wp2_with (go_at_call 7; (with_reducible refine (CCut.out _ ?_).mono ?_); (first | assumption | exact (Below.refl _ _) | exact (Below.refl _ _).drew | exact HA.out _ | exact (HA.out _).drew | exact HAd.out _ | exact (HAd.out _).drew | exact HAw.out _ (by assumption) _ | exact (HAw.out _ (by assumption) _).drew | exact HAv.out _ (by assumption) _ | exact (HAv.out _ (by assumption) _).drew | exact Below.drew (by assumption)); rintro e w3 ⟨ad1, cap1, rfl, hK3, hB3⟩; clear c0 c1 c2 c3 c4 c5 c6 c7 c8 c9 c10 c11 f0 f1 f2 f3 f4 f5 f6 f7 f8 f9 f10 f11; obtain ⟨⟨c0, c1, c2, c3, c4, c5, c6, c7, c8, c9, c10, c11⟩, ⟨f0, f1, f2, f3, f4, f5, f6, f7, f8, f9, f10, f11⟩⟩ := HCF.out w3 hB3)
            first
              | (refine hK _ _ ?_; clear hK K)
              | skip
            refine wpAny_take (i := 9) (v := ?_) rfl (by kernel_rfl) (by kernel_rfl) (by kernel_rfl) (fun _ _ _ h => h) (Or.inl ⟨by kernel_rfl, ?_⟩) ?_
            rotate_left 1
            focus (intro w; go_simp; try with_reducible rfl)
            refine wpAny_ready (rs := [10]) (by kernel_rfl) (by simp) ?_
            refine AllReady.cons rfl (fun K hK => ?_) ?_
            · go_simp
              first
                | (refine hK _ _ ?_; clear hK K)
                | skip
              refine wpAny_done (by kernel_rfl) ?_ _
              refine NoPanic.normal ?_
              have hP : Buf.Blk w3 w.heap.size 27 (Hed.Pk.cells ⟨kind, (t, f, s), hops, no, to, index, total, stamp, value, ad, cap, body⟩) := by
                unfold Hed.Pk.cells
                simp only [HN.out]
                exact HBx.out.below hB3
              obtain ⟨hb, ha⟩ := Dat.row12 ⟨kind, (t, f, s), hops, no, to, index, total, stamp, value, ad, cap, body⟩ hP (.int .i64 kind) (.int .i64 t) (.int .i64 f) (.int .u32 s) (.int .i64 hops) (.int .i64 no) (.int .i64 to) (.int .i64 index) (.int .i64 total) (.int .i64 stamp) (.int .i64 value) (.slice ad1 m cap1)
              have HQ1 := Lib.hid (HB0.out.trans ((hB3.mono HB0.out.size).trans (ha.below (Nat.le_refl _))))
              have HQ2 := Lib.hid hb
              have HQ3 := Lib.hid (Dat.rds_far _ hrs (fun b hb => hK3.out.block b hb) (Nat.le_trans hK3.out.size (Nat.le_of_eq ha.size.symm)) hP ha)
              clear c0 c1 c2 c3 c4 c5 c6 c7 c8 c9 c10 c11 f0 f1 f2 f3 f4 f5 f6 f7 f8 f9 f10 f11 hb ha hrs hP
              go_wp2_with fail
              go_meet
              case rel => exact ⟨adb, capb, ad1, cap1, by rw [HE.out], Lib.hid ⟨HQ1.out, HQ2.out, by rw [← HE.out]; exact HQ3.out⟩⟩
            exact AllReady.nil
          exact AllReady.nil
        exact AllReady.nil
      exact AllReady.nil
    exact AllReady.nil
  case rest =>
    obtain ⟨adb, capb, ad1, cap1, rfl, HQ⟩ := hcut
    clear HBx HRD HE HCF CCut HA HAd HAw HAv HTr hmin1 hmin2 hin1 hin2 HB0 hwb
    have HB3 := Lib.hid HQ.out.1
    have CRd := Lib.hid (Buf.read_any adb xs.length capb xs wc rfl (by have := HYs.out; omega) HQ.out.2.2.rd HQ.out.2.2.lies.1)
    have HZ : Hid (∀ (W : World) (b : Nat) adx capx (y : List UInt8), Buf.Blk W b 27 (Hed.Pk.cells ⟨kind, (t, f, s), hops, no, to, index, total, stamp, value, adx, capx, y⟩) → _ ∧ _) := Lib.hid (fun W b adx capx y h => Hed.blk_cells h)
    have HC : Hid (∀ W, Below wc.heap.size wc W → _ ∧ _) := Lib.hid (fun W hW => HZ.out W w.heap.size ad1 cap1 y0 (by unfold Hed.Pk.cells; simp only [HM.out]; exact HQ.out.2.1.below hW))
    simp only [HM.out] at HC
    have CW := Lib.hid (fun W => Chu.cworks_any W)
    obtain ⟨c0, c1, c2, c3, c4, c5, c6, c7, c8, c9, c10, c11⟩ := HC.out wc (Below.refl _ _)
    go_wp2_with fail
    refine (CRd.out).mono ?_; rintro e w2 ⟨g, rfl, hr2, hB2, hge2, -⟩
    have HB2 := Lib.hid hB2
    have HG2 := Lib.hid hge2
    clear c0 c1 c2 c3 c4 c5 c6 c7 c8 c9 c10 c11 CRd hge2 hB2 HZ
    obtain ⟨c0, c1, c2, c3, c4, c5, c6, c7, c8, c9, c10, c11⟩ := HC.out w2 HB2.out
    by_cases her : Chu.dE xs = 0
    · have CG : Hid (Calls Try.prog 20 #[.pointer (some ⟨g, 0, none⟩), Hed.pval ⟨kind, (t, f, s), hops, no, to, index, total, stamp, value, ad1, cap1, y0⟩] w2 fun e w' => ∃ ad cap, e = .returned (.tuple #[Hed.pval (Pkt.memP (Chu.dP ⟨kind, (t, f, s), hops, no, to, index, total, stamp, value, ad1, cap1, y0⟩ xs) ad cap), .int .i64 0]) ∧ Hid (Byt.RdB w' ad (Chu.dP ⟨kind, (t, f, s), hops, no, to, index, total, stamp, value, ad1, cap1, y0⟩ xs).body) ∧ Hid (Buf.RR w' g (0, Chu.dR xs)) ∧ Hid (Below wc.heap.size wc w')) := Lib.hid ((Chu.ucget_ok ⟨kind, (t, f, s), hops, no, to, index, total, stamp, value, ad1, cap1, y0⟩ g xs w2 hr2 her).mono fun e w' hx => by
        obtain ⟨ad, cap, rfl, ho, h1, h2⟩ := hx
        exact ⟨ad, cap, rfl, Lib.hid ho.out.rd.1, h1, Lib.hid (HB2.out.trans (h2.out.below.mono HG2.out))⟩)
      have CR : Hid (∀ W, Below wc.heap.size wc W → Calls Try.prog 22 #[.slice adb xs.length capb, Hed.pval ⟨kind, (t, f, s), hops, no, to, index, total, stamp, value, ad1, cap1, y0⟩] W fun e w' => ∃ ad cap ad2 cap2, e = .returned (.tuple #[Hed.pval (Pkt.memP (Chu.dP ⟨kind, (t, f, s), hops, no, to, index, total, stamp, value, ad1, cap1, y0⟩ xs) ad cap), .slice ad2 (Chu.dR xs).length cap2, .int .i64 0]) ∧ Hid (Byt.RdB w' ad (Chu.dP ⟨kind, (t, f, s), hops, no, to, index, total, stamp, value, ad1, cap1, y0⟩ xs).body) ∧ Hid (Below W.heap.size W w')) := Lib.hid (fun W hW => (Chu.drcget_ok ⟨kind, (t, f, s), hops, no, to, index, total, stamp, value, ad1, cap1, y0⟩ adb xs.length capb wc.heap.size xs W (HQ.out.2.2.kept fun b hb => hW.block b hb) hW.size her).mono fun e w' hx => by
        obtain ⟨ad, cap, ad2, cap2, rfl, h1, h2⟩ := hx
        exact ⟨ad, cap, ad2, cap2, rfl, h1, Lib.hid h2⟩)
      have CS : Hid (∀ W ad cap ad2 cap2, Byt.RdB W ad (Chu.dP ⟨kind, (t, f, s), hops, no, to, index, total, stamp, value, ad1, cap1, y0⟩ xs).body → Byt.RdB W ad2 (Chu.dP ⟨kind, (t, f, s), hops, no, to, index, total, stamp, value, ad1, cap1, y0⟩ xs).body → Calls Try.prog 10 #[Hed.pval (Pkt.memP (Chu.dP ⟨kind, (t, f, s), hops, no, to, index, total, stamp, value, ad1, cap1, y0⟩ xs) ad cap), Hed.pval (Pkt.memP (Chu.dP ⟨kind, (t, f, s), hops, no, to, index, total, stamp, value, ad1, cap1, y0⟩ xs) ad2 cap2)] W fun e w' => e = .returned (.bool true) ∧ Below W.heap.size W w') := Lib.hid (fun W ad cap ad2 cap2 h1 h2 => by
        have := Hed.rsame_any (Pkt.memP (Chu.dP ⟨kind, (t, f, s), hops, no, to, index, total, stamp, value, ad1, cap1, y0⟩ xs) ad cap) (Pkt.memP (Chu.dP ⟨kind, (t, f, s), hops, no, to, index, total, stamp, value, ad1, cap1, y0⟩ xs) ad2 cap2) W h1 h2
        rwa [show Hed.eqP (Pkt.memP (Chu.dP ⟨kind, (t, f, s), hops, no, to, index, total, stamp, value, ad1, cap1, y0⟩ xs) ad cap) (Pkt.memP (Chu.dP ⟨kind, (t, f, s), hops, no, to, index, total, stamp, value, ad1, cap1, y0⟩ xs) ad2 cap2) = true from Hed.eqP_self (Chu.dP ⟨kind, (t, f, s), hops, no, to, index, total, stamp, value, ad1, cap1, y0⟩ xs)] at this)
      clear her hr2 HYs
      generalize (Chu.dP ⟨kind, (t, f, s), hops, no, to, index, total, stamp, value, ad1, cap1, y0⟩ xs) = qF at *
      generalize Chu.dR xs = rest at *
      obtain ⟨kind2, ⟨t2, f2, s2⟩, hops2, no2, to2, index2, total2, stamp2, value2, adq, capq, body2⟩ := qF
      have HZo : Hid (∀ (W : World) (b : Nat) adx capx, Buf.Blk W b 27 (Hed.Pk.cells ⟨kind2, (t2, f2, s2), hops2, no2, to2, index2, total2, stamp2, value2, adx, capx, body2⟩) → _ ∧ _) := Lib.hid (fun W b adx capx h => Hed.blk_cells h)
      unfold Pkt.memP at CG CR CS
      unfold Hed.pval Hed.Pk.cells at CG CR CS
      unfold Hed.Pk.cells at HZo
      obtain ⟨o, ho⟩ : ∃ o, body2.length = o := ⟨_, rfl⟩
      simp only [HM.out, ho] at CG CR CS HZo
      obtain ⟨k, hk⟩ : ∃ k, xs.length = k := ⟨_, rfl⟩
      obtain ⟨r, hr⟩ : ∃ r, rest.length = r := ⟨_, rfl⟩
      simp only [hk, hr] at CR ⊢
      have HL := Lib.hid hr
      clear hk ho hr
      go_wp2_with fail
      refine (CG.out).mono ?_; rintro e w4 ⟨ad7, cap7, rfl, HO4, HR4, HB4⟩
      clear CG
      clear c0 c1 c2 c3 c4 c5 c6 c7 c8 c9 c10 c11
      go_upto_region 4 with fail
      obtain ⟨W5, hW5⟩ : ∃ W5, Hid (W5 = w4.alloc (.cells #[.int .i64 kind2, .int .i64 t2, .int .i64 f2, .int .u32 s2, .int .i64 hops2, .int .i64 no2, .int .i64 to2, .int .i64 index2, .int .i64 total2, .int .i64 stamp2, .int .i64 value2, .slice ad7 o cap7] 27)) := ⟨_, Lib.hid rfl⟩
      rw [← hW5.out]
      have hX := Hed.one_box w4 W5 _ _ hW5.out
      have HB5 := Lib.hid (HB4.out.trans (hX.1.mono HB4.out.size))
      have HR5 := Lib.hid (HR4.out.kept hX.1)
      have bx5 := Lib.hid hX.2
      have HO5 := Lib.hid (HO4.out.below hX.1)
      clear HO4
      clear hX hW5 HR4 HB4
      have CR5 := Lib.hid (CR.out W5 HB5.out)
      obtain ⟨c0, c1, c2, c3, c4, c5, c6, c7, c8, c9, c10, c11⟩ := HC.out W5 HB5.out
      go_wp2_with fail
      refine (CR5.out).mono ?_; rintro e w6 ⟨ad8, cap8, ad9, cap9, rfl, HO6, HB6⟩
      clear c0 c1 c2 c3 c4 c5 c6 c7 c8 c9 c10 c11 CR5
      go_upto_region 5 with fail
      obtain ⟨W7, hW7⟩ : ∃ W7, Hid (W7 = w6.alloc (.cells #[.int .i64 kind2, .int .i64 t2, .int .i64 f2, .int .u32 s2, .int .i64 hops2, .int .i64 no2, .int .i64 to2, .int .i64 index2, .int .i64 total2, .int .i64 stamp2, .int .i64 value2, .slice ad8 o cap8] 27)) := ⟨_, Lib.hid rfl⟩
      rw [← hW7.out]
      have hX := Hed.one_box w6 W7 _ _ hW7.out
      have hB57 := HB6.out.trans (hX.1.mono HB6.out.size)
      have HB7 := Lib.hid (HB5.out.trans (hB57.mono HB5.out.size))
      have HR7 := Lib.hid (HR5.out.kept hB57)
      have ex := HZo.out W7 _ _ _ (bx5.out.below hB57)
      have ey := HZo.out W7 _ _ _ hX.2
      have CS7 := Lib.hid (CS.out W7 ad7 cap7 ad8 cap8 (HO5.out.below hB57) (HO6.out.below hX.1))
      clear hX hW7 hB57 HR5 HO5 HO6 bx5
      obtain ⟨c0, c1, c2, c3, c4, c5, c6, c7, c8, c9, c10, c11⟩ := ex
      obtain ⟨d0, d1, d2, d3, d4, d5, d6, d7, d8, d9, d10, d11⟩ := ey
      go_wp2_with fail
      refine (CS7.out).mono ?_; rintro e w8 ⟨rfl, hB8⟩
      have CL := Lib.hid (Buf.left_any g (0, rest) w8 (HR7.out.kept hB8))
      simp only [HL.out] at CL
      have HB8 := Lib.hid (HB7.out.trans (hB8.mono HB7.out.size))
      clear hB8
      go_wp2_with fail
      refine (CL.out).mono ?_; rintro e w' ⟨rfl, rfl⟩
      go_wp2_with fail
      refine (CW.out _).mono ?_; rintro e w9 ⟨rfl, hB9⟩
      have HB9 := Lib.hid (HB8.out.trans (hB9.mono HB8.out.size))
      clear hB9
      go_wp2_with fail
      go_ret
      exact ⟨rfl, HB3.out.trans (HB9.out.mono HB3.out.size)⟩
    · have CG : Hid (Calls Try.prog 20 #[.pointer (some ⟨g, 0, none⟩), Hed.pval ⟨kind, (t, f, s), hops, no, to, index, total, stamp, value, ad1, cap1, y0⟩] w2 fun e w' => e = .returned (.tuple #[Hed.pval Hed.zero, .int .i64 ((Chu.dE xs : Nat) : Int)]) ∧ Hid (Below wc.heap.size wc w')) := Lib.hid ((Chu.ucget_bad ⟨kind, (t, f, s), hops, no, to, index, total, stamp, value, ad1, cap1, y0⟩ g xs w2 hr2 her).mono fun e w' hx => by
        obtain ⟨rfl, h2⟩ := hx
        exact ⟨rfl, Lib.hid (HB2.out.trans (h2.below.mono HG2.out))⟩)
      have CR : Hid (∀ W, Below wc.heap.size wc W → Calls Try.prog 22 #[.slice adb xs.length capb, Hed.pval ⟨kind, (t, f, s), hops, no, to, index, total, stamp, value, ad1, cap1, y0⟩] W fun e w' => e = .returned (.tuple #[Hed.pval Hed.zero, .slice none 0 0, .int .i64 ((Chu.dE xs : Nat) : Int)]) ∧ Hid (Below W.heap.size W w')) := Lib.hid (fun W hW => (Chu.drcget_bad ⟨kind, (t, f, s), hops, no, to, index, total, stamp, value, ad1, cap1, y0⟩ adb xs.length capb wc.heap.size xs W (HQ.out.2.2.kept fun b hb => hW.block b hb) hW.size her).mono fun e w' hx => ⟨hx.1, Lib.hid hx.2⟩)
      have CS : Hid (∀ W, Calls Try.prog 10 #[Hed.pval Hed.zero, Hed.pval Hed.zero] W fun e w' => e = .returned (.bool true) ∧ Below W.heap.size W w') := Lib.hid (fun W => by
        have := Hed.rsame_any Hed.zero Hed.zero W (.inl rfl) (.inl rfl)
        rwa [Hed.eqP_self] at this)
      have hne : (((Chu.dE xs : Nat) : Int) == 0) = false := by simp; exact her
      have hne2 : (((Chu.dE xs : Nat) : Int) != 0) = true := by simp; exact her
      have hee : (((Chu.dE xs : Nat) : Int) == ((Chu.dE xs : Nat) : Int)) = true := by simp
      clear hr2 HYs her
      generalize ((Chu.dE xs : Nat) : Int) = er at *
      have HZ0 : Hid (∀ (W : World) (b : Nat), Buf.Blk W b 27 (Hed.Pk.cells Hed.zero) → _ ∧ _) := Lib.hid (fun W b h => Hed.blk_cells h)
      unfold Hed.zero at CG CR CS HZ0
      unfold Hed.pval Hed.Pk.cells at CG CR CS
      unfold Hed.Pk.cells at HZ0
      simp only [HM.out, List.length_nil] at CG CR CS HZ0
      obtain ⟨k, hk⟩ : ∃ k, xs.length = k := ⟨_, rfl⟩
      simp only [hk] at CR ⊢
      clear hk
      go_wp2_with fail
      refine (CG.out).mono ?_; rintro e w4 ⟨rfl, HB4⟩
      clear CG
      clear c0 c1 c2 c3 c4 c5 c6 c7 c8 c9 c10 c11
      go_upto_region 4 with fail
      obtain ⟨W5, hW5⟩ : ∃ W5, Hid (W5 = w4.alloc (.cells #[.int .i64 0, .int .i64 0, .int .i64 0, .int .u32 0, .int .i64 0, .int .i64 0, .int .i64 0, .int .i64 0, .int .i64 0, .int .i64 0, .int .i64 0, .slice none 0 0] 27)) := ⟨_, Lib.hid rfl⟩
      rw [← hW5.out]
      have hX := Hed.one_box w4 W5 _ _ hW5.out
      have HB5 := Lib.hid (HB4.out.trans (hX.1.mono HB4.out.size))
      have bx5 := Lib.hid hX.2
      clear hX hW5 HB4
      have CR5 := Lib.hid (CR.out W5 HB5.out)
      obtain ⟨c0, c1, c2, c3, c4, c5, c6, c7, c8, c9, c10, c11⟩ := HC.out W5 HB5.out
      go_wp2_with fail
      refine (CR5.out).mono ?_; rintro e w6 ⟨rfl, HB6⟩
      clear c0 c1 c2 c3 c4 c5 c6 c7 c8 c9 c10 c11 CR5
      go_upto_region 5 with fail
      obtain ⟨W7, hW7⟩ : ∃ W7, Hid (W7 = w6.alloc (.cells #[.int .i64 0, .int .i64 0, .int .i64 0, .int .u32 0, .int .i64 0, .int .i64 0, .int .i64 0, .int .i64 0, .int .i64 0, .int .i64 0, .int .i64 0, .slice none 0 0] 27)) := ⟨_, Lib.hid rfl⟩
      rw [← hW7.out]
      have hX := Hed.one_box w6 W7 _ _ hW7.out
      have hB57 := HB6.out.trans (hX.1.mono HB6.out.size)
      have HB7 := Lib.hid (HB5.out.trans (hB57.mono HB5.out.size))
      have ex := HZ0.out W7 _ (bx5.out.below hB57)
      have ey := HZ0.out W7 _ hX.2
      clear hX hW7 hB57 bx5
      obtain ⟨c0, c1, c2, c3, c4, c5, c6, c7, c8, c9, c10, c11⟩ := ex
      obtain ⟨d0, d1, d2, d3, d4, d5, d6, d7, d8, d9, d10, d11⟩ := ey
      go_wp2_with fail
      refine (CS.out _).mono ?_; rintro e w8 ⟨rfl, hB8⟩
      have HB8 := Lib.hid (HB7.out.trans (hB8.mono HB7.out.size))
      clear hB8
      go_wp2_with fail
      refine (CW.out _).mono ?_; rintro e w9 ⟨rfl, hB9⟩
      have HB9 := Lib.hid (HB8.out.trans (hB9.mono HB8.out.size))
      clear hB9
      go_wp2_with fail
      go_ret
      exact ⟨rfl, HB3.out.trans (HB9.out.mono HB3.out.size)⟩

set_option maxRecDepth 100000 in
theorem lifted (os : Os) (started : os.Started) (H : Type) (enc : TypeId × Value → H) :
    ReturnsInHanded {} Try.checked os 6 .any (Rows.chunkGetsSpec.pre6 enc Try.prog Try.f6 Rows.chunkGetsRow.domain false) (Rows.chunkGetsSpec.post enc Try.prog Try.f6 false true false false) := by
  refine returnsInHanded_of_change (C := Try.checked) own started (by kernel_rfl) Try.func6
    (ChangeSpec.witness6 (enc := enc) (C := Try.checked) false ⟨#[], #[.slice none 0 0, .agg #[.int .i64 0, .int .i64 0, .int .i64 0, .int .u32 0, .int .i64 0, .int .i64 0, .int .i64 0, .int .i64 0, .int .i64 0, .int .i64 0, .int .i64 0, .slice none 0 0]], []⟩ 8 (by kernel_rfl) (by kernel_rfl) (by kernel_rfl) (by kernel_rfl)) ?_
  intro W base args ds gs before hval0 hW hcnd _
  have hval : ∀ (j : Nat) t v, Try.f6.params[j]? = some t → args[j]? = some v → Value.okWide Try.prog W .any base t v := hval0
  have hW' := hW
  obtain ⟨p, q, hA0, hV, rfl, hfz, hnd⟩ := hW
  have hA : DataW.TrodAll enc Try.prog W 0 (fun _ => true) true Try.f6.params.toList args.toList ds p := hA0
  rw [Try.params6] at hA hval
  obtain ⟨v0, vs0, d0, ds0, p0, q0, hargs, rfl, rfl, h0, r0⟩ := trodAll_cons hA
  obtain ⟨v1, vs1, d1, ds1, p1, q1, rfl, rfl, rfl, h1, r1⟩ := trodAll_cons r0
  obtain ⟨rfl, rfl, rfl⟩ := trodAll_nil r1
  obtain rfl : args = #[v0, v1] := by cases args; simp_all
  obtain ⟨rfl, rfl⟩ := trodVars_none hV
  obtain ⟨a0, len0, cap0, rfl⟩ := okWide_slice Try.underlying25 (hval 0 25 v0 rfl rfl)
  have k0 := h0
  have lt0 : ∀ x ∈ p0, x.block < W.heap.size := by obtain ⟨m, hm⟩ := k0; exact DataW.trod_lt m _ _ _ hm
  obtain ⟨z0, w0⟩ : ∃ zs, IsRow .u8 W a0 len0 cap0 zs := by
    obtain ⟨fuel, hf⟩ := h0
    rcases open_ints Try.underlying25 Try.underlying5 (by kernel_rfl) hf with ⟨hcs, _⟩ | ⟨x, l, c, zs, hcs, _, hl, hm, hz, _, hcell, hwz⟩
    · simp [Value.cells] at hcs
      obtain ⟨rfl, rfl, rfl⟩ := hcs
      exact ⟨[], .inl ⟨rfl, rfl, rfl, rfl⟩⟩
    · simp [Value.cells] at hcs
      obtain ⟨rfl, rfl, rfl⟩ := hcs
      exact ⟨zs, .inr ⟨_, rfl, hl, hm, by simpa using hz, hcell, hwz⟩⟩
  have k1 := h1
  have lt1 : ∀ x ∈ p1, x.block < W.heap.size := by obtain ⟨m, hm⟩ := k1; exact DataW.trod_lt m _ _ _ hm
  obtain ⟨a1, rfl, w1⟩ := Hed.open_pk (hval 1 27 v1 rfl rfl) h1
  clear hA0 hval0
  refine (walk a0 len0 cap0 z0 a1 W w0 w1).mono fun e W' ⟨he, bel⟩ => ?_
  subst he
  exact ⟨_, rfl, _, _, _, [], _, [], hW', trodAll_mk1 (shut_bool Try.underlying4 _), (trodAll_cons_mk (Below.trod laidOut (by kernel_rfl) (of_decide_eq_true (by kernel_rfl)) k0 bel lt0) (trodAll_cons_mk (Below.trod laidOut (by kernel_rfl) (of_decide_eq_true (by kernel_rfl)) k1 bel lt1) trodAll_mk0)), rfl, bel.frame _, fun h => by cases h⟩

theorem over : Rows.chunkGetsRow.holds Try.pinned (OpenSpec.ofChange Rows.chunkGetsSpec) :=
  OpenClaim.holds_of_wide 6 Try.f6 rfl rfl rfl rfl rfl rfl rfl ⟨rfl, rfl, rfl, rfl, rfl⟩ rfl rfl rfl rfl rfl (by kernel_rfl) Try.func6 (by kernel_rfl)
    (of_decide_eq_true (by kernel_rfl)) (by unfold Func.isWrapper; first | (rw [if_pos (by decide +kernel)]; kernel_rfl) | (rw [if_neg (by decide +kernel)]; exact ⟨rfl, rfl⟩))
    (fun os started H enc _ => lifted os started H enc)

theorem proved : Rows.ChunkGetsSaid := over
#print axioms proved
end Go.Proofs.Ytidfdlpdacbkoaa.lawChunkGets
