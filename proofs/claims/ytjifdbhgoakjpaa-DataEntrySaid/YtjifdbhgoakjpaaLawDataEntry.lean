/- What is delivered of any packet, and when, is as the document says. -/
import Derived.Test.YtjifdbhgoakjpaaRows
import Derived.WalkKit
import Derived.ProofKit
import Derived.OpenShut
import Derived.ShutString
import Derived.ChangeOld
import Derived.Below
import Derived.Test.YtjifdbhgoakjpaaDatK
import Derived.Test.YtjifdbhgoakjpaaDatD
import Derived.Test.YtjifdbhgoakjpaaDatC
import Derived.Test.YtjifdbhgoakjpaaDatG
import Derived.Deep.RegionHeldLaw
import Derived.Deep.Cut
import Derived.Test.YtjifdbhgoakjpaaDatE
import Derived.Test.YtjifdbhgoakjpaaDatF
namespace Go.Proofs.Ytjifdbhgoakjpaa.lawDataEntry
open Go.ChangeShapes Go.WideShapes Go.ChangeAt Go.RowKit
open Go.ChangeMaps (open_string shut_string)
set_option linter.unusedVariables false

theorem own : ownKnob Try.prog.godebug = none := by kernel_rfl
theorem laidOut : laidOutB Try.prog = true := by kernel_rfl

/-! The walk: the Go text returns true and writes nothing that was there. -/
set_option linter.unusedSimpArgs false in
set_option maxRecDepth 100000 in
set_option maxHeartbeats 4000000 in
theorem walk (a0 : Hed.Pk) (a1 : Int) (w : World) (w0 : Hed.Ok w a0) (w1 : (Lit.int .i64 a1).wf = true) :
    Calls Try.prog 7 #[Hed.pval a0, .int .i64 a1] w fun e w' => e = .returned (.bool true) ∧ Below w.heap.size w w' := by
  obtain ⟨hd1, hd2⟩ := bounds_i64 w1
  have HD := Lib.hid (And.intro hd1 hd2)
  clear w1 hd1 hd2
  have hr0 := w0.rd
  have hn0 := w0.nil
  have hl0 := w0.le
  have hm0 := w0.max
  obtain ⟨wb, hwb⟩ : ∃ wb, Hid (wb = w.alloc (.cells (Hed.Pk.cells a0) 27)) := ⟨_, Lib.hid rfl⟩
  have HB0 := Lib.hid (Hed.one_box w wb _ _ hwb.out).1
  have hc0 := Hed.pk_cells w wb a0 hwb.out wb (Below.refl _ _)
  have HBx := Lib.hid (Hed.one_box w wb _ _ hwb.out).2
  have CCut : Hid (Calls Try.prog 14 #[Hed.pval a0] wb fun e w' => ∃ ad' cap', e = .returned (Hed.pval (Dat.bodP a0 ad' cap' (a0.body.take 1100))) ∧ Hid (Byt.OwnB w' (w.heap.size + 1) (.slice ad' (a0.body.take 1100).length cap') (a0.body.take 1100)) ∧ Hid (Below wb.heap.size wb w')) := Lib.hid ((Dat.cut_any a0 wb (hr0.below HB0.out) hn0 hl0 hm0).mono fun e w' h => by
    obtain ⟨ad', cap', rfl, h1, h2⟩ := h
    exact ⟨ad', cap', rfl, Lib.hid (Own.mono h1 (by rw [hwb.out]; simp)), Lib.hid h2⟩)
  have HY : Hid ((a0.body.take 1100).length ≤ 1100) := Lib.hid (by rw [List.length_take]; omega)
  unfold Dat.bodP at CCut
  generalize a0.body.take 1100 = y0 at *
  obtain ⟨kind, ⟨t, f, s⟩, hops, no, to, index, total, stamp, value, ad, cap, body⟩ := a0
  unfold Hed.pval Hed.Pk.cells at CCut
  unfold Hed.Pk.cells at hwb HBx
  unfold Hed.pval Hed.Pk.cells
  simp only at CCut hwb hc0 HBx ⊢
  obtain ⟨n, hn⟩ : ∃ n, body.length = n := ⟨_, rfl⟩
  obtain ⟨m, hmm⟩ : ∃ m, y0.length = m := ⟨_, rfl⟩
  simp only [hn] at CCut hwb hc0 HBx ⊢
  simp only [hmm] at CCut
  have HM := Lib.hid hmm
  clear hn hmm w0 hr0 hn0 hl0 hm0
  have HOc : Hid (∀ ad1 cap1, Array.all (#[.int .i64 kind, .int .i64 t, .int .i64 f, .int .u32 s, .int .i64 hops, .int .i64 no, .int .i64 to, .int .i64 index, .int .i64 total, .int .i64 stamp, .int .i64 value, .slice ad1 m cap1] : Array Value) (·.oneCell') = true) := Lib.hid (fun ad1 cap1 => by simp [Value.oneCell'])
  obtain ⟨c0, c1, c2, c3, c4, c5, c6, c7, c8, c9, c10, c11⟩ := hc0
  go_enter Try.func7, Try.ntmps7
  go_upto_region 1 with fail
  rw [← hwb.out]
  go_wp2_with fail
  refine (CCut.out).mono ?_; rintro e w2 ⟨ad1, cap1, rfl, HO2, HB2⟩
  have HBx2 := Lib.hid (HBx.out.below HB2.out)
  have HBx3 := Lib.hid (Hed.Blk.row HBx2.out #[.int .i64 kind, .int .i64 t, .int .i64 f, .int .u32 s, .int .i64 hops, .int .i64 no, .int .i64 to, .int .i64 index, .int .i64 total, .int .i64 stamp, .int .i64 value, .slice ad1 m cap1] rfl)
  have HOc1 := Lib.hid (HOc.out ad1 cap1)
  clear c0 c1 c2 c3 c4 c5 c6 c7 c8 c9 c10 c11 CCut hwb HBx HOc
  go_upto_region 2 with (refine wpList_store_row rfl 27 _ _ rfl _ #[.int .i64 kind, .int .i64 t, .int .i64 f, .int .u32 s, .int .i64 hops, .int .i64 no, .int .i64 to, .int .i64 index, .int .i64 total, .int .i64 stamp, .int .i64 value, .slice ad1 m cap1] rfl rfl _ _ HBx2.out Hed.infoPk rfl HOc1.out ?_)
  have HB3 : Hid (Below w.heap.size w (w2.setRow w.heap.size #[.int .i64 kind, .int .i64 t, .int .i64 f, .int .u32 s, .int .i64 hops, .int .i64 no, .int .i64 to, .int .i64 index, .int .i64 total, .int .i64 stamp, .int .i64 value, .slice ad1 m cap1])) := Lib.hid (below_setRow (HB0.out.trans (HB2.out.mono HB0.out.size)) (Nat.le_refl _) _)
  have HO3 := Lib.hid (Dat.own_box (V := w2.setRow w.heap.size #[.int .i64 kind, .int .i64 t, .int .i64 f, .int .u32 s, .int .i64 hops, .int .i64 no, .int .i64 to, .int .i64 index, .int .i64 total, .int .i64 stamp, .int .i64 value, .slice ad1 m cap1]) HO2.out (by simp) (fun k hk => setRow_other _ _ _ _ (by omega)))
  clear HBx2 HOc1 HO2 HB2 HB0
  generalize w2.setRow w.heap.size #[.int .i64 kind, .int .i64 t, .int .i64 f, .int .u32 s, .int .i64 hops, .int .i64 no, .int .i64 to, .int .i64 index, .int .i64 total, .int .i64 stamp, .int .i64 value, .slice ad1 m cap1] = W3 at *
  have HZ : Hid (∀ (W : World) (b : Nat), Buf.Blk W b 27 #[.int .i64 kind, .int .i64 t, .int .i64 f, .int .u32 s, .int .i64 hops, .int .i64 no, .int .i64 to, .int .i64 index, .int .i64 total, .int .i64 stamp, .int .i64 value, .slice ad1 m cap1] → _ ∧ _) := Lib.hid (fun W b h => Hed.blk_cells (p := ⟨kind, (t, f, s), hops, no, to, index, total, stamp, value, ad1, cap1, y0⟩) (by unfold Hed.Pk.cells; simp only [HM.out]; exact h))
  simp only [HM.out] at HZ
  have HC : Hid (∀ W, Below W3.heap.size W3 W → _ ∧ _) := Lib.hid (fun W hW => HZ.out W w.heap.size (HBx3.out.below hW))
  have HR : Hid (∀ W, Below W3.heap.size W3 W → Byt.RdB W ad1 y0) := Lib.hid (fun W hW => HO3.out.rd.1.below hW)
  have CR : Hid (∀ W, Below W3.heap.size W3 W → Calls Try.prog 12 #[Hed.pval ⟨kind, (t, f, s), hops, no, to, index, total, stamp, value, ad1, cap1, y0⟩] W fun e w' => e = .returned (.bool (Dat.datG ⟨kind, (t, f, s), hops, no, to, index, total, stamp, value, ad1, cap1, y0⟩)) ∧ Below W3.heap.size W3 w') := Lib.hid (fun W hW => (Dat.refgood_any ⟨kind, (t, f, s), hops, no, to, index, total, stamp, value, ad1, cap1, y0⟩ W (HR.out W hW)).mono fun e w' h => ⟨h.1, hW.trans (h.2.mono hW.size)⟩)
  have CW : Hid (∀ W, Below W3.heap.size W3 W → Calls Try.prog 13 #[] W fun e w' => e = .returned (.bool true) ∧ Below W3.heap.size W3 w') := Lib.hid (fun W hW => (Dat.dworks_any W).mono fun e w' h => ⟨h.1, hW.trans (h.2.mono hW.size)⟩)
  have CR := (Lib.hid CR.out : Hid (∀ W, Below W3.heap.size W3 W → Calls Try.prog 12 #[Hed.pval ⟨kind, (t, f, s), hops, no, to, index, total, stamp, value, ad1, cap1, y0⟩] W fun e w' => e = .returned (.bool (Dat.datG ⟨kind, (t, f, s), hops, no, to, index, total, stamp, value, ad1, cap1, y0⟩)) ∧ Below W3.heap.size W3 w'))
  have CRb : Hid (∀ W, Below W3.heap.size W3 W → Calls Try.prog 12 #[Hed.pval ⟨kind, (t, f, s), hops, no, to, index, total, stamp, value, ad1, cap1, y0⟩] W fun e w' => e = .returned (.bool (Dat.datG ⟨kind, (t, f, s), hops, no, to, index, total, stamp, value, ad1, cap1, y0⟩)) ∧ Below W.heap.size W w') := Lib.hid (fun W hW => Dat.refgood_any ⟨kind, (t, f, s), hops, no, to, index, total, stamp, value, ad1, cap1, y0⟩ W (HR.out W hW))
  clear CR
  by_cases hA : Dat.datG ⟨kind, (t, f, s), hops, no, to, index, total, stamp, value, ad1, cap1, y0⟩ = false ∨ a1 < 0
  · have CE : Hid (∀ W, Below W3.heap.size W3 W → Calls Try.prog 24 #[Hed.pval ⟨kind, (t, f, s), hops, no, to, index, total, stamp, value, ad1, cap1, y0⟩, .int .i64 a1] W fun e w' => e = .returned (.tuple #[.agg #[.int .i64 0, .int .i64 0, .int .i64 0, .int .u32 0, .slice none 0 0], .int .i64 1]) ∧ Below W3.heap.size W3 w') := Lib.hid (fun W hW => (Dat.entry_arg ⟨kind, (t, f, s), hops, no, to, index, total, stamp, value, ad1, cap1, y0⟩ a1 W (HR.out W hW) hA).mono fun e w' h => ⟨h.1, hW.trans (h.2.mono hW.size)⟩)
    generalize Dat.datG ⟨kind, (t, f, s), hops, no, to, index, total, stamp, value, ad1, cap1, y0⟩ = gb at *
    unfold Hed.pval Hed.Pk.cells at CRb CE
    simp only [HM.out] at CRb CE
    clear HY
    rcases Bool.eq_false_or_eq_true gb with hgb | hgb
    · have hd : decide (a1 < 0) = true := by
        rcases hA with h | h
        · rw [hgb] at h; cases h
        · exact decide_eq_true h
      subst hgb
      clear hA
      obtain ⟨c0, c1, c2, c3, c4, c5, c6, c7, c8, c9, c10, c11⟩ := HC.out W3 (Below.refl _ _)
      go_wp2_with fail
      refine (CE.out _ (Below.refl _ _)).mono ?_; rintro e w4 ⟨rfl, hB4⟩
      have HB4 := Lib.hid hB4
      clear hB4 c0 c1 c2 c3 c4 c5 c6 c7 c8 c9 c10 c11 CE
      go_upto_region 3 with fail
      obtain ⟨W5, hW5⟩ : ∃ W5, Hid (W5 = w4.alloc (.cells #[.int .i64 0, .int .i64 0, .int .i64 0, .int .u32 0, .slice none 0 0] 51)) := ⟨_, Lib.hid rfl⟩
      rw [← hW5.out]
      have hX := Hed.one_box w4 W5 _ _ hW5.out
      have HB5 := Lib.hid (HB4.out.trans (hX.1.mono HB4.out.size))
      have HE : Hid (∀ W, Below W5.heap.size W5 W → _ ∧ _ ∧ _ ∧ _ ∧ _) := Lib.hid (fun W hW => ⟨(hX.2.below hW).cell 0, (hX.2.below hW).cell 1, (hX.2.below hW).cell 2, (hX.2.below hW).cell 3, (hX.2.below hW).cell 4⟩)
      simp only [List.getElem?_toArray, List.getElem?_cons_succ, List.getElem?_cons_zero] at HE
      clear hX hW5
      have CR5 := Lib.hid (CRb.out W5 HB5.out)
      obtain ⟨c0, c1, c2, c3, c4, c5, c6, c7, c8, c9, c10, c11⟩ := HC.out W5 HB5.out
      go_wp2_with fail
      refine (CR5.out).mono ?_; rintro e w6 ⟨rfl, hB6⟩
      have HB6 := Lib.hid (HB5.out.trans (hB6.mono HB5.out.size))
      obtain ⟨e0, e1, e2, e3, e4⟩ := HE.out w6 hB6
      clear hB6 c0 c1 c2 c3 c4 c5 c6 c7 c8 c9 c10 c11 CR5
      go_wp2_with fail
      refine (CW.out _ HB6.out).mono ?_; rintro e w7 ⟨rfl, hB7⟩
      have HB7 := Lib.hid hB7
      clear hB7
      go_wp2_with fail
      go_ret
      exact ⟨rfl, HB3.out.trans (HB7.out.mono HB3.out.size)⟩
    · subst hgb
      clear hA
      obtain ⟨c0, c1, c2, c3, c4, c5, c6, c7, c8, c9, c10, c11⟩ := HC.out W3 (Below.refl _ _)
      go_wp2_with fail
      refine (CE.out _ (Below.refl _ _)).mono ?_; rintro e w4 ⟨rfl, hB4⟩
      have HB4 := Lib.hid hB4
      clear hB4 c0 c1 c2 c3 c4 c5 c6 c7 c8 c9 c10 c11 CE
      go_upto_region 3 with fail
      obtain ⟨W5, hW5⟩ : ∃ W5, Hid (W5 = w4.alloc (.cells #[.int .i64 0, .int .i64 0, .int .i64 0, .int .u32 0, .slice none 0 0] 51)) := ⟨_, Lib.hid rfl⟩
      rw [← hW5.out]
      have hX := Hed.one_box w4 W5 _ _ hW5.out
      have HB5 := Lib.hid (HB4.out.trans (hX.1.mono HB4.out.size))
      have HE : Hid (∀ W, Below W5.heap.size W5 W → _ ∧ _ ∧ _ ∧ _ ∧ _) := Lib.hid (fun W hW => ⟨(hX.2.below hW).cell 0, (hX.2.below hW).cell 1, (hX.2.below hW).cell 2, (hX.2.below hW).cell 3, (hX.2.below hW).cell 4⟩)
      simp only [List.getElem?_toArray, List.getElem?_cons_succ, List.getElem?_cons_zero] at HE
      clear hX hW5
      have CR5 := Lib.hid (CRb.out W5 HB5.out)
      obtain ⟨c0, c1, c2, c3, c4, c5, c6, c7, c8, c9, c10, c11⟩ := HC.out W5 HB5.out
      go_wp2_with fail
      refine (CR5.out).mono ?_; rintro e w6 ⟨rfl, hB6⟩
      have HB6 := Lib.hid (HB5.out.trans (hB6.mono HB5.out.size))
      obtain ⟨e0, e1, e2, e3, e4⟩ := HE.out w6 hB6
      clear hB6 c0 c1 c2 c3 c4 c5 c6 c7 c8 c9 c10 c11 CR5
      go_wp2_with fail
      refine (CW.out _ HB6.out).mono ?_; rintro e w7 ⟨rfl, hB7⟩
      have HB7 := Lib.hid hB7
      clear hB7
      go_wp2_with fail
      go_ret
      exact ⟨rfl, HB3.out.trans (HB7.out.mono HB3.out.size)⟩
  · have hg : Dat.datG ⟨kind, (t, f, s), hops, no, to, index, total, stamp, value, ad1, cap1, y0⟩ = true := by
      rcases Bool.eq_false_or_eq_true (Dat.datG ⟨kind, (t, f, s), hops, no, to, index, total, stamp, value, ad1, cap1, y0⟩) with h | h
      · exact h
      · exact absurd (.inl h) hA
    have hd0 : ¬ a1 < 0 := fun h => hA (.inr h)
    have ht := Dat.good_time hg
    simp only at ht
    obtain ⟨ht0, ht1⟩ := ht
    have hd : decide (a1 < 0) = false := decide_eq_false hd0
    by_cases ho : 1152921504606846976 - t < a1
    · have CE : Hid (∀ W, Below W3.heap.size W3 W → Calls Try.prog 24 #[Hed.pval ⟨kind, (t, f, s), hops, no, to, index, total, stamp, value, ad1, cap1, y0⟩, .int .i64 a1] W fun e w' => e = .returned (.tuple #[.agg #[.int .i64 0, .int .i64 0, .int .i64 0, .int .u32 0, .slice none 0 0], .int .i64 18]) ∧ Below W3.heap.size W3 w') := Lib.hid (fun W hW => (Dat.entry_over ⟨kind, (t, f, s), hops, no, to, index, total, stamp, value, ad1, cap1, y0⟩ a1 W (HR.out W hW) hg (by omega) ho).mono fun e w' h => ⟨h.1, hW.trans (h.2.mono hW.size)⟩)
      rw [hg] at CRb
      unfold Hed.pval Hed.Pk.cells at CRb CE
      simp only [HM.out] at CRb CE
      have hgt : decide (1152921504606846976 - t < a1) = true := decide_eq_true ho
      clear HY hA hg hd0 ho
      obtain ⟨c0, c1, c2, c3, c4, c5, c6, c7, c8, c9, c10, c11⟩ := HC.out W3 (Below.refl _ _)
      go_wp2_with fail
      refine (CE.out _ (Below.refl _ _)).mono ?_; rintro e w4 ⟨rfl, hB4⟩
      have HB4 := Lib.hid hB4
      clear hB4 c0 c1 c2 c3 c4 c5 c6 c7 c8 c9 c10 c11 CE
      go_upto_region 3 with fail
      obtain ⟨W5, hW5⟩ : ∃ W5, Hid (W5 = w4.alloc (.cells #[.int .i64 0, .int .i64 0, .int .i64 0, .int .u32 0, .slice none 0 0] 51)) := ⟨_, Lib.hid rfl⟩
      rw [← hW5.out]
      have hX := Hed.one_box w4 W5 _ _ hW5.out
      have HB5 := Lib.hid (HB4.out.trans (hX.1.mono HB4.out.size))
      have HE : Hid (∀ W, Below W5.heap.size W5 W → _ ∧ _ ∧ _ ∧ _ ∧ _) := Lib.hid (fun W hW => ⟨(hX.2.below hW).cell 0, (hX.2.below hW).cell 1, (hX.2.below hW).cell 2, (hX.2.below hW).cell 3, (hX.2.below hW).cell 4⟩)
      simp only [List.getElem?_toArray, List.getElem?_cons_succ, List.getElem?_cons_zero] at HE
      clear hX hW5
      have CR5 := Lib.hid (CRb.out W5 HB5.out)
      obtain ⟨c0, c1, c2, c3, c4, c5, c6, c7, c8, c9, c10, c11⟩ := HC.out W5 HB5.out
      go_wp2_with fail
      refine (CR5.out).mono ?_; rintro e w6 ⟨rfl, hB6⟩
      have HB6 := Lib.hid (HB5.out.trans (hB6.mono HB5.out.size))
      obtain ⟨e0, e1, e2, e3, e4⟩ := HE.out w6 hB6
      clear hB6 c0 c1 c2 c3 c4 c5 c6 c7 c8 c9 c10 c11 CR5
      obtain ⟨c0, c1, c2, c3, c4, c5, c6, c7, c8, c9, c10, c11⟩ := HC.out w6 HB6.out
      go_wp2_with fail
      refine (CW.out _ HB6.out).mono ?_; rintro e w7 ⟨rfl, hB7⟩
      have HB7 := Lib.hid hB7
      clear hB7
      go_wp2_with fail
      go_ret
      exact ⟨rfl, HB3.out.trans (HB7.out.mono HB3.out.size)⟩
    · have CE : Hid (∀ W, Below W3.heap.size W3 W → Calls Try.prog 24 #[Hed.pval ⟨kind, (t, f, s), hops, no, to, index, total, stamp, value, ad1, cap1, y0⟩, .int .i64 a1] W fun e w' => ∃ ad8 cap8, e = .returned (.tuple #[.agg #[.int .i64 (t + a1), .int .i64 t, .int .i64 f, .int .u32 s, .slice ad8 y0.length cap8], .int .i64 0]) ∧ Hid (Byt.OwnB w' W.heap.size (.slice ad8 y0.length cap8) y0) ∧ Hid (Below W3.heap.size W3 w')) := Lib.hid (fun W hW => (Dat.entry_yes ⟨kind, (t, f, s), hops, no, to, index, total, stamp, value, ad1, cap1, y0⟩ a1 W (HR.out W hW) HO3.out.pos.1 (by have := HY.out; simp only; omega) (by have := HO3.out.pos.2.1; unfold maxLen at this; simp only; omega) hg (by omega) ho).mono fun e w' h => by
        obtain ⟨ad8, cap8, rfl, h1, h2⟩ := h
        exact ⟨ad8, cap8, rfl, Lib.hid (Own.mono h1 (by omega)), Lib.hid (hW.trans (h2.mono hW.size))⟩)
      rw [hg] at CRb
      unfold Hed.pval Hed.Pk.cells at CRb CE
      simp only [HM.out] at CRb CE
      have hgt : decide (1152921504606846976 - t < a1) = false := decide_eq_false ho
      clear HY hA hg
      obtain ⟨c0, c1, c2, c3, c4, c5, c6, c7, c8, c9, c10, c11⟩ := HC.out W3 (Below.refl _ _)
      go_wp2_with fail
      refine (CE.out _ (Below.refl _ _)).mono ?_; rintro e w4 ⟨ad8, cap8, rfl, HO4, HB4⟩
      clear c0 c1 c2 c3 c4 c5 c6 c7 c8 c9 c10 c11 CE
      go_upto_region 3 with fail
      obtain ⟨W5, hW5⟩ : ∃ W5, Hid (W5 = w4.alloc (.cells #[.int .i64 (t + a1), .int .i64 t, .int .i64 f, .int .u32 s, .slice ad8 m cap8] 51)) := ⟨_, Lib.hid rfl⟩
      rw [← hW5.out]
      have hX := Hed.one_box w4 W5 _ _ hW5.out
      have HB5 := Lib.hid (HB4.out.trans (hX.1.mono HB4.out.size))
      have HE : Hid (∀ W, Below W5.heap.size W5 W → _ ∧ _ ∧ _ ∧ _ ∧ _) := Lib.hid (fun W hW => ⟨(hX.2.below hW).cell 0, (hX.2.below hW).cell 1, (hX.2.below hW).cell 2, (hX.2.below hW).cell 3, (hX.2.below hW).cell 4⟩)
      simp only [List.getElem?_toArray, List.getElem?_cons_succ, List.getElem?_cons_zero] at HE
      have HO5 := Lib.hid (HO4.out.below hX.1)
      clear hX hW5 HO4
      have CR5 := Lib.hid (CRb.out W5 HB5.out)
      obtain ⟨c0, c1, c2, c3, c4, c5, c6, c7, c8, c9, c10, c11⟩ := HC.out W5 HB5.out
      go_wp2_with fail
      refine (CR5.out).mono ?_; rintro e w6 ⟨rfl, hB6⟩
      have HB6 := Lib.hid (HB5.out.trans (hB6.mono HB5.out.size))
      obtain ⟨e0, e1, e2, e3, e4⟩ := HE.out w6 hB6
      have s1 := HO5.out.str hB6
      have s2 := HO3.out.str HB6.out
      clear hB6 c0 c1 c2 c3 c4 c5 c6 c7 c8 c9 c10 c11 CR5 HO5
      obtain ⟨c0, c1, c2, c3, c4, c5, c6, c7, c8, c9, c10, c11⟩ := HC.out w6 HB6.out
      generalize Byt.strB y0 = sb at *
      have hnn : (sb == sb) = true := by rw [beq_toListBytes]; simp
      have hkk : Key.eqK (t, f, s) (t, f, s) = true := by simp [Key.eqK]
      have hb1 : 0 ≤ t + a1 := by omega
      have hb2 : t + a1 ≤ 1152921504606846976 := by omega
      clear ho HD
      go_wp2_with fail
      refine (CW.out _ HB6.out).mono ?_; rintro e w7 ⟨rfl, hB7⟩
      have HB7 := Lib.hid hB7
      clear hB7
      go_wp2_with fail
      go_ret
      exact ⟨rfl, HB3.out.trans (HB7.out.mono HB3.out.size)⟩

set_option maxRecDepth 100000 in
theorem lifted (os : Os) (started : os.Started) (H : Type) (enc : TypeId × Value → H) :
    ReturnsInHanded {} Try.checked os 7 .any (Rows.dataEntrySpec.pre6 enc Try.prog Try.f7 Rows.dataEntryRow.domain false) (Rows.dataEntrySpec.post enc Try.prog Try.f7 false true false false) := by
  refine returnsInHanded_of_change (C := Try.checked) own started (by kernel_rfl) Try.func7
    (ChangeSpec.witness6 (enc := enc) (C := Try.checked) false ⟨#[], #[.agg #[.int .i64 0, .int .i64 0, .int .i64 0, .int .u32 0, .int .i64 0, .int .i64 0, .int .i64 0, .int .i64 0, .int .i64 0, .int .i64 0, .int .i64 0, .slice none 0 0], .int .i64 0], []⟩ 8 (by kernel_rfl) (by kernel_rfl) (by kernel_rfl) (by kernel_rfl)) ?_
  intro W base args ds gs before hval0 hW hcnd _
  have hval : ∀ (j : Nat) t v, Try.f7.params[j]? = some t → args[j]? = some v → Value.okWide Try.prog W .any base t v := hval0
  have hW' := hW
  obtain ⟨p, q, hA0, hV, rfl, hfz, hnd⟩ := hW
  have hA : DataW.TrodAll enc Try.prog W 0 (fun _ => true) true Try.f7.params.toList args.toList ds p := hA0
  rw [Try.params7] at hA hval
  obtain ⟨v0, vs0, d0, ds0, p0, q0, hargs, rfl, rfl, h0, r0⟩ := trodAll_cons hA
  obtain ⟨v1, vs1, d1, ds1, p1, q1, rfl, rfl, rfl, h1, r1⟩ := trodAll_cons r0
  obtain ⟨rfl, rfl, rfl⟩ := trodAll_nil r1
  obtain rfl : args = #[v0, v1] := by cases args; simp_all
  obtain ⟨rfl, rfl⟩ := trodVars_none hV
  have k0 := h0
  have lt0 : ∀ x ∈ p0, x.block < W.heap.size := by obtain ⟨m, hm⟩ := k0; exact DataW.trod_lt m _ _ _ hm
  obtain ⟨a0, rfl, w0⟩ := Hed.open_pk (hval 0 27 v0 rfl rfl) h0
  obtain ⟨a1, rfl, rfl, rfl, w1⟩ := open_int Try.underlying2 (hval 1 2 v1 rfl rfl) h1
  clear hA0 hval0
  refine (walk a0 a1 W w0 w1).mono fun e W' ⟨he, bel⟩ => ?_
  subst he
  exact ⟨_, rfl, _, _, _, [], _, [], hW', trodAll_mk1 (shut_bool Try.underlying4 _), (trodAll_cons_mk (Below.trod laidOut (by kernel_rfl) (of_decide_eq_true (by kernel_rfl)) k0 bel lt0) (trodAll_cons_mk (shut_int Try.underlying2 w1) trodAll_mk0)), rfl, bel.frame _, fun h => by cases h⟩

theorem over : Rows.dataEntryRow.holds Try.pinned (OpenSpec.ofChange Rows.dataEntrySpec) :=
  OpenClaim.holds_of_wide 7 Try.f7 rfl rfl rfl rfl rfl rfl rfl ⟨rfl, rfl, rfl, rfl, rfl⟩ rfl rfl rfl rfl rfl (by kernel_rfl) Try.func7 (by kernel_rfl)
    (of_decide_eq_true (by kernel_rfl)) (by unfold Func.isWrapper; first | (rw [if_pos (by decide +kernel)]; kernel_rfl) | (rw [if_neg (by decide +kernel)]; exact ⟨rfl, rfl⟩))
    (fun os started H enc _ => lifted os started H enc)

theorem proved : Rows.DataEntrySaid := over
#print axioms proved
end Go.Proofs.Ytjifdbhgoakjpaa.lawDataEntry
