/- A probe, a beacon, and an echo of any packet, are as the document says. -/
import Derived.Test.YtocfamocemmihaaRows
import Derived.WalkKit
import Derived.ProofKit
import Derived.OpenShut
import Derived.ShutString
import Derived.ChangeOld
import Derived.Below
import Derived.Test.YtocfamocemmihaaPulK
import Derived.Test.YtocfamocemmihaaPulN
import Derived.Deep.RegionHeldLaw
import Derived.Deep.Cut
namespace Go.Proofs.Ytocfamocemmihaa.lawPulseNew
open Go.ChangeShapes Go.WideShapes Go.ChangeAt Go.RowKit
open Go.ChangeMaps (open_string shut_string)
set_option linter.unusedVariables false

theorem own : ownKnob Try.prog.godebug = none := by kernel_rfl
theorem laidOut : laidOutB Try.prog = true := by kernel_rfl

/-! The walk: the Go text returns true and writes nothing that was there. -/
set_option linter.unusedSimpArgs false in
set_option maxRecDepth 100000 in
set_option maxHeartbeats 8000000 in
theorem walk (a0 : Int) (a1 : Int) (a2 : Hed.Pk) (w : World) (w0 : (Lit.int .i64 a0).wf = true) (w1 : (Lit.int .i64 a1).wf = true) (w2 : Pul.Okx w a2) :
    Calls Try.prog 3 #[.int .i64 a0, .int .i64 a1, Hed.pval a2] w fun e w' => e = .returned (.bool true) ∧ Below w.heap.size w w' := by
  have hr0 := w2.ok.rd
  have hn0 := w2.ok.nil
  have hl0 := w2.ok.le
  have hm0 := w2.ok.max
  have hst0 := w2.stamp
  have hva0 := w2.value
  obtain ⟨wb, hwb⟩ : ∃ wb, Hid (wb = w.alloc (.cells (Hed.Pk.cells a2) 27)) := ⟨_, Lib.hid rfl⟩
  have HB0 := Lib.hid (Hed.one_box w wb _ _ hwb.out).1
  have HC := Lib.hid (Hed.pk_cells w wb a2 hwb.out)
  have HR : Hid (∀ W, Below wb.heap.size wb W → Byt.RdB W a2.ad a2.body) := Lib.hid (fun W hW => hr0.below (HB0.out.trans (hW.mono HB0.out.size)))
  cases hk : (a2.kind == 1) with
  | false =>
    have hEb : Pul.echoB a2 = false := by unfold Pul.echoB; rw [hk]; rfl
    have hgb := hk
    have CE : Hid (Calls Try.prog 8 #[Hed.pval a2, .int .i64 a1] wb fun e w' => e = .returned (.tuple #[Hed.pval (Hed.zero), .bool false]) ∧ Below wb.heap.size wb w') := Lib.hid (by
      have h := Pul.echo_any a2 a1 wb (HR.out wb (Below.refl _ _))
      rwa [show Pul.echoB a2 = false from hEb, show Pul.echoV a2 a1 = Hed.zero from by unfold Pul.echoV; rw [show Pul.echoB a2 = false from hEb]; rfl] at h)
    have CS := Lib.hid (fun W => Hed.rsame_any (Hed.zero) (Hed.zero) W (.inl rfl) (.inl rfl))
    have CP := Lib.hid (fun W => Pul.probe_any a0 W)
    have CPr := Lib.hid (fun W => Pul.rprobe_any a0 W)
    have CSp := Lib.hid (fun W => Hed.rsame_any (Pul.probeP a0) (Pul.probeP a0) W (.inl rfl) (.inl rfl))
    have CB := Lib.hid (fun W => Pul.beacon_any a2.key a0 W)
    have CBr := Lib.hid (fun W => Pul.rbeacon_any a2.key a0 W)
    have CSb := Lib.hid (fun W => Hed.rsame_any (Pul.beacP a2.key 1 a0) (Pul.beacP a2.key 1 a0) W (.inl rfl) (.inl rfl))
    have CW := Lib.hid (fun W => Pul.pworks_any W)
    rw [Hed.eqP_self] at CS CSp CSb
    unfold Key.kval at CB CBr
    unfold Hed.zero at CE CS

    unfold Pul.probeP at CP CPr CSp
    unfold Pul.beacP at CB CBr CSb
    clear w2 hr0 hn0 hl0 hm0 hst0 hva0 HR hEb hgb
    obtain ⟨kind, ⟨t, f, s⟩, hops, no, to, index, total, stamp, value, ad, cap, body⟩ := a2
    unfold Hed.pval Hed.Pk.cells at CE CS CP CPr CSp CB CBr CSb
    unfold Hed.Pk.cells at hwb
    unfold Hed.pval Hed.Pk.cells
    simp only [List.length_nil] at CE CS CP CPr CSp CB CBr CSb hwb HC hk ⊢
    obtain ⟨n, hn⟩ : ∃ n, body.length = n := ⟨_, rfl⟩
    simp only [hn] at CE CS CP CPr CSp CB CBr CSb hwb HC ⊢
    clear hn
    have hk1 : (kind == 1) = false := hk
    go_enter Try.func3, Try.ntmps3
    go_upto_region 1 with fail
    rw [← hwb.out]
    obtain ⟨c0, c1, c2, c3, c4, c5, c6, c7, c8, c9, c10, c11⟩ := HC.out wb (Below.refl _ _)
    go_wp2_with fail
    refine (CE.out).mono ?_; rintro e w1 ⟨rfl, hB1⟩
    have HB1 := Lib.hid hB1
    clear hB1 CE c0 c1 c2 c3 c4 c5 c6 c7 c8 c9 c10 c11
    go_upto_region 2 with fail
    obtain ⟨W2, hW2⟩ : ∃ W2, Hid (W2 = w1.alloc (.cells #[.int .i64 0, .int .i64 0, .int .i64 0, .int .u32 0, .int .i64 0, .int .i64 0, .int .i64 0, .int .i64 0, .int .i64 0, .int .i64 0, .int .i64 0, .slice none 0 0] 27)) := ⟨_, Lib.hid rfl⟩
    rw [← hW2.out]
    have hX := Hed.one_box w1 W2 _ _ hW2.out
    have HB2 := Lib.hid (HB1.out.trans (hX.1.mono HB1.out.size))
    have HH : Hid (∀ W, Below W2.heap.size W2 W → (W.cell? ⟨w.heap.size, 0, none⟩ = some (.int .i64 kind) ∧ W.cell? ⟨w.heap.size, 1, none⟩ = some (.int .i64 t) ∧ W.cell? ⟨w.heap.size, 2, none⟩ = some (.int .i64 f) ∧ W.cell? ⟨w.heap.size, 3, none⟩ = some (.int .u32 s) ∧ W.cell? ⟨w.heap.size, 4, none⟩ = some (.int .i64 hops) ∧ W.cell? ⟨w.heap.size, 5, none⟩ = some (.int .i64 no) ∧ W.cell? ⟨w.heap.size, 6, none⟩ = some (.int .i64 to) ∧ W.cell? ⟨w.heap.size, 7, none⟩ = some (.int .i64 index) ∧ W.cell? ⟨w.heap.size, 8, none⟩ = some (.int .i64 total) ∧ W.cell? ⟨w.heap.size, 9, none⟩ = some (.int .i64 stamp) ∧ W.cell? ⟨w.heap.size, 10, none⟩ = some (.int .i64 value) ∧ W.cell? ⟨w.heap.size, 11, none⟩ = some (.slice ad n cap)) ∧ (W.cell? ⟨w1.heap.size, 0, none⟩ = some (.int .i64 0) ∧ W.cell? ⟨w1.heap.size, 1, none⟩ = some (.int .i64 0) ∧ W.cell? ⟨w1.heap.size, 2, none⟩ = some (.int .i64 0) ∧ W.cell? ⟨w1.heap.size, 3, none⟩ = some (.int .u32 0) ∧ W.cell? ⟨w1.heap.size, 4, none⟩ = some (.int .i64 0) ∧ W.cell? ⟨w1.heap.size, 5, none⟩ = some (.int .i64 0) ∧ W.cell? ⟨w1.heap.size, 6, none⟩ = some (.int .i64 0) ∧ W.cell? ⟨w1.heap.size, 7, none⟩ = some (.int .i64 0) ∧ W.cell? ⟨w1.heap.size, 8, none⟩ = some (.int .i64 0) ∧ W.cell? ⟨w1.heap.size, 9, none⟩ = some (.int .i64 0) ∧ W.cell? ⟨w1.heap.size, 10, none⟩ = some (.int .i64 0) ∧ W.cell? ⟨w1.heap.size, 11, none⟩ = some (.slice none 0 0))) := Lib.hid (fun W hW => ⟨HC.out W (HB2.out.trans (hW.mono HB2.out.size)), by
      have hb := hX.2.below hW
      exact ⟨hb.cell 0, hb.cell 1, hb.cell 2, hb.cell 3, hb.cell 4, hb.cell 5, hb.cell 6, hb.cell 7, hb.cell 8, hb.cell 9, hb.cell 10, hb.cell 11⟩⟩)
    clear hX hW2
    have CS2 : Hid (∀ W, Below W2.heap.size W2 W → Calls Try.prog 10 #[.agg #[.int .i64 0, .int .i64 0, .int .i64 0, .int .u32 0, .int .i64 0, .int .i64 0, .int .i64 0, .int .i64 0, .int .i64 0, .int .i64 0, .int .i64 0, .slice none 0 0], .agg #[.int .i64 0, .int .i64 0, .int .i64 0, .int .u32 0, .int .i64 0, .int .i64 0, .int .i64 0, .int .i64 0, .int .i64 0, .int .i64 0, .int .i64 0, .slice none 0 0]] W fun e w' => e = .returned (.bool true) ∧ Below W2.heap.size W2 w') := Lib.hid (fun W hW => (CS.out W).mono fun e w' h => ⟨h.1, hW.trans (h.2.mono hW.size)⟩)
    have CP2 : Hid (∀ W, Below W2.heap.size W2 W → Calls Try.prog 12 #[.int .i64 a0] W fun e w' => e = .returned (.agg #[.int .i64 1, .int .i64 0, .int .i64 0, .int .u32 0, .int .i64 0, .int .i64 0, .int .i64 0, .int .i64 0, .int .i64 0, .int .i64 a0, .int .i64 0, .slice none 0 0]) ∧ Below W2.heap.size W2 w') := Lib.hid (fun W hW => (CP.out W).mono fun e w' h => ⟨h.1, hW.trans (h.2.mono hW.size)⟩)
    have CPr2 : Hid (∀ W, Below W2.heap.size W2 W → Calls Try.prog 13 #[.int .i64 a0] W fun e w' => e = .returned (.agg #[.int .i64 1, .int .i64 0, .int .i64 0, .int .u32 0, .int .i64 0, .int .i64 0, .int .i64 0, .int .i64 0, .int .i64 0, .int .i64 a0, .int .i64 0, .slice none 0 0]) ∧ Below W2.heap.size W2 w') := Lib.hid (fun W hW => (CPr.out W).mono fun e w' h => ⟨h.1, hW.trans (h.2.mono hW.size)⟩)
    have CSp2 : Hid (∀ W, Below W2.heap.size W2 W → Calls Try.prog 10 #[.agg #[.int .i64 1, .int .i64 0, .int .i64 0, .int .u32 0, .int .i64 0, .int .i64 0, .int .i64 0, .int .i64 0, .int .i64 0, .int .i64 a0, .int .i64 0, .slice none 0 0], .agg #[.int .i64 1, .int .i64 0, .int .i64 0, .int .u32 0, .int .i64 0, .int .i64 0, .int .i64 0, .int .i64 0, .int .i64 0, .int .i64 a0, .int .i64 0, .slice none 0 0]] W fun e w' => e = .returned (.bool true) ∧ Below W2.heap.size W2 w') := Lib.hid (fun W hW => (CSp.out W).mono fun e w' h => ⟨h.1, hW.trans (h.2.mono hW.size)⟩)
    have CB2 : Hid (∀ W, Below W2.heap.size W2 W → Calls Try.prog 14 #[.agg #[.int .i64 t, .int .i64 f, .int .u32 s], .int .i64 a0] W fun e w' => e = .returned (.agg #[.int .i64 3, .int .i64 t, .int .i64 f, .int .u32 s, .int .i64 1, .int .i64 a0, .int .i64 0, .int .i64 0, .int .i64 0, .int .i64 0, .int .i64 0, .slice none 0 0]) ∧ Below W2.heap.size W2 w') := Lib.hid (fun W hW => (CB.out W).mono fun e w' h => ⟨h.1, hW.trans (h.2.mono hW.size)⟩)
    have CBr2 : Hid (∀ W, Below W2.heap.size W2 W → Calls Try.prog 15 #[.agg #[.int .i64 t, .int .i64 f, .int .u32 s], .int .i64 a0] W fun e w' => e = .returned (.agg #[.int .i64 3, .int .i64 t, .int .i64 f, .int .u32 s, .int .i64 1, .int .i64 a0, .int .i64 0, .int .i64 0, .int .i64 0, .int .i64 0, .int .i64 0, .slice none 0 0]) ∧ Below W2.heap.size W2 w') := Lib.hid (fun W hW => (CBr.out W).mono fun e w' h => ⟨h.1, hW.trans (h.2.mono hW.size)⟩)
    have CSb2 : Hid (∀ W, Below W2.heap.size W2 W → Calls Try.prog 10 #[.agg #[.int .i64 3, .int .i64 t, .int .i64 f, .int .u32 s, .int .i64 1, .int .i64 a0, .int .i64 0, .int .i64 0, .int .i64 0, .int .i64 0, .int .i64 0, .slice none 0 0], .agg #[.int .i64 3, .int .i64 t, .int .i64 f, .int .u32 s, .int .i64 1, .int .i64 a0, .int .i64 0, .int .i64 0, .int .i64 0, .int .i64 0, .int .i64 0, .slice none 0 0]] W fun e w' => e = .returned (.bool true) ∧ Below W2.heap.size W2 w') := Lib.hid (fun W hW => (CSb.out W).mono fun e w' h => ⟨h.1, hW.trans (h.2.mono hW.size)⟩)
    have CW2 : Hid (∀ W, Below W2.heap.size W2 W → Calls Try.prog 16 #[] W fun e w' => e = .returned (.bool true) ∧ Below W2.heap.size W2 w') := Lib.hid (fun W hW => (CW.out W).mono fun e w' h => ⟨h.1, hW.trans (h.2.mono hW.size)⟩)
    clear CS CP CPr CSp CB CBr CSb CW
    obtain ⟨⟨c0, c1, c2, c3, c4, c5, c6, c7, c8, c9, c10, c11⟩, d0, d1, d2, d3, d4, d5, d6, d7, d8, d9, d10, d11⟩ := HH.out W2 (Below.refl _ _)
    have hB3 := Below.refl W2.heap.size W2
    go_upto_region 3 with fail
    refine wp_region_noPanic ?_
    refine wp_region_held_drew (S := (fun W => (W.cell? ⟨w.heap.size, 0, none⟩ = some (.int .i64 kind) ∧ W.cell? ⟨w.heap.size, 1, none⟩ = some (.int .i64 t) ∧ W.cell? ⟨w.heap.size, 2, none⟩ = some (.int .i64 f) ∧ W.cell? ⟨w.heap.size, 3, none⟩ = some (.int .u32 s) ∧ W.cell? ⟨w.heap.size, 4, none⟩ = some (.int .i64 hops) ∧ W.cell? ⟨w.heap.size, 5, none⟩ = some (.int .i64 no) ∧ W.cell? ⟨w.heap.size, 6, none⟩ = some (.int .i64 to) ∧ W.cell? ⟨w.heap.size, 7, none⟩ = some (.int .i64 index) ∧ W.cell? ⟨w.heap.size, 8, none⟩ = some (.int .i64 total) ∧ W.cell? ⟨w.heap.size, 9, none⟩ = some (.int .i64 stamp) ∧ W.cell? ⟨w.heap.size, 10, none⟩ = some (.int .i64 value) ∧ W.cell? ⟨w.heap.size, 11, none⟩ = some (.slice ad n cap)) ∧ (W.cell? ⟨w1.heap.size, 0, none⟩ = some (.int .i64 0) ∧ W.cell? ⟨w1.heap.size, 1, none⟩ = some (.int .i64 0) ∧ W.cell? ⟨w1.heap.size, 2, none⟩ = some (.int .i64 0) ∧ W.cell? ⟨w1.heap.size, 3, none⟩ = some (.int .u32 0) ∧ W.cell? ⟨w1.heap.size, 4, none⟩ = some (.int .i64 0) ∧ W.cell? ⟨w1.heap.size, 5, none⟩ = some (.int .i64 0) ∧ W.cell? ⟨w1.heap.size, 6, none⟩ = some (.int .i64 0) ∧ W.cell? ⟨w1.heap.size, 7, none⟩ = some (.int .i64 0) ∧ W.cell? ⟨w1.heap.size, 8, none⟩ = some (.int .i64 0) ∧ W.cell? ⟨w1.heap.size, 9, none⟩ = some (.int .i64 0) ∧ W.cell? ⟨w1.heap.size, 10, none⟩ = some (.int .i64 0) ∧ W.cell? ⟨w1.heap.size, 11, none⟩ = some (.slice none 0 0)))) (by kernel_rfl) ?_ (fun hHeld => ?_)
    · exact HH.out _ hB3.drew
    refine wpAnyH_take (i := 0) (v := ?_) rfl (by kernel_rfl) (by kernel_rfl) (by kernel_rfl) (fun _ _ _ h => h) (Or.inl ⟨by kernel_rfl, ?_⟩) (by assumption) ?_
    rotate_left 1
    focus (intro w hSw; clear hSw; go_simp; try with_reducible rfl)
    refine wpAnyH_take (i := 1) (v := ?_) rfl (by kernel_rfl) (by kernel_rfl) (by kernel_rfl) (fun _ _ _ h => h) (Or.inl ⟨by kernel_rfl, ?_⟩) (by assumption) ?_
    rotate_left 1
    focus (intro w hSw; clear hSw; go_simp; try with_reducible rfl)
    refine wpAnyH_take (i := 2) (v := ?_) rfl (by kernel_rfl) (by kernel_rfl) (by kernel_rfl) (fun _ _ _ h => h) (Or.inl ⟨by kernel_rfl, ?_⟩) (by assumption) ?_
    rotate_left 1
    focus (intro w hSw; clear hSw; go_simp; try with_reducible rfl)
    refine wpAnyH_take (i := 3) (v := ?_) rfl (by kernel_rfl) (by kernel_rfl) (by kernel_rfl) (fun _ _ _ h => h) (Or.inl ⟨by kernel_rfl, ?_⟩) (by assumption) ?_
    rotate_left 1
    focus (intro w hSw; clear hSw; go_simp; try with_reducible rfl)
    refine wpAnyH_take (i := 4) (v := ?_) rfl (by kernel_rfl) (by kernel_rfl) (by kernel_rfl) (fun _ _ _ h => h) (Or.inl ⟨by kernel_rfl, ?_⟩) (by assumption) ?_
    rotate_left 1
    focus (intro w hSw; clear hSw; go_simp; try with_reducible rfl)
    refine wpAnyH_take (i := 5) (v := ?_) rfl (by kernel_rfl) (by kernel_rfl) (by kernel_rfl) (fun _ _ _ h => h) (Or.inl ⟨by kernel_rfl, ?_⟩) (by assumption) ?_
    rotate_left 1
    focus (intro w hSw; clear hSw; go_simp; try with_reducible rfl)
    refine wpAnyH_take (i := 6) (v := undef) rfl (by kernel_rfl) (by kernel_rfl) (by kernel_rfl) (fun _ _ _ h => h) (Or.inr ⟨by kernel_rfl, rfl⟩) (by assumption) ?_
    refine wpAnyH_take (i := 7) (v := undef) rfl (by kernel_rfl) (by kernel_rfl) (by kernel_rfl) (fun _ _ _ h => h) (Or.inr ⟨by kernel_rfl, rfl⟩) (by assumption) ?_
    refine wpAnyH_take (i := 8) (v := undef) rfl (by kernel_rfl) (by kernel_rfl) (by kernel_rfl) (fun _ _ _ h => h) (Or.inr ⟨by kernel_rfl, rfl⟩) (by assumption) ?_
    refine wpAnyH_take (i := 9) (v := undef) rfl (by kernel_rfl) (by kernel_rfl) (by kernel_rfl) (fun _ _ _ h => h) (Or.inr ⟨by kernel_rfl, rfl⟩) (by assumption) ?_
    refine wpAnyH_take (i := 10) (v := undef) rfl (by kernel_rfl) (by kernel_rfl) (by kernel_rfl) (fun _ _ _ h => h) (Or.inr ⟨by kernel_rfl, rfl⟩) (by assumption) ?_
    refine wpAnyH_take (i := 11) (v := undef) rfl (by kernel_rfl) (by kernel_rfl) (by kernel_rfl) (fun _ _ _ h => h) (Or.inr ⟨by kernel_rfl, rfl⟩) (by assumption) ?_
    refine wpAnyH_take (i := 12) (v := ?_) rfl (by kernel_rfl) (by kernel_rfl) (by kernel_rfl) (fun _ _ _ h => h) (Or.inl ⟨by kernel_rfl, ?_⟩) (by assumption) ?_
    rotate_left 1
    focus (intro w hSw; clear hSw; go_simp; try with_reducible rfl)
    refine wpAnyH_take (i := 13) (v := ?_) rfl (by kernel_rfl) (by kernel_rfl) (by kernel_rfl) (fun _ _ _ h => h) (Or.inl ⟨by kernel_rfl, ?_⟩) (by assumption) ?_
    rotate_left 1
    focus (intro w hSw; clear hSw; go_simp; try with_reducible rfl)
    refine wpAnyH_take (i := 14) (v := ?_) rfl (by kernel_rfl) (by kernel_rfl) (by kernel_rfl) (fun _ _ _ h => h) (Or.inl ⟨by kernel_rfl, ?_⟩) (by assumption) ?_
    rotate_left 1
    focus (intro w hSw; clear hSw; go_simp; try with_reducible rfl)
    refine wpAnyH_take (i := 15) (v := ?_) rfl (by kernel_rfl) (by kernel_rfl) (by kernel_rfl) (fun _ _ _ h => h) (Or.inl ⟨by kernel_rfl, ?_⟩) (by assumption) ?_
    rotate_left 1
    focus (intro w hSw; clear hSw; go_simp; try with_reducible rfl)
    refine wpAnyH_take (i := 16) (v := ?_) rfl (by kernel_rfl) (by kernel_rfl) (by kernel_rfl) (fun _ _ _ h => h) (Or.inl ⟨by kernel_rfl, ?_⟩) (by assumption) ?_
    rotate_left 1
    focus (intro w hSw; clear hSw; go_simp; try with_reducible rfl)
    refine wpAnyH_take (i := 17) (v := ?_) rfl (by kernel_rfl) (by kernel_rfl) (by kernel_rfl) (fun _ _ _ h => h) (Or.inl ⟨by kernel_rfl, ?_⟩) (by assumption) ?_
    rotate_left 1
    focus (intro w hSw; clear hSw; go_simp; try with_reducible rfl)
    refine wpAnyH_take (i := 18) (v := ?_) rfl (by kernel_rfl) (by kernel_rfl) (by kernel_rfl) (fun _ _ _ h => h) (Or.inl ⟨by kernel_rfl, ?_⟩) (by assumption) ?_
    rotate_left 1
    focus (intro w hSw; obtain ⟨⟨c0, c1, c2, c3, c4, c5, c6, c7, c8, c9, c10, c11⟩, d0, d1, d2, d3, d4, d5, d6, d7, d8, d9, d10, d11⟩ := hSw; go_simp; try with_reducible rfl)
    refine wpAnyH_take (i := 19) (v := ?_) rfl (by kernel_rfl) (by kernel_rfl) (by kernel_rfl) (fun _ _ _ h => h) (Or.inl ⟨by kernel_rfl, ?_⟩) (by assumption) ?_
    rotate_left 1
    focus (intro w hSw; clear hSw; go_simp; try with_reducible rfl)
    refine wpAnyH_ready (rs := [20]) (by kernel_rfl) (by simp) ?_
    refine AllReadyH.cons rfl (fun K hK => ?_) ?_
    · go_simp
      go_wp2_with (go_at_call 10; (with_reducible refine (CS2.out _ ?_).mono ?_); (focus (first | assumption | exact Below.drew (by assumption))); rintro e w5 ⟨rfl, hB5⟩)
      refine hK.out _ _ ?_ (fun hHeld => ?_)
      · exact HH.out _ hB5
      clear hK K
      refine wpAnyH_take (i := 21) (v := ?_) rfl (by kernel_rfl) (by kernel_rfl) (by kernel_rfl) (fun _ _ _ h => h) (Or.inl ⟨by kernel_rfl, ?_⟩) (by assumption) ?_
      rotate_left 1
      focus (intro w hSw; clear hSw; go_simp; try with_reducible rfl)
      refine wpAnyH_take (i := 22) (v := ?_) rfl (by kernel_rfl) (by kernel_rfl) (by kernel_rfl) (fun _ _ _ h => h) (Or.inl ⟨by kernel_rfl, ?_⟩) (by assumption) ?_
      rotate_left 1
      focus (intro w hSw; clear hSw; go_simp; try with_reducible rfl)
      refine wpAnyH_take (i := 23) (v := ?_) rfl (by kernel_rfl) (by kernel_rfl) (by kernel_rfl) (fun _ _ _ h => h) (Or.inl ⟨by kernel_rfl, ?_⟩) (by assumption) ?_
      rotate_left 1
      focus (intro w hSw; clear hSw; go_simp; try with_reducible rfl)
      refine wpAnyH_done (by kernel_rfl) ?_ _
      refine NoPanic.normal ?_
      clear c0 c1 c2 c3 c4 c5 c6 c7 c8 c9 c10 c11 d0 d1 d2 d3 d4 d5 d6 d7 d8 d9 d10 d11 hHeld
      try simp only [Act.put, List.getElem_toArray, List.getElem_cons_succ, List.getElem_cons_zero, List.setIfInBounds_toArray, List.set_cons_zero, List.set_cons_succ]
      go_upto_region 5 with fail
      have HH5 : Hid (∀ W, Below W2.heap.size W2 W → (W.cell? ⟨w.heap.size, 0, none⟩ = some (.int .i64 kind) ∧ W.cell? ⟨w.heap.size, 1, none⟩ = some (.int .i64 t) ∧ W.cell? ⟨w.heap.size, 2, none⟩ = some (.int .i64 f) ∧ W.cell? ⟨w.heap.size, 3, none⟩ = some (.int .u32 s) ∧ W.cell? ⟨w.heap.size, 4, none⟩ = some (.int .i64 hops) ∧ W.cell? ⟨w.heap.size, 5, none⟩ = some (.int .i64 no) ∧ W.cell? ⟨w.heap.size, 6, none⟩ = some (.int .i64 to) ∧ W.cell? ⟨w.heap.size, 7, none⟩ = some (.int .i64 index) ∧ W.cell? ⟨w.heap.size, 8, none⟩ = some (.int .i64 total) ∧ W.cell? ⟨w.heap.size, 9, none⟩ = some (.int .i64 stamp) ∧ W.cell? ⟨w.heap.size, 10, none⟩ = some (.int .i64 value) ∧ W.cell? ⟨w.heap.size, 11, none⟩ = some (.slice ad n cap))) := Lib.hid (fun W hW => (HH.out W hW).1)
      clear HH CS2 
      obtain ⟨c0, c1, c2, c3, c4, c5, c6, c7, c8, c9, c10, c11⟩ := HH5.out w5 hB5
      refine wp_region_noPanic ?_
      go_region_held_law (fun W => Below W2.heap.size W2 W ∧ (W.cell? ⟨w.heap.size, 0, none⟩ = some (.int .i64 kind) ∧ W.cell? ⟨w.heap.size, 1, none⟩ = some (.int .i64 t) ∧ W.cell? ⟨w.heap.size, 2, none⟩ = some (.int .i64 f) ∧ W.cell? ⟨w.heap.size, 3, none⟩ = some (.int .u32 s) ∧ W.cell? ⟨w.heap.size, 4, none⟩ = some (.int .i64 hops) ∧ W.cell? ⟨w.heap.size, 5, none⟩ = some (.int .i64 no) ∧ W.cell? ⟨w.heap.size, 6, none⟩ = some (.int .i64 to) ∧ W.cell? ⟨w.heap.size, 7, none⟩ = some (.int .i64 index) ∧ W.cell? ⟨w.heap.size, 8, none⟩ = some (.int .i64 total) ∧ W.cell? ⟨w.heap.size, 9, none⟩ = some (.int .i64 stamp) ∧ W.cell? ⟨w.heap.size, 10, none⟩ = some (.int .i64 value) ∧ W.cell? ⟨w.heap.size, 11, none⟩ = some (.slice ad n cap))) (refine ⟨?_, HH5.out _ ?_⟩ <;> (first | assumption | exact (Below.refl _ _).drew | exact Below.drew (by assumption)))
        (first
          | (go_at_call 12; (with_reducible refine (CP2.out _ ?_).mono ?_); (focus (first | assumption | exact (Below.refl _ _) | exact (Below.refl _ _).drew | exact Below.drew (by assumption) | exact (‹Below W2.heap.size W2 _ ∧ _›).1)); rintro e w6 ⟨rfl, hB6⟩)
          | (go_at_call 13; (with_reducible refine (CPr2.out _ ?_).mono ?_); (focus (first | assumption | exact (Below.refl _ _) | exact (Below.refl _ _).drew | exact Below.drew (by assumption) | exact (‹Below W2.heap.size W2 _ ∧ _›).1)); rintro e w7 ⟨rfl, hB7⟩)
          | (go_at_call 10; (with_reducible refine (CSp2.out _ ?_).mono ?_); (focus (first | assumption | exact (Below.refl _ _) | exact (Below.refl _ _).drew | exact Below.drew (by assumption) | exact (‹Below W2.heap.size W2 _ ∧ _›).1)); rintro e w8 ⟨rfl, hB8⟩)
          | (go_at_call 14; (with_reducible refine (CB2.out _ ?_).mono ?_); (focus (first | assumption | exact (Below.refl _ _) | exact (Below.refl _ _).drew | exact Below.drew (by assumption) | exact (‹Below W2.heap.size W2 _ ∧ _›).1)); rintro e w9 ⟨rfl, hB9⟩)
          | (go_at_call 15; (with_reducible refine (CBr2.out _ ?_).mono ?_); (focus (first | assumption | exact (Below.refl _ _) | exact (Below.refl _ _).drew | exact Below.drew (by assumption) | exact (‹Below W2.heap.size W2 _ ∧ _›).1)); rintro e w10 ⟨rfl, hB10⟩)
          | (go_at_call 10; (with_reducible refine (CSb2.out _ ?_).mono ?_); (focus (first | assumption | exact (Below.refl _ _) | exact (Below.refl _ _).drew | exact Below.drew (by assumption) | exact (‹Below W2.heap.size W2 _ ∧ _›).1)); rintro e w11 ⟨rfl, hB11⟩)
          | (go_at_call 16; (with_reducible refine (CW2.out _ ?_).mono ?_); (focus (first | assumption | exact (Below.refl _ _) | exact (Below.refl _ _).drew | exact Below.drew (by assumption) | exact (‹Below W2.heap.size W2 _ ∧ _›).1)); rintro e w12 ⟨rfl, hB12⟩))
      refine NoPanic.normal ?_
      go_wp2_with fail
      go_ret
      exact ⟨rfl, HB0.out.trans ((HB2.out.trans ((‹Below W2.heap.size W2 _ ∧ _›).1.mono HB2.out.size)).mono HB0.out.size)⟩
    exact AllReadyH.nil
  | true =>
    cases hgb : Pul.pulG a2 with
    | false =>
      have hEb : Pul.echoB a2 = false := by unfold Pul.echoB; rw [hk, hgb]; rfl
      have CE : Hid (Calls Try.prog 8 #[Hed.pval a2, .int .i64 a1] wb fun e w' => e = .returned (.tuple #[Hed.pval (Hed.zero), .bool false]) ∧ Below wb.heap.size wb w') := Lib.hid (by
        have h := Pul.echo_any a2 a1 wb (HR.out wb (Below.refl _ _))
        rwa [show Pul.echoB a2 = false from hEb, show Pul.echoV a2 a1 = Hed.zero from by unfold Pul.echoV; rw [show Pul.echoB a2 = false from hEb]; rfl] at h)
      have CR : Hid (∀ W, Below wb.heap.size wb W → Calls Try.prog 9 #[Hed.pval a2] W fun e w' => e = .returned (.bool false) ∧ Below W.heap.size W w') := Lib.hid (fun W hW => by
        have h := Pul.refpulse_any a2 W (HR.out W hW)
        rwa [hgb] at h)
      have CS := Lib.hid (fun W => Hed.rsame_any (Hed.zero) (Hed.zero) W (.inl rfl) (.inl rfl))
      have CP := Lib.hid (fun W => Pul.probe_any a0 W)
      have CPr := Lib.hid (fun W => Pul.rprobe_any a0 W)
      have CSp := Lib.hid (fun W => Hed.rsame_any (Pul.probeP a0) (Pul.probeP a0) W (.inl rfl) (.inl rfl))
      have CB := Lib.hid (fun W => Pul.beacon_any a2.key a0 W)
      have CBr := Lib.hid (fun W => Pul.rbeacon_any a2.key a0 W)
      have CSb := Lib.hid (fun W => Hed.rsame_any (Pul.beacP a2.key 1 a0) (Pul.beacP a2.key 1 a0) W (.inl rfl) (.inl rfl))
      have CW := Lib.hid (fun W => Pul.pworks_any W)
      rw [Hed.eqP_self] at CS CSp CSb
      unfold Key.kval at CB CBr
      unfold Hed.zero at CE CS

      unfold Pul.probeP at CP CPr CSp
      unfold Pul.beacP at CB CBr CSb
      clear w2 hr0 hn0 hl0 hm0 hst0 hva0 HR hEb hgb
      obtain ⟨kind, ⟨t, f, s⟩, hops, no, to, index, total, stamp, value, ad, cap, body⟩ := a2
      unfold Hed.pval Hed.Pk.cells at CE CS CP CPr CSp CB CBr CSb CR
      unfold Hed.Pk.cells at hwb
      unfold Hed.pval Hed.Pk.cells
      simp only [List.length_nil] at CE CS CP CPr CSp CB CBr CSb CR hwb HC hk ⊢
      obtain ⟨n, hn⟩ : ∃ n, body.length = n := ⟨_, rfl⟩
      simp only [hn] at CE CS CP CPr CSp CB CBr CSb CR hwb HC ⊢
      clear hn
      have hk1 : (kind == 1) = true := hk
      go_enter Try.func3, Try.ntmps3
      go_upto_region 1 with fail
      rw [← hwb.out]
      obtain ⟨c0, c1, c2, c3, c4, c5, c6, c7, c8, c9, c10, c11⟩ := HC.out wb (Below.refl _ _)
      go_wp2_with fail
      refine (CE.out).mono ?_; rintro e w1 ⟨rfl, hB1⟩
      have HB1 := Lib.hid hB1
      clear hB1 CE c0 c1 c2 c3 c4 c5 c6 c7 c8 c9 c10 c11
      go_upto_region 2 with fail
      obtain ⟨W2, hW2⟩ : ∃ W2, Hid (W2 = w1.alloc (.cells #[.int .i64 0, .int .i64 0, .int .i64 0, .int .u32 0, .int .i64 0, .int .i64 0, .int .i64 0, .int .i64 0, .int .i64 0, .int .i64 0, .int .i64 0, .slice none 0 0] 27)) := ⟨_, Lib.hid rfl⟩
      rw [← hW2.out]
      have hX := Hed.one_box w1 W2 _ _ hW2.out
      have HB2 := Lib.hid (HB1.out.trans (hX.1.mono HB1.out.size))
      have HH : Hid (∀ W, Below W2.heap.size W2 W → (W.cell? ⟨w.heap.size, 0, none⟩ = some (.int .i64 kind) ∧ W.cell? ⟨w.heap.size, 1, none⟩ = some (.int .i64 t) ∧ W.cell? ⟨w.heap.size, 2, none⟩ = some (.int .i64 f) ∧ W.cell? ⟨w.heap.size, 3, none⟩ = some (.int .u32 s) ∧ W.cell? ⟨w.heap.size, 4, none⟩ = some (.int .i64 hops) ∧ W.cell? ⟨w.heap.size, 5, none⟩ = some (.int .i64 no) ∧ W.cell? ⟨w.heap.size, 6, none⟩ = some (.int .i64 to) ∧ W.cell? ⟨w.heap.size, 7, none⟩ = some (.int .i64 index) ∧ W.cell? ⟨w.heap.size, 8, none⟩ = some (.int .i64 total) ∧ W.cell? ⟨w.heap.size, 9, none⟩ = some (.int .i64 stamp) ∧ W.cell? ⟨w.heap.size, 10, none⟩ = some (.int .i64 value) ∧ W.cell? ⟨w.heap.size, 11, none⟩ = some (.slice ad n cap)) ∧ (W.cell? ⟨w1.heap.size, 0, none⟩ = some (.int .i64 0) ∧ W.cell? ⟨w1.heap.size, 1, none⟩ = some (.int .i64 0) ∧ W.cell? ⟨w1.heap.size, 2, none⟩ = some (.int .i64 0) ∧ W.cell? ⟨w1.heap.size, 3, none⟩ = some (.int .u32 0) ∧ W.cell? ⟨w1.heap.size, 4, none⟩ = some (.int .i64 0) ∧ W.cell? ⟨w1.heap.size, 5, none⟩ = some (.int .i64 0) ∧ W.cell? ⟨w1.heap.size, 6, none⟩ = some (.int .i64 0) ∧ W.cell? ⟨w1.heap.size, 7, none⟩ = some (.int .i64 0) ∧ W.cell? ⟨w1.heap.size, 8, none⟩ = some (.int .i64 0) ∧ W.cell? ⟨w1.heap.size, 9, none⟩ = some (.int .i64 0) ∧ W.cell? ⟨w1.heap.size, 10, none⟩ = some (.int .i64 0) ∧ W.cell? ⟨w1.heap.size, 11, none⟩ = some (.slice none 0 0))) := Lib.hid (fun W hW => ⟨HC.out W (HB2.out.trans (hW.mono HB2.out.size)), by
        have hb := hX.2.below hW
        exact ⟨hb.cell 0, hb.cell 1, hb.cell 2, hb.cell 3, hb.cell 4, hb.cell 5, hb.cell 6, hb.cell 7, hb.cell 8, hb.cell 9, hb.cell 10, hb.cell 11⟩⟩)
      clear hX hW2
      have CR2 : Hid (Calls Try.prog 9 #[.agg #[.int .i64 kind, .int .i64 t, .int .i64 f, .int .u32 s, .int .i64 hops, .int .i64 no, .int .i64 to, .int .i64 index, .int .i64 total, .int .i64 stamp, .int .i64 value, .slice ad n cap]] W2 fun e w' => e = .returned (.bool false) ∧ Below W2.heap.size W2 w') := Lib.hid (CR.out W2 HB2.out)
      have CS2 : Hid (∀ W, Below W2.heap.size W2 W → Calls Try.prog 10 #[.agg #[.int .i64 0, .int .i64 0, .int .i64 0, .int .u32 0, .int .i64 0, .int .i64 0, .int .i64 0, .int .i64 0, .int .i64 0, .int .i64 0, .int .i64 0, .slice none 0 0], .agg #[.int .i64 0, .int .i64 0, .int .i64 0, .int .u32 0, .int .i64 0, .int .i64 0, .int .i64 0, .int .i64 0, .int .i64 0, .int .i64 0, .int .i64 0, .slice none 0 0]] W fun e w' => e = .returned (.bool true) ∧ Below W2.heap.size W2 w') := Lib.hid (fun W hW => (CS.out W).mono fun e w' h => ⟨h.1, hW.trans (h.2.mono hW.size)⟩)
      have CP2 : Hid (∀ W, Below W2.heap.size W2 W → Calls Try.prog 12 #[.int .i64 a0] W fun e w' => e = .returned (.agg #[.int .i64 1, .int .i64 0, .int .i64 0, .int .u32 0, .int .i64 0, .int .i64 0, .int .i64 0, .int .i64 0, .int .i64 0, .int .i64 a0, .int .i64 0, .slice none 0 0]) ∧ Below W2.heap.size W2 w') := Lib.hid (fun W hW => (CP.out W).mono fun e w' h => ⟨h.1, hW.trans (h.2.mono hW.size)⟩)
      have CPr2 : Hid (∀ W, Below W2.heap.size W2 W → Calls Try.prog 13 #[.int .i64 a0] W fun e w' => e = .returned (.agg #[.int .i64 1, .int .i64 0, .int .i64 0, .int .u32 0, .int .i64 0, .int .i64 0, .int .i64 0, .int .i64 0, .int .i64 0, .int .i64 a0, .int .i64 0, .slice none 0 0]) ∧ Below W2.heap.size W2 w') := Lib.hid (fun W hW => (CPr.out W).mono fun e w' h => ⟨h.1, hW.trans (h.2.mono hW.size)⟩)
      have CSp2 : Hid (∀ W, Below W2.heap.size W2 W → Calls Try.prog 10 #[.agg #[.int .i64 1, .int .i64 0, .int .i64 0, .int .u32 0, .int .i64 0, .int .i64 0, .int .i64 0, .int .i64 0, .int .i64 0, .int .i64 a0, .int .i64 0, .slice none 0 0], .agg #[.int .i64 1, .int .i64 0, .int .i64 0, .int .u32 0, .int .i64 0, .int .i64 0, .int .i64 0, .int .i64 0, .int .i64 0, .int .i64 a0, .int .i64 0, .slice none 0 0]] W fun e w' => e = .returned (.bool true) ∧ Below W2.heap.size W2 w') := Lib.hid (fun W hW => (CSp.out W).mono fun e w' h => ⟨h.1, hW.trans (h.2.mono hW.size)⟩)
      have CB2 : Hid (∀ W, Below W2.heap.size W2 W → Calls Try.prog 14 #[.agg #[.int .i64 t, .int .i64 f, .int .u32 s], .int .i64 a0] W fun e w' => e = .returned (.agg #[.int .i64 3, .int .i64 t, .int .i64 f, .int .u32 s, .int .i64 1, .int .i64 a0, .int .i64 0, .int .i64 0, .int .i64 0, .int .i64 0, .int .i64 0, .slice none 0 0]) ∧ Below W2.heap.size W2 w') := Lib.hid (fun W hW => (CB.out W).mono fun e w' h => ⟨h.1, hW.trans (h.2.mono hW.size)⟩)
      have CBr2 : Hid (∀ W, Below W2.heap.size W2 W → Calls Try.prog 15 #[.agg #[.int .i64 t, .int .i64 f, .int .u32 s], .int .i64 a0] W fun e w' => e = .returned (.agg #[.int .i64 3, .int .i64 t, .int .i64 f, .int .u32 s, .int .i64 1, .int .i64 a0, .int .i64 0, .int .i64 0, .int .i64 0, .int .i64 0, .int .i64 0, .slice none 0 0]) ∧ Below W2.heap.size W2 w') := Lib.hid (fun W hW => (CBr.out W).mono fun e w' h => ⟨h.1, hW.trans (h.2.mono hW.size)⟩)
      have CSb2 : Hid (∀ W, Below W2.heap.size W2 W → Calls Try.prog 10 #[.agg #[.int .i64 3, .int .i64 t, .int .i64 f, .int .u32 s, .int .i64 1, .int .i64 a0, .int .i64 0, .int .i64 0, .int .i64 0, .int .i64 0, .int .i64 0, .slice none 0 0], .agg #[.int .i64 3, .int .i64 t, .int .i64 f, .int .u32 s, .int .i64 1, .int .i64 a0, .int .i64 0, .int .i64 0, .int .i64 0, .int .i64 0, .int .i64 0, .slice none 0 0]] W fun e w' => e = .returned (.bool true) ∧ Below W2.heap.size W2 w') := Lib.hid (fun W hW => (CSb.out W).mono fun e w' h => ⟨h.1, hW.trans (h.2.mono hW.size)⟩)
      have CW2 : Hid (∀ W, Below W2.heap.size W2 W → Calls Try.prog 16 #[] W fun e w' => e = .returned (.bool true) ∧ Below W2.heap.size W2 w') := Lib.hid (fun W hW => (CW.out W).mono fun e w' h => ⟨h.1, hW.trans (h.2.mono hW.size)⟩)
      clear CS CP CPr CSp CB CBr CSb CW CR
      obtain ⟨⟨c0, c1, c2, c3, c4, c5, c6, c7, c8, c9, c10, c11⟩, d0, d1, d2, d3, d4, d5, d6, d7, d8, d9, d10, d11⟩ := HH.out W2 (Below.refl _ _)
      go_wp2_with fail
      refine (CR2.out).mono ?_; rintro e w3 ⟨rfl, hB3⟩
      clear c0 c1 c2 c3 c4 c5 c6 c7 c8 c9 c10 c11 d0 d1 d2 d3 d4 d5 d6 d7 d8 d9 d10 d11 CR2
      obtain ⟨⟨c0, c1, c2, c3, c4, c5, c6, c7, c8, c9, c10, c11⟩, d0, d1, d2, d3, d4, d5, d6, d7, d8, d9, d10, d11⟩ := HH.out w3 hB3
      go_upto_region 3 with fail
      refine wp_region_noPanic ?_
      refine wp_region_held_drew (S := (fun W => (W.cell? ⟨w.heap.size, 0, none⟩ = some (.int .i64 kind) ∧ W.cell? ⟨w.heap.size, 1, none⟩ = some (.int .i64 t) ∧ W.cell? ⟨w.heap.size, 2, none⟩ = some (.int .i64 f) ∧ W.cell? ⟨w.heap.size, 3, none⟩ = some (.int .u32 s) ∧ W.cell? ⟨w.heap.size, 4, none⟩ = some (.int .i64 hops) ∧ W.cell? ⟨w.heap.size, 5, none⟩ = some (.int .i64 no) ∧ W.cell? ⟨w.heap.size, 6, none⟩ = some (.int .i64 to) ∧ W.cell? ⟨w.heap.size, 7, none⟩ = some (.int .i64 index) ∧ W.cell? ⟨w.heap.size, 8, none⟩ = some (.int .i64 total) ∧ W.cell? ⟨w.heap.size, 9, none⟩ = some (.int .i64 stamp) ∧ W.cell? ⟨w.heap.size, 10, none⟩ = some (.int .i64 value) ∧ W.cell? ⟨w.heap.size, 11, none⟩ = some (.slice ad n cap)) ∧ (W.cell? ⟨w1.heap.size, 0, none⟩ = some (.int .i64 0) ∧ W.cell? ⟨w1.heap.size, 1, none⟩ = some (.int .i64 0) ∧ W.cell? ⟨w1.heap.size, 2, none⟩ = some (.int .i64 0) ∧ W.cell? ⟨w1.heap.size, 3, none⟩ = some (.int .u32 0) ∧ W.cell? ⟨w1.heap.size, 4, none⟩ = some (.int .i64 0) ∧ W.cell? ⟨w1.heap.size, 5, none⟩ = some (.int .i64 0) ∧ W.cell? ⟨w1.heap.size, 6, none⟩ = some (.int .i64 0) ∧ W.cell? ⟨w1.heap.size, 7, none⟩ = some (.int .i64 0) ∧ W.cell? ⟨w1.heap.size, 8, none⟩ = some (.int .i64 0) ∧ W.cell? ⟨w1.heap.size, 9, none⟩ = some (.int .i64 0) ∧ W.cell? ⟨w1.heap.size, 10, none⟩ = some (.int .i64 0) ∧ W.cell? ⟨w1.heap.size, 11, none⟩ = some (.slice none 0 0)))) (by kernel_rfl) ?_ (fun hHeld => ?_)
      · exact HH.out _ hB3.drew
      refine wpAnyH_take (i := 0) (v := ?_) rfl (by kernel_rfl) (by kernel_rfl) (by kernel_rfl) (fun _ _ _ h => h) (Or.inl ⟨by kernel_rfl, ?_⟩) (by assumption) ?_
      rotate_left 1
      focus (intro w hSw; clear hSw; go_simp; try with_reducible rfl)
      refine wpAnyH_take (i := 1) (v := ?_) rfl (by kernel_rfl) (by kernel_rfl) (by kernel_rfl) (fun _ _ _ h => h) (Or.inl ⟨by kernel_rfl, ?_⟩) (by assumption) ?_
      rotate_left 1
      focus (intro w hSw; clear hSw; go_simp; try with_reducible rfl)
      refine wpAnyH_take (i := 2) (v := ?_) rfl (by kernel_rfl) (by kernel_rfl) (by kernel_rfl) (fun _ _ _ h => h) (Or.inl ⟨by kernel_rfl, ?_⟩) (by assumption) ?_
      rotate_left 1
      focus (intro w hSw; clear hSw; go_simp; try with_reducible rfl)
      refine wpAnyH_take (i := 3) (v := ?_) rfl (by kernel_rfl) (by kernel_rfl) (by kernel_rfl) (fun _ _ _ h => h) (Or.inl ⟨by kernel_rfl, ?_⟩) (by assumption) ?_
      rotate_left 1
      focus (intro w hSw; clear hSw; go_simp; try with_reducible rfl)
      refine wpAnyH_take (i := 4) (v := ?_) rfl (by kernel_rfl) (by kernel_rfl) (by kernel_rfl) (fun _ _ _ h => h) (Or.inl ⟨by kernel_rfl, ?_⟩) (by assumption) ?_
      rotate_left 1
      focus (intro w hSw; clear hSw; go_simp; try with_reducible rfl)
      refine wpAnyH_take (i := 5) (v := ?_) rfl (by kernel_rfl) (by kernel_rfl) (by kernel_rfl) (fun _ _ _ h => h) (Or.inl ⟨by kernel_rfl, ?_⟩) (by assumption) ?_
      rotate_left 1
      focus (intro w hSw; clear hSw; go_simp; try with_reducible rfl)
      refine wpAnyH_take (i := 6) (v := undef) rfl (by kernel_rfl) (by kernel_rfl) (by kernel_rfl) (fun _ _ _ h => h) (Or.inr ⟨by kernel_rfl, rfl⟩) (by assumption) ?_
      refine wpAnyH_take (i := 7) (v := undef) rfl (by kernel_rfl) (by kernel_rfl) (by kernel_rfl) (fun _ _ _ h => h) (Or.inr ⟨by kernel_rfl, rfl⟩) (by assumption) ?_
      refine wpAnyH_take (i := 8) (v := undef) rfl (by kernel_rfl) (by kernel_rfl) (by kernel_rfl) (fun _ _ _ h => h) (Or.inr ⟨by kernel_rfl, rfl⟩) (by assumption) ?_
      refine wpAnyH_take (i := 9) (v := undef) rfl (by kernel_rfl) (by kernel_rfl) (by kernel_rfl) (fun _ _ _ h => h) (Or.inr ⟨by kernel_rfl, rfl⟩) (by assumption) ?_
      refine wpAnyH_take (i := 10) (v := undef) rfl (by kernel_rfl) (by kernel_rfl) (by kernel_rfl) (fun _ _ _ h => h) (Or.inr ⟨by kernel_rfl, rfl⟩) (by assumption) ?_
      refine wpAnyH_take (i := 11) (v := undef) rfl (by kernel_rfl) (by kernel_rfl) (by kernel_rfl) (fun _ _ _ h => h) (Or.inr ⟨by kernel_rfl, rfl⟩) (by assumption) ?_
      refine wpAnyH_take (i := 12) (v := ?_) rfl (by kernel_rfl) (by kernel_rfl) (by kernel_rfl) (fun _ _ _ h => h) (Or.inl ⟨by kernel_rfl, ?_⟩) (by assumption) ?_
      rotate_left 1
      focus (intro w hSw; clear hSw; go_simp; try with_reducible rfl)
      refine wpAnyH_take (i := 13) (v := ?_) rfl (by kernel_rfl) (by kernel_rfl) (by kernel_rfl) (fun _ _ _ h => h) (Or.inl ⟨by kernel_rfl, ?_⟩) (by assumption) ?_
      rotate_left 1
      focus (intro w hSw; clear hSw; go_simp; try with_reducible rfl)
      refine wpAnyH_take (i := 14) (v := ?_) rfl (by kernel_rfl) (by kernel_rfl) (by kernel_rfl) (fun _ _ _ h => h) (Or.inl ⟨by kernel_rfl, ?_⟩) (by assumption) ?_
      rotate_left 1
      focus (intro w hSw; clear hSw; go_simp; try with_reducible rfl)
      refine wpAnyH_take (i := 15) (v := ?_) rfl (by kernel_rfl) (by kernel_rfl) (by kernel_rfl) (fun _ _ _ h => h) (Or.inl ⟨by kernel_rfl, ?_⟩) (by assumption) ?_
      rotate_left 1
      focus (intro w hSw; clear hSw; go_simp; try with_reducible rfl)
      refine wpAnyH_take (i := 16) (v := ?_) rfl (by kernel_rfl) (by kernel_rfl) (by kernel_rfl) (fun _ _ _ h => h) (Or.inl ⟨by kernel_rfl, ?_⟩) (by assumption) ?_
      rotate_left 1
      focus (intro w hSw; clear hSw; go_simp; try with_reducible rfl)
      refine wpAnyH_take (i := 17) (v := ?_) rfl (by kernel_rfl) (by kernel_rfl) (by kernel_rfl) (fun _ _ _ h => h) (Or.inl ⟨by kernel_rfl, ?_⟩) (by assumption) ?_
      rotate_left 1
      focus (intro w hSw; clear hSw; go_simp; try with_reducible rfl)
      refine wpAnyH_take (i := 18) (v := ?_) rfl (by kernel_rfl) (by kernel_rfl) (by kernel_rfl) (fun _ _ _ h => h) (Or.inl ⟨by kernel_rfl, ?_⟩) (by assumption) ?_
      rotate_left 1
      focus (intro w hSw; obtain ⟨⟨c0, c1, c2, c3, c4, c5, c6, c7, c8, c9, c10, c11⟩, d0, d1, d2, d3, d4, d5, d6, d7, d8, d9, d10, d11⟩ := hSw; go_simp; try with_reducible rfl)
      refine wpAnyH_take (i := 19) (v := ?_) rfl (by kernel_rfl) (by kernel_rfl) (by kernel_rfl) (fun _ _ _ h => h) (Or.inl ⟨by kernel_rfl, ?_⟩) (by assumption) ?_
      rotate_left 1
      focus (intro w hSw; clear hSw; go_simp; try with_reducible rfl)
      refine wpAnyH_ready (rs := [20]) (by kernel_rfl) (by simp) ?_
      refine AllReadyH.cons rfl (fun K hK => ?_) ?_
      · go_simp
        go_wp2_with (go_at_call 10; (with_reducible refine (CS2.out _ ?_).mono ?_); (focus (first | assumption | exact Below.drew (by assumption))); rintro e w5 ⟨rfl, hB5⟩)
        refine hK.out _ _ ?_ (fun hHeld => ?_)
        · exact HH.out _ hB5
        clear hK K
        refine wpAnyH_take (i := 21) (v := ?_) rfl (by kernel_rfl) (by kernel_rfl) (by kernel_rfl) (fun _ _ _ h => h) (Or.inl ⟨by kernel_rfl, ?_⟩) (by assumption) ?_
        rotate_left 1
        focus (intro w hSw; clear hSw; go_simp; try with_reducible rfl)
        refine wpAnyH_take (i := 22) (v := ?_) rfl (by kernel_rfl) (by kernel_rfl) (by kernel_rfl) (fun _ _ _ h => h) (Or.inl ⟨by kernel_rfl, ?_⟩) (by assumption) ?_
        rotate_left 1
        focus (intro w hSw; clear hSw; go_simp; try with_reducible rfl)
        refine wpAnyH_take (i := 23) (v := ?_) rfl (by kernel_rfl) (by kernel_rfl) (by kernel_rfl) (fun _ _ _ h => h) (Or.inl ⟨by kernel_rfl, ?_⟩) (by assumption) ?_
        rotate_left 1
        focus (intro w hSw; clear hSw; go_simp; try with_reducible rfl)
        refine wpAnyH_done (by kernel_rfl) ?_ _
        refine NoPanic.normal ?_
        clear c0 c1 c2 c3 c4 c5 c6 c7 c8 c9 c10 c11 d0 d1 d2 d3 d4 d5 d6 d7 d8 d9 d10 d11 hHeld
        try simp only [Act.put, List.getElem_toArray, List.getElem_cons_succ, List.getElem_cons_zero, List.setIfInBounds_toArray, List.set_cons_zero, List.set_cons_succ]
        go_upto_region 5 with fail
        have HH5 : Hid (∀ W, Below W2.heap.size W2 W → (W.cell? ⟨w.heap.size, 0, none⟩ = some (.int .i64 kind) ∧ W.cell? ⟨w.heap.size, 1, none⟩ = some (.int .i64 t) ∧ W.cell? ⟨w.heap.size, 2, none⟩ = some (.int .i64 f) ∧ W.cell? ⟨w.heap.size, 3, none⟩ = some (.int .u32 s) ∧ W.cell? ⟨w.heap.size, 4, none⟩ = some (.int .i64 hops) ∧ W.cell? ⟨w.heap.size, 5, none⟩ = some (.int .i64 no) ∧ W.cell? ⟨w.heap.size, 6, none⟩ = some (.int .i64 to) ∧ W.cell? ⟨w.heap.size, 7, none⟩ = some (.int .i64 index) ∧ W.cell? ⟨w.heap.size, 8, none⟩ = some (.int .i64 total) ∧ W.cell? ⟨w.heap.size, 9, none⟩ = some (.int .i64 stamp) ∧ W.cell? ⟨w.heap.size, 10, none⟩ = some (.int .i64 value) ∧ W.cell? ⟨w.heap.size, 11, none⟩ = some (.slice ad n cap))) := Lib.hid (fun W hW => (HH.out W hW).1)
        clear HH CS2 
        obtain ⟨c0, c1, c2, c3, c4, c5, c6, c7, c8, c9, c10, c11⟩ := HH5.out w5 hB5
        refine wp_region_noPanic ?_
        go_region_held_law (fun W => Below W2.heap.size W2 W ∧ (W.cell? ⟨w.heap.size, 0, none⟩ = some (.int .i64 kind) ∧ W.cell? ⟨w.heap.size, 1, none⟩ = some (.int .i64 t) ∧ W.cell? ⟨w.heap.size, 2, none⟩ = some (.int .i64 f) ∧ W.cell? ⟨w.heap.size, 3, none⟩ = some (.int .u32 s) ∧ W.cell? ⟨w.heap.size, 4, none⟩ = some (.int .i64 hops) ∧ W.cell? ⟨w.heap.size, 5, none⟩ = some (.int .i64 no) ∧ W.cell? ⟨w.heap.size, 6, none⟩ = some (.int .i64 to) ∧ W.cell? ⟨w.heap.size, 7, none⟩ = some (.int .i64 index) ∧ W.cell? ⟨w.heap.size, 8, none⟩ = some (.int .i64 total) ∧ W.cell? ⟨w.heap.size, 9, none⟩ = some (.int .i64 stamp) ∧ W.cell? ⟨w.heap.size, 10, none⟩ = some (.int .i64 value) ∧ W.cell? ⟨w.heap.size, 11, none⟩ = some (.slice ad n cap))) (refine ⟨?_, HH5.out _ ?_⟩ <;> (first | assumption | exact (Below.refl _ _).drew | exact Below.drew (by assumption)))
          (first
            | (go_at_call 12; (with_reducible refine (CP2.out _ ?_).mono ?_); (focus (first | assumption | exact (Below.refl _ _) | exact (Below.refl _ _).drew | exact Below.drew (by assumption) | exact (‹Below W2.heap.size W2 _ ∧ _›).1)); rintro e w6 ⟨rfl, hB6⟩)
            | (go_at_call 13; (with_reducible refine (CPr2.out _ ?_).mono ?_); (focus (first | assumption | exact (Below.refl _ _) | exact (Below.refl _ _).drew | exact Below.drew (by assumption) | exact (‹Below W2.heap.size W2 _ ∧ _›).1)); rintro e w7 ⟨rfl, hB7⟩)
            | (go_at_call 10; (with_reducible refine (CSp2.out _ ?_).mono ?_); (focus (first | assumption | exact (Below.refl _ _) | exact (Below.refl _ _).drew | exact Below.drew (by assumption) | exact (‹Below W2.heap.size W2 _ ∧ _›).1)); rintro e w8 ⟨rfl, hB8⟩)
            | (go_at_call 14; (with_reducible refine (CB2.out _ ?_).mono ?_); (focus (first | assumption | exact (Below.refl _ _) | exact (Below.refl _ _).drew | exact Below.drew (by assumption) | exact (‹Below W2.heap.size W2 _ ∧ _›).1)); rintro e w9 ⟨rfl, hB9⟩)
            | (go_at_call 15; (with_reducible refine (CBr2.out _ ?_).mono ?_); (focus (first | assumption | exact (Below.refl _ _) | exact (Below.refl _ _).drew | exact Below.drew (by assumption) | exact (‹Below W2.heap.size W2 _ ∧ _›).1)); rintro e w10 ⟨rfl, hB10⟩)
            | (go_at_call 10; (with_reducible refine (CSb2.out _ ?_).mono ?_); (focus (first | assumption | exact (Below.refl _ _) | exact (Below.refl _ _).drew | exact Below.drew (by assumption) | exact (‹Below W2.heap.size W2 _ ∧ _›).1)); rintro e w11 ⟨rfl, hB11⟩)
            | (go_at_call 16; (with_reducible refine (CW2.out _ ?_).mono ?_); (focus (first | assumption | exact (Below.refl _ _) | exact (Below.refl _ _).drew | exact Below.drew (by assumption) | exact (‹Below W2.heap.size W2 _ ∧ _›).1)); rintro e w12 ⟨rfl, hB12⟩))
        refine NoPanic.normal ?_
        go_wp2_with fail
        go_ret
        exact ⟨rfl, HB0.out.trans ((HB2.out.trans ((‹Below W2.heap.size W2 _ ∧ _›).1.mono HB2.out.size)).mono HB0.out.size)⟩
      exact AllReadyH.nil
    | true =>
      have hEb : Pul.echoB a2 = true := by unfold Pul.echoB; rw [hk, hgb]; rfl
      have CE : Hid (Calls Try.prog 8 #[Hed.pval a2, .int .i64 a1] wb fun e w' => e = .returned (.tuple #[Hed.pval (Pul.echoP a2.stamp a1), .bool true]) ∧ Below wb.heap.size wb w') := Lib.hid (by
        have h := Pul.echo_any a2 a1 wb (HR.out wb (Below.refl _ _))
        rwa [show Pul.echoB a2 = true from hEb, show Pul.echoV a2 a1 = Pul.echoP a2.stamp a1 from by unfold Pul.echoV; rw [show Pul.echoB a2 = true from hEb]; rfl] at h)
      have CR : Hid (∀ W, Below wb.heap.size wb W → Calls Try.prog 9 #[Hed.pval a2] W fun e w' => e = .returned (.bool true) ∧ Below W.heap.size W w') := Lib.hid (fun W hW => by
        have h := Pul.refpulse_any a2 W (HR.out W hW)
        rwa [hgb] at h)
      have CQ := Lib.hid (fun W => Pul.recho_any a2 a1 W)
      have CS := Lib.hid (fun W => Hed.rsame_any (Pul.echoP a2.stamp a1) (Pul.echoP a2.stamp a1) W (.inl rfl) (.inl rfl))
      have CP := Lib.hid (fun W => Pul.probe_any a0 W)
      have CPr := Lib.hid (fun W => Pul.rprobe_any a0 W)
      have CSp := Lib.hid (fun W => Hed.rsame_any (Pul.probeP a0) (Pul.probeP a0) W (.inl rfl) (.inl rfl))
      have CB := Lib.hid (fun W => Pul.beacon_any a2.key a0 W)
      have CBr := Lib.hid (fun W => Pul.rbeacon_any a2.key a0 W)
      have CSb := Lib.hid (fun W => Hed.rsame_any (Pul.beacP a2.key 1 a0) (Pul.beacP a2.key 1 a0) W (.inl rfl) (.inl rfl))
      have CW := Lib.hid (fun W => Pul.pworks_any W)
      rw [Hed.eqP_self] at CS CSp CSb
      unfold Key.kval at CB CBr
      unfold Pul.echoP at CE CS
      unfold Pul.echoP at CQ
      unfold Pul.probeP at CP CPr CSp
      unfold Pul.beacP at CB CBr CSb
      clear w2 hr0 hn0 hl0 hm0 hst0 hva0 HR hEb hgb
      obtain ⟨kind, ⟨t, f, s⟩, hops, no, to, index, total, stamp, value, ad, cap, body⟩ := a2
      unfold Hed.pval Hed.Pk.cells at CE CS CP CPr CSp CB CBr CSb CR CQ
      unfold Hed.Pk.cells at hwb
      unfold Hed.pval Hed.Pk.cells
      simp only [List.length_nil] at CE CS CP CPr CSp CB CBr CSb CR CQ hwb HC hk ⊢
      obtain ⟨n, hn⟩ : ∃ n, body.length = n := ⟨_, rfl⟩
      simp only [hn] at CE CS CP CPr CSp CB CBr CSb CR CQ hwb HC ⊢
      clear hn
      have hk1 : (kind == 1) = true := hk
      go_enter Try.func3, Try.ntmps3
      go_upto_region 1 with fail
      rw [← hwb.out]
      obtain ⟨c0, c1, c2, c3, c4, c5, c6, c7, c8, c9, c10, c11⟩ := HC.out wb (Below.refl _ _)
      go_wp2_with fail
      refine (CE.out).mono ?_; rintro e w1 ⟨rfl, hB1⟩
      have HB1 := Lib.hid hB1
      clear hB1 CE c0 c1 c2 c3 c4 c5 c6 c7 c8 c9 c10 c11
      go_upto_region 2 with fail
      obtain ⟨W2, hW2⟩ : ∃ W2, Hid (W2 = w1.alloc (.cells #[.int .i64 2, .int .i64 0, .int .i64 0, .int .u32 0, .int .i64 0, .int .i64 0, .int .i64 0, .int .i64 0, .int .i64 0, .int .i64 stamp, .int .i64 a1, .slice none 0 0] 27)) := ⟨_, Lib.hid rfl⟩
      rw [← hW2.out]
      have hX := Hed.one_box w1 W2 _ _ hW2.out
      have HB2 := Lib.hid (HB1.out.trans (hX.1.mono HB1.out.size))
      have HH : Hid (∀ W, Below W2.heap.size W2 W → (W.cell? ⟨w.heap.size, 0, none⟩ = some (.int .i64 kind) ∧ W.cell? ⟨w.heap.size, 1, none⟩ = some (.int .i64 t) ∧ W.cell? ⟨w.heap.size, 2, none⟩ = some (.int .i64 f) ∧ W.cell? ⟨w.heap.size, 3, none⟩ = some (.int .u32 s) ∧ W.cell? ⟨w.heap.size, 4, none⟩ = some (.int .i64 hops) ∧ W.cell? ⟨w.heap.size, 5, none⟩ = some (.int .i64 no) ∧ W.cell? ⟨w.heap.size, 6, none⟩ = some (.int .i64 to) ∧ W.cell? ⟨w.heap.size, 7, none⟩ = some (.int .i64 index) ∧ W.cell? ⟨w.heap.size, 8, none⟩ = some (.int .i64 total) ∧ W.cell? ⟨w.heap.size, 9, none⟩ = some (.int .i64 stamp) ∧ W.cell? ⟨w.heap.size, 10, none⟩ = some (.int .i64 value) ∧ W.cell? ⟨w.heap.size, 11, none⟩ = some (.slice ad n cap)) ∧ (W.cell? ⟨w1.heap.size, 0, none⟩ = some (.int .i64 2) ∧ W.cell? ⟨w1.heap.size, 1, none⟩ = some (.int .i64 0) ∧ W.cell? ⟨w1.heap.size, 2, none⟩ = some (.int .i64 0) ∧ W.cell? ⟨w1.heap.size, 3, none⟩ = some (.int .u32 0) ∧ W.cell? ⟨w1.heap.size, 4, none⟩ = some (.int .i64 0) ∧ W.cell? ⟨w1.heap.size, 5, none⟩ = some (.int .i64 0) ∧ W.cell? ⟨w1.heap.size, 6, none⟩ = some (.int .i64 0) ∧ W.cell? ⟨w1.heap.size, 7, none⟩ = some (.int .i64 0) ∧ W.cell? ⟨w1.heap.size, 8, none⟩ = some (.int .i64 0) ∧ W.cell? ⟨w1.heap.size, 9, none⟩ = some (.int .i64 stamp) ∧ W.cell? ⟨w1.heap.size, 10, none⟩ = some (.int .i64 a1) ∧ W.cell? ⟨w1.heap.size, 11, none⟩ = some (.slice none 0 0))) := Lib.hid (fun W hW => ⟨HC.out W (HB2.out.trans (hW.mono HB2.out.size)), by
        have hb := hX.2.below hW
        exact ⟨hb.cell 0, hb.cell 1, hb.cell 2, hb.cell 3, hb.cell 4, hb.cell 5, hb.cell 6, hb.cell 7, hb.cell 8, hb.cell 9, hb.cell 10, hb.cell 11⟩⟩)
      clear hX hW2
      have CR2 : Hid (Calls Try.prog 9 #[.agg #[.int .i64 kind, .int .i64 t, .int .i64 f, .int .u32 s, .int .i64 hops, .int .i64 no, .int .i64 to, .int .i64 index, .int .i64 total, .int .i64 stamp, .int .i64 value, .slice ad n cap]] W2 fun e w' => e = .returned (.bool true) ∧ Below W2.heap.size W2 w') := Lib.hid (CR.out W2 HB2.out)
      have CQ2 : Hid (∀ W, Below W2.heap.size W2 W → Calls Try.prog 11 #[.agg #[.int .i64 kind, .int .i64 t, .int .i64 f, .int .u32 s, .int .i64 hops, .int .i64 no, .int .i64 to, .int .i64 index, .int .i64 total, .int .i64 stamp, .int .i64 value, .slice ad n cap], .int .i64 a1] W fun e w' => e = .returned (.agg #[.int .i64 2, .int .i64 0, .int .i64 0, .int .u32 0, .int .i64 0, .int .i64 0, .int .i64 0, .int .i64 0, .int .i64 0, .int .i64 stamp, .int .i64 a1, .slice none 0 0]) ∧ Below W2.heap.size W2 w') := Lib.hid (fun W hW => (CQ.out W).mono fun e w' h => ⟨h.1, hW.trans (h.2.mono hW.size)⟩)
      have CS2 : Hid (∀ W, Below W2.heap.size W2 W → Calls Try.prog 10 #[.agg #[.int .i64 2, .int .i64 0, .int .i64 0, .int .u32 0, .int .i64 0, .int .i64 0, .int .i64 0, .int .i64 0, .int .i64 0, .int .i64 stamp, .int .i64 a1, .slice none 0 0], .agg #[.int .i64 2, .int .i64 0, .int .i64 0, .int .u32 0, .int .i64 0, .int .i64 0, .int .i64 0, .int .i64 0, .int .i64 0, .int .i64 stamp, .int .i64 a1, .slice none 0 0]] W fun e w' => e = .returned (.bool true) ∧ Below W2.heap.size W2 w') := Lib.hid (fun W hW => (CS.out W).mono fun e w' h => ⟨h.1, hW.trans (h.2.mono hW.size)⟩)
      have CP2 : Hid (∀ W, Below W2.heap.size W2 W → Calls Try.prog 12 #[.int .i64 a0] W fun e w' => e = .returned (.agg #[.int .i64 1, .int .i64 0, .int .i64 0, .int .u32 0, .int .i64 0, .int .i64 0, .int .i64 0, .int .i64 0, .int .i64 0, .int .i64 a0, .int .i64 0, .slice none 0 0]) ∧ Below W2.heap.size W2 w') := Lib.hid (fun W hW => (CP.out W).mono fun e w' h => ⟨h.1, hW.trans (h.2.mono hW.size)⟩)
      have CPr2 : Hid (∀ W, Below W2.heap.size W2 W → Calls Try.prog 13 #[.int .i64 a0] W fun e w' => e = .returned (.agg #[.int .i64 1, .int .i64 0, .int .i64 0, .int .u32 0, .int .i64 0, .int .i64 0, .int .i64 0, .int .i64 0, .int .i64 0, .int .i64 a0, .int .i64 0, .slice none 0 0]) ∧ Below W2.heap.size W2 w') := Lib.hid (fun W hW => (CPr.out W).mono fun e w' h => ⟨h.1, hW.trans (h.2.mono hW.size)⟩)
      have CSp2 : Hid (∀ W, Below W2.heap.size W2 W → Calls Try.prog 10 #[.agg #[.int .i64 1, .int .i64 0, .int .i64 0, .int .u32 0, .int .i64 0, .int .i64 0, .int .i64 0, .int .i64 0, .int .i64 0, .int .i64 a0, .int .i64 0, .slice none 0 0], .agg #[.int .i64 1, .int .i64 0, .int .i64 0, .int .u32 0, .int .i64 0, .int .i64 0, .int .i64 0, .int .i64 0, .int .i64 0, .int .i64 a0, .int .i64 0, .slice none 0 0]] W fun e w' => e = .returned (.bool true) ∧ Below W2.heap.size W2 w') := Lib.hid (fun W hW => (CSp.out W).mono fun e w' h => ⟨h.1, hW.trans (h.2.mono hW.size)⟩)
      have CB2 : Hid (∀ W, Below W2.heap.size W2 W → Calls Try.prog 14 #[.agg #[.int .i64 t, .int .i64 f, .int .u32 s], .int .i64 a0] W fun e w' => e = .returned (.agg #[.int .i64 3, .int .i64 t, .int .i64 f, .int .u32 s, .int .i64 1, .int .i64 a0, .int .i64 0, .int .i64 0, .int .i64 0, .int .i64 0, .int .i64 0, .slice none 0 0]) ∧ Below W2.heap.size W2 w') := Lib.hid (fun W hW => (CB.out W).mono fun e w' h => ⟨h.1, hW.trans (h.2.mono hW.size)⟩)
      have CBr2 : Hid (∀ W, Below W2.heap.size W2 W → Calls Try.prog 15 #[.agg #[.int .i64 t, .int .i64 f, .int .u32 s], .int .i64 a0] W fun e w' => e = .returned (.agg #[.int .i64 3, .int .i64 t, .int .i64 f, .int .u32 s, .int .i64 1, .int .i64 a0, .int .i64 0, .int .i64 0, .int .i64 0, .int .i64 0, .int .i64 0, .slice none 0 0]) ∧ Below W2.heap.size W2 w') := Lib.hid (fun W hW => (CBr.out W).mono fun e w' h => ⟨h.1, hW.trans (h.2.mono hW.size)⟩)
      have CSb2 : Hid (∀ W, Below W2.heap.size W2 W → Calls Try.prog 10 #[.agg #[.int .i64 3, .int .i64 t, .int .i64 f, .int .u32 s, .int .i64 1, .int .i64 a0, .int .i64 0, .int .i64 0, .int .i64 0, .int .i64 0, .int .i64 0, .slice none 0 0], .agg #[.int .i64 3, .int .i64 t, .int .i64 f, .int .u32 s, .int .i64 1, .int .i64 a0, .int .i64 0, .int .i64 0, .int .i64 0, .int .i64 0, .int .i64 0, .slice none 0 0]] W fun e w' => e = .returned (.bool true) ∧ Below W2.heap.size W2 w') := Lib.hid (fun W hW => (CSb.out W).mono fun e w' h => ⟨h.1, hW.trans (h.2.mono hW.size)⟩)
      have CW2 : Hid (∀ W, Below W2.heap.size W2 W → Calls Try.prog 16 #[] W fun e w' => e = .returned (.bool true) ∧ Below W2.heap.size W2 w') := Lib.hid (fun W hW => (CW.out W).mono fun e w' h => ⟨h.1, hW.trans (h.2.mono hW.size)⟩)
      clear CS CP CPr CSp CB CBr CSb CW CQ CR
      obtain ⟨⟨c0, c1, c2, c3, c4, c5, c6, c7, c8, c9, c10, c11⟩, d0, d1, d2, d3, d4, d5, d6, d7, d8, d9, d10, d11⟩ := HH.out W2 (Below.refl _ _)
      go_wp2_with fail
      refine (CR2.out).mono ?_; rintro e w3 ⟨rfl, hB3⟩
      clear c0 c1 c2 c3 c4 c5 c6 c7 c8 c9 c10 c11 d0 d1 d2 d3 d4 d5 d6 d7 d8 d9 d10 d11 CR2
      obtain ⟨⟨c0, c1, c2, c3, c4, c5, c6, c7, c8, c9, c10, c11⟩, d0, d1, d2, d3, d4, d5, d6, d7, d8, d9, d10, d11⟩ := HH.out w3 hB3
      go_upto_region 3 with fail
      refine wp_region_noPanic ?_
      refine wp_region_held_drew (S := (fun W => (W.cell? ⟨w.heap.size, 0, none⟩ = some (.int .i64 kind) ∧ W.cell? ⟨w.heap.size, 1, none⟩ = some (.int .i64 t) ∧ W.cell? ⟨w.heap.size, 2, none⟩ = some (.int .i64 f) ∧ W.cell? ⟨w.heap.size, 3, none⟩ = some (.int .u32 s) ∧ W.cell? ⟨w.heap.size, 4, none⟩ = some (.int .i64 hops) ∧ W.cell? ⟨w.heap.size, 5, none⟩ = some (.int .i64 no) ∧ W.cell? ⟨w.heap.size, 6, none⟩ = some (.int .i64 to) ∧ W.cell? ⟨w.heap.size, 7, none⟩ = some (.int .i64 index) ∧ W.cell? ⟨w.heap.size, 8, none⟩ = some (.int .i64 total) ∧ W.cell? ⟨w.heap.size, 9, none⟩ = some (.int .i64 stamp) ∧ W.cell? ⟨w.heap.size, 10, none⟩ = some (.int .i64 value) ∧ W.cell? ⟨w.heap.size, 11, none⟩ = some (.slice ad n cap)) ∧ (W.cell? ⟨w1.heap.size, 0, none⟩ = some (.int .i64 2) ∧ W.cell? ⟨w1.heap.size, 1, none⟩ = some (.int .i64 0) ∧ W.cell? ⟨w1.heap.size, 2, none⟩ = some (.int .i64 0) ∧ W.cell? ⟨w1.heap.size, 3, none⟩ = some (.int .u32 0) ∧ W.cell? ⟨w1.heap.size, 4, none⟩ = some (.int .i64 0) ∧ W.cell? ⟨w1.heap.size, 5, none⟩ = some (.int .i64 0) ∧ W.cell? ⟨w1.heap.size, 6, none⟩ = some (.int .i64 0) ∧ W.cell? ⟨w1.heap.size, 7, none⟩ = some (.int .i64 0) ∧ W.cell? ⟨w1.heap.size, 8, none⟩ = some (.int .i64 0) ∧ W.cell? ⟨w1.heap.size, 9, none⟩ = some (.int .i64 stamp) ∧ W.cell? ⟨w1.heap.size, 10, none⟩ = some (.int .i64 a1) ∧ W.cell? ⟨w1.heap.size, 11, none⟩ = some (.slice none 0 0)))) (by kernel_rfl) ?_ (fun hHeld => ?_)
      · exact HH.out _ hB3.drew
      refine wpAnyH_take (i := 0) (v := ?_) rfl (by kernel_rfl) (by kernel_rfl) (by kernel_rfl) (fun _ _ _ h => h) (Or.inl ⟨by kernel_rfl, ?_⟩) (by assumption) ?_
      rotate_left 1
      focus (intro w hSw; clear hSw; go_simp; try with_reducible rfl)
      refine wpAnyH_take (i := 1) (v := ?_) rfl (by kernel_rfl) (by kernel_rfl) (by kernel_rfl) (fun _ _ _ h => h) (Or.inl ⟨by kernel_rfl, ?_⟩) (by assumption) ?_
      rotate_left 1
      focus (intro w hSw; clear hSw; go_simp; try with_reducible rfl)
      refine wpAnyH_take (i := 2) (v := ?_) rfl (by kernel_rfl) (by kernel_rfl) (by kernel_rfl) (fun _ _ _ h => h) (Or.inl ⟨by kernel_rfl, ?_⟩) (by assumption) ?_
      rotate_left 1
      focus (intro w hSw; clear hSw; go_simp; try with_reducible rfl)
      refine wpAnyH_take (i := 3) (v := ?_) rfl (by kernel_rfl) (by kernel_rfl) (by kernel_rfl) (fun _ _ _ h => h) (Or.inl ⟨by kernel_rfl, ?_⟩) (by assumption) ?_
      rotate_left 1
      focus (intro w hSw; clear hSw; go_simp; try with_reducible rfl)
      refine wpAnyH_take (i := 4) (v := ?_) rfl (by kernel_rfl) (by kernel_rfl) (by kernel_rfl) (fun _ _ _ h => h) (Or.inl ⟨by kernel_rfl, ?_⟩) (by assumption) ?_
      rotate_left 1
      focus (intro w hSw; clear hSw; go_simp; try with_reducible rfl)
      refine wpAnyH_take (i := 5) (v := ?_) rfl (by kernel_rfl) (by kernel_rfl) (by kernel_rfl) (fun _ _ _ h => h) (Or.inl ⟨by kernel_rfl, ?_⟩) (by assumption) ?_
      rotate_left 1
      focus (intro w hSw; clear hSw; go_simp; try with_reducible rfl)
      refine wpAnyH_take (i := 6) (v := ?_) rfl (by kernel_rfl) (by kernel_rfl) (by kernel_rfl) (fun _ _ _ h => h) (Or.inl ⟨by kernel_rfl, ?_⟩) (by assumption) ?_
      rotate_left 1
      focus (intro w hSw; obtain ⟨⟨c0, c1, c2, c3, c4, c5, c6, c7, c8, c9, c10, c11⟩, d0, d1, d2, d3, d4, d5, d6, d7, d8, d9, d10, d11⟩ := hSw; go_simp; try with_reducible rfl)
      refine wpAnyH_take (i := 7) (v := ?_) rfl (by kernel_rfl) (by kernel_rfl) (by kernel_rfl) (fun _ _ _ h => h) (Or.inl ⟨by kernel_rfl, ?_⟩) (by assumption) ?_
      rotate_left 1
      focus (intro w hSw; obtain ⟨⟨c0, c1, c2, c3, c4, c5, c6, c7, c8, c9, c10, c11⟩, d0, d1, d2, d3, d4, d5, d6, d7, d8, d9, d10, d11⟩ := hSw; go_simp; try with_reducible rfl)
      refine wpAnyH_take (i := 8) (v := ?_) rfl (by kernel_rfl) (by kernel_rfl) (by kernel_rfl) (fun _ _ _ h => h) (Or.inl ⟨by kernel_rfl, ?_⟩) (by assumption) ?_
      rotate_left 1
      focus (intro w hSw; clear hSw; go_simp; try with_reducible rfl)
      refine wpAnyH_ready (rs := [9]) (by kernel_rfl) (by simp) ?_
      refine AllReadyH.cons rfl (fun K hK => ?_) ?_
      · go_simp
        go_wp2_with (go_at_call 11; (with_reducible refine (CQ2.out _ ?_).mono ?_); (focus (first | assumption | exact Below.drew (by assumption))); rintro e w4 ⟨rfl, hB4⟩)
        refine hK.out _ _ ?_ (fun hHeld => ?_)
        · exact HH.out _ hB4
        clear hK K
        refine wpAnyH_ready (rs := [10]) (by kernel_rfl) (by simp) ?_
        refine AllReadyH.cons rfl (fun K hK => ?_) ?_
        · go_simp
          go_wp2_with (go_at_call 10; (with_reducible refine (CS2.out _ ?_).mono ?_); (focus (first | assumption | exact Below.drew (by assumption))); rintro e w5 ⟨rfl, hB5⟩)
          refine hK.out _ _ ?_ (fun hHeld => ?_)
          · exact HH.out _ hB5
          clear hK K
          refine wpAnyH_take (i := 11) (v := ?_) rfl (by kernel_rfl) (by kernel_rfl) (by kernel_rfl) (fun _ _ _ h => h) (Or.inl ⟨by kernel_rfl, ?_⟩) (by assumption) ?_
          rotate_left 1
          focus (intro w hSw; clear hSw; go_simp; try with_reducible rfl)
          refine wpAnyH_take (i := 12) (v := ?_) rfl (by kernel_rfl) (by kernel_rfl) (by kernel_rfl) (fun _ _ _ h => h) (Or.inl ⟨by kernel_rfl, ?_⟩) (by assumption) ?_
          rotate_left 1
          focus (intro w hSw; clear hSw; go_simp; try with_reducible rfl)
          refine wpAnyH_take (i := 13) (v := ?_) rfl (by kernel_rfl) (by kernel_rfl) (by kernel_rfl) (fun _ _ _ h => h) (Or.inl ⟨by kernel_rfl, ?_⟩) (by assumption) ?_
          rotate_left 1
          focus (intro w hSw; clear hSw; go_simp; try with_reducible rfl)
          refine wpAnyH_take (i := 14) (v := ?_) rfl (by kernel_rfl) (by kernel_rfl) (by kernel_rfl) (fun _ _ _ h => h) (Or.inl ⟨by kernel_rfl, ?_⟩) (by assumption) ?_
          rotate_left 1
          focus (intro w hSw; clear hSw; go_simp; try with_reducible rfl)
          refine wpAnyH_take (i := 15) (v := ?_) rfl (by kernel_rfl) (by kernel_rfl) (by kernel_rfl) (fun _ _ _ h => h) (Or.inl ⟨by kernel_rfl, ?_⟩) (by assumption) ?_
          rotate_left 1
          focus (intro w hSw; clear hSw; go_simp; try with_reducible rfl)
          refine wpAnyH_take (i := 16) (v := ?_) rfl (by kernel_rfl) (by kernel_rfl) (by kernel_rfl) (fun _ _ _ h => h) (Or.inl ⟨by kernel_rfl, ?_⟩) (by assumption) ?_
          rotate_left 1
          focus (intro w hSw; clear hSw; go_simp; try with_reducible rfl)
          refine wpAnyH_take (i := 17) (v := ?_) rfl (by kernel_rfl) (by kernel_rfl) (by kernel_rfl) (fun _ _ _ h => h) (Or.inl ⟨by kernel_rfl, ?_⟩) (by assumption) ?_
          rotate_left 1
          focus (intro w hSw; clear hSw; go_simp; try with_reducible rfl)
          refine wpAnyH_take (i := 18) (v := undef) rfl (by kernel_rfl) (by kernel_rfl) (by kernel_rfl) (fun _ _ _ h => h) (Or.inr ⟨by kernel_rfl, rfl⟩) (by assumption) ?_
          refine wpAnyH_take (i := 19) (v := undef) rfl (by kernel_rfl) (by kernel_rfl) (by kernel_rfl) (fun _ _ _ h => h) (Or.inr ⟨by kernel_rfl, rfl⟩) (by assumption) ?_
          refine wpAnyH_take (i := 20) (v := undef) rfl (by kernel_rfl) (by kernel_rfl) (by kernel_rfl) (fun _ _ _ h => h) (Or.inr ⟨by kernel_rfl, rfl⟩) (by assumption) ?_
          refine wpAnyH_take (i := 21) (v := undef) rfl (by kernel_rfl) (by kernel_rfl) (by kernel_rfl) (fun _ _ _ h => h) (Or.inr ⟨by kernel_rfl, rfl⟩) (by assumption) ?_
          refine wpAnyH_take (i := 22) (v := ?_) rfl (by kernel_rfl) (by kernel_rfl) (by kernel_rfl) (fun _ _ _ h => h) (Or.inl ⟨by kernel_rfl, ?_⟩) (by assumption) ?_
          rotate_left 1
          focus (intro w hSw; clear hSw; go_simp; try with_reducible rfl)
          refine wpAnyH_take (i := 23) (v := ?_) rfl (by kernel_rfl) (by kernel_rfl) (by kernel_rfl) (fun _ _ _ h => h) (Or.inl ⟨by kernel_rfl, ?_⟩) (by assumption) ?_
          rotate_left 1
          focus (intro w hSw; clear hSw; go_simp; try with_reducible rfl)
          refine wpAnyH_done (by kernel_rfl) ?_ _
          refine NoPanic.normal ?_
          clear c0 c1 c2 c3 c4 c5 c6 c7 c8 c9 c10 c11 d0 d1 d2 d3 d4 d5 d6 d7 d8 d9 d10 d11 hHeld
          try simp only [Act.put, List.getElem_toArray, List.getElem_cons_succ, List.getElem_cons_zero, List.setIfInBounds_toArray, List.set_cons_zero, List.set_cons_succ]
          go_upto_region 5 with fail
          have HH5 : Hid (∀ W, Below W2.heap.size W2 W → (W.cell? ⟨w.heap.size, 0, none⟩ = some (.int .i64 kind) ∧ W.cell? ⟨w.heap.size, 1, none⟩ = some (.int .i64 t) ∧ W.cell? ⟨w.heap.size, 2, none⟩ = some (.int .i64 f) ∧ W.cell? ⟨w.heap.size, 3, none⟩ = some (.int .u32 s) ∧ W.cell? ⟨w.heap.size, 4, none⟩ = some (.int .i64 hops) ∧ W.cell? ⟨w.heap.size, 5, none⟩ = some (.int .i64 no) ∧ W.cell? ⟨w.heap.size, 6, none⟩ = some (.int .i64 to) ∧ W.cell? ⟨w.heap.size, 7, none⟩ = some (.int .i64 index) ∧ W.cell? ⟨w.heap.size, 8, none⟩ = some (.int .i64 total) ∧ W.cell? ⟨w.heap.size, 9, none⟩ = some (.int .i64 stamp) ∧ W.cell? ⟨w.heap.size, 10, none⟩ = some (.int .i64 value) ∧ W.cell? ⟨w.heap.size, 11, none⟩ = some (.slice ad n cap))) := Lib.hid (fun W hW => (HH.out W hW).1)
          clear HH CS2 CQ2
          obtain ⟨c0, c1, c2, c3, c4, c5, c6, c7, c8, c9, c10, c11⟩ := HH5.out w5 hB5
          refine wp_region_noPanic ?_
          go_region_held_law (fun W => Below W2.heap.size W2 W ∧ (W.cell? ⟨w.heap.size, 0, none⟩ = some (.int .i64 kind) ∧ W.cell? ⟨w.heap.size, 1, none⟩ = some (.int .i64 t) ∧ W.cell? ⟨w.heap.size, 2, none⟩ = some (.int .i64 f) ∧ W.cell? ⟨w.heap.size, 3, none⟩ = some (.int .u32 s) ∧ W.cell? ⟨w.heap.size, 4, none⟩ = some (.int .i64 hops) ∧ W.cell? ⟨w.heap.size, 5, none⟩ = some (.int .i64 no) ∧ W.cell? ⟨w.heap.size, 6, none⟩ = some (.int .i64 to) ∧ W.cell? ⟨w.heap.size, 7, none⟩ = some (.int .i64 index) ∧ W.cell? ⟨w.heap.size, 8, none⟩ = some (.int .i64 total) ∧ W.cell? ⟨w.heap.size, 9, none⟩ = some (.int .i64 stamp) ∧ W.cell? ⟨w.heap.size, 10, none⟩ = some (.int .i64 value) ∧ W.cell? ⟨w.heap.size, 11, none⟩ = some (.slice ad n cap))) (refine ⟨?_, HH5.out _ ?_⟩ <;> (first | assumption | exact (Below.refl _ _).drew | exact Below.drew (by assumption)))
            (first
              | (go_at_call 12; (with_reducible refine (CP2.out _ ?_).mono ?_); (focus (first | assumption | exact (Below.refl _ _) | exact (Below.refl _ _).drew | exact Below.drew (by assumption) | exact (‹Below W2.heap.size W2 _ ∧ _›).1)); rintro e w6 ⟨rfl, hB6⟩)
              | (go_at_call 13; (with_reducible refine (CPr2.out _ ?_).mono ?_); (focus (first | assumption | exact (Below.refl _ _) | exact (Below.refl _ _).drew | exact Below.drew (by assumption) | exact (‹Below W2.heap.size W2 _ ∧ _›).1)); rintro e w7 ⟨rfl, hB7⟩)
              | (go_at_call 10; (with_reducible refine (CSp2.out _ ?_).mono ?_); (focus (first | assumption | exact (Below.refl _ _) | exact (Below.refl _ _).drew | exact Below.drew (by assumption) | exact (‹Below W2.heap.size W2 _ ∧ _›).1)); rintro e w8 ⟨rfl, hB8⟩)
              | (go_at_call 14; (with_reducible refine (CB2.out _ ?_).mono ?_); (focus (first | assumption | exact (Below.refl _ _) | exact (Below.refl _ _).drew | exact Below.drew (by assumption) | exact (‹Below W2.heap.size W2 _ ∧ _›).1)); rintro e w9 ⟨rfl, hB9⟩)
              | (go_at_call 15; (with_reducible refine (CBr2.out _ ?_).mono ?_); (focus (first | assumption | exact (Below.refl _ _) | exact (Below.refl _ _).drew | exact Below.drew (by assumption) | exact (‹Below W2.heap.size W2 _ ∧ _›).1)); rintro e w10 ⟨rfl, hB10⟩)
              | (go_at_call 10; (with_reducible refine (CSb2.out _ ?_).mono ?_); (focus (first | assumption | exact (Below.refl _ _) | exact (Below.refl _ _).drew | exact Below.drew (by assumption) | exact (‹Below W2.heap.size W2 _ ∧ _›).1)); rintro e w11 ⟨rfl, hB11⟩)
              | (go_at_call 16; (with_reducible refine (CW2.out _ ?_).mono ?_); (focus (first | assumption | exact (Below.refl _ _) | exact (Below.refl _ _).drew | exact Below.drew (by assumption) | exact (‹Below W2.heap.size W2 _ ∧ _›).1)); rintro e w12 ⟨rfl, hB12⟩))
          refine NoPanic.normal ?_
          go_wp2_with fail
          go_ret
          exact ⟨rfl, HB0.out.trans ((HB2.out.trans ((‹Below W2.heap.size W2 _ ∧ _›).1.mono HB2.out.size)).mono HB0.out.size)⟩
        exact AllReadyH.nil
      exact AllReadyH.nil

set_option maxRecDepth 100000 in
theorem lifted (os : Os) (started : os.Started) (H : Type) (enc : TypeId × Value → H) :
    ReturnsInHanded {} Try.checked os 3 .any (Rows.pulseNewSpec.pre6 enc Try.prog Try.f3 Rows.pulseNewRow.domain false) (Rows.pulseNewSpec.post enc Try.prog Try.f3 false true false false) := by
  refine returnsInHanded_of_change (C := Try.checked) own started (by kernel_rfl) Try.func3
    (ChangeSpec.witness6 (enc := enc) (C := Try.checked) false ⟨#[], #[.int .i64 0, .int .i64 0, .agg #[.int .i64 0, .int .i64 0, .int .i64 0, .int .u32 0, .int .i64 0, .int .i64 0, .int .i64 0, .int .i64 0, .int .i64 0, .int .i64 0, .int .i64 0, .slice none 0 0]], []⟩ 8 (by kernel_rfl) (by kernel_rfl) (by kernel_rfl) (by kernel_rfl)) ?_
  intro W base args ds gs before hval0 hW hcnd _
  have hval : ∀ (j : Nat) t v, Try.f3.params[j]? = some t → args[j]? = some v → Value.okWide Try.prog W .any base t v := hval0
  have hW' := hW
  obtain ⟨p, q, hA0, hV, rfl, hfz, hnd⟩ := hW
  have hA : DataW.TrodAll enc Try.prog W 0 (fun _ => true) true Try.f3.params.toList args.toList ds p := hA0
  rw [Try.params3] at hA hval
  obtain ⟨v0, vs0, d0, ds0, p0, q0, hargs, rfl, rfl, h0, r0⟩ := trodAll_cons hA
  obtain ⟨v1, vs1, d1, ds1, p1, q1, rfl, rfl, rfl, h1, r1⟩ := trodAll_cons r0
  obtain ⟨v2, vs2, d2, ds2, p2, q2, rfl, rfl, rfl, h2, r2⟩ := trodAll_cons r1
  obtain ⟨rfl, rfl, rfl⟩ := trodAll_nil r2
  obtain rfl : args = #[v0, v1, v2] := by cases args; simp_all
  obtain ⟨rfl, rfl⟩ := trodVars_none hV
  obtain ⟨a0, rfl, rfl, rfl, w0⟩ := open_int Try.underlying2 (hval 0 2 v0 rfl rfl) h0
  obtain ⟨a1, rfl, rfl, rfl, w1⟩ := open_int Try.underlying2 (hval 1 2 v1 rfl rfl) h1
  have k2 := h2
  have lt2 : ∀ x ∈ p2, x.block < W.heap.size := by obtain ⟨m, hm⟩ := k2; exact DataW.trod_lt m _ _ _ hm
  obtain ⟨a2, rfl, w2⟩ := Pul.open_pkx (hval 2 27 v2 rfl rfl) h2
  clear hA0 hval0
  refine (walk a0 a1 a2 W w0 w1 w2).mono fun e W' ⟨he, bel⟩ => ?_
  subst he
  exact ⟨_, rfl, _, _, _, [], _, [], hW', trodAll_mk1 (shut_bool Try.underlying4 _), (trodAll_cons_mk (shut_int Try.underlying2 w0) (trodAll_cons_mk (shut_int Try.underlying2 w1) (trodAll_cons_mk (Below.trod laidOut (by kernel_rfl) (of_decide_eq_true (by kernel_rfl)) k2 bel lt2) trodAll_mk0))), rfl, bel.frame _, fun h => by cases h⟩

theorem over : Rows.pulseNewRow.holds Try.pinned (OpenSpec.ofChange Rows.pulseNewSpec) :=
  OpenClaim.holds_of_wide 3 Try.f3 rfl rfl rfl rfl rfl rfl rfl ⟨rfl, rfl, rfl, rfl, rfl⟩ rfl rfl rfl rfl rfl (by kernel_rfl) Try.func3 (by kernel_rfl)
    (of_decide_eq_true (by kernel_rfl)) (by unfold Func.isWrapper; first | (rw [if_pos (by decide +kernel)]; kernel_rfl) | (rw [if_neg (by decide +kernel)]; exact ⟨rfl, rfl⟩))
    (fun os started H enc _ => lifted os started H enc)

theorem proved : Rows.PulseNewSaid := over
#print axioms proved
end Go.Proofs.Ytocfamocemmihaa.lawPulseNew
