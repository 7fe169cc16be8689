/- Whether any packet may be is as the document says. -/
import Derived.Test.YtjifdbhgoakjpaaRows
import Derived.WalkKit
import Derived.ProofKit
import Derived.OpenShut
import Derived.ShutString
import Derived.ChangeOld
import Derived.Below
import Derived.Test.YtjifdbhgoakjpaaDatK
import Derived.Test.YtjifdbhgoakjpaaDatD
import Derived.Test.YtjifdbhgoakjpaaDatC
import Derived.Test.YtjifdbhgoakjpaaDatG
import Derived.Deep.RegionHeldLaw
import Derived.Deep.Cut
namespace Go.Proofs.Ytjifdbhgoakjpaa.lawDataGood
open Go.ChangeShapes Go.WideShapes Go.ChangeAt Go.RowKit
open Go.ChangeMaps (open_string shut_string)
set_option linter.unusedVariables false

theorem own : ownKnob Try.prog.godebug = none := by kernel_rfl
theorem laidOut : laidOutB Try.prog = true := by kernel_rfl

/-! The walk: the Go text returns true and writes nothing that was there. -/
set_option linter.unusedSimpArgs false in
set_option maxRecDepth 100000 in
set_option maxHeartbeats 4000000 in
theorem walk (a0 : Hed.Pk) (w : World) (w0 : Hed.Ok w a0) :
    Calls Try.prog 4 #[Hed.pval a0] w fun e w' => e = .returned (.bool true) ∧ Below w.heap.size w w' := by
  have hr0 := w0.rd
  have hn0 := w0.nil
  have hl0 := w0.le
  have hm0 := w0.max
  obtain ⟨wb, hwb⟩ : ∃ wb, Hid (wb = w.alloc (.cells (Hed.Pk.cells a0) 27)) := ⟨_, Lib.hid rfl⟩
  have HB0 := Lib.hid (Hed.one_box w wb _ _ hwb.out).1
  have hc0 := Hed.pk_cells w wb a0 hwb.out wb (Below.refl _ _)
  have HBx := Lib.hid (Hed.one_box w wb _ _ hwb.out).2
  have CCut : Hid (Calls Try.prog 14 #[Hed.pval a0] wb fun e w' => ∃ ad' cap', e = .returned (Hed.pval (Dat.bodP a0 ad' cap' (a0.body.take 1100))) ∧ Hid (Byt.OwnB w' (w.heap.size + 1) (.slice ad' (a0.body.take 1100).length cap') (a0.body.take 1100)) ∧ Hid (Below wb.heap.size wb w')) := Lib.hid ((Dat.cut_any a0 wb (hr0.below HB0.out) hn0 hl0 hm0).mono fun e w' h => by
    obtain ⟨ad', cap', rfl, h1, h2⟩ := h
    exact ⟨ad', cap', rfl, Lib.hid (Own.mono h1 (by rw [hwb.out]; simp)), Lib.hid h2⟩)
  have HY : Hid ((a0.body.take 1100).length ≤ 1100) := Lib.hid (by rw [List.length_take]; omega)
  unfold Dat.bodP at CCut
  generalize a0.body.take 1100 = y0 at *
  obtain ⟨kind, ⟨t, f, s⟩, hops, no, to, index, total, stamp, value, ad, cap, body⟩ := a0
  unfold Hed.pval Hed.Pk.cells at CCut
  unfold Hed.Pk.cells at hwb HBx
  unfold Hed.pval Hed.Pk.cells
  simp only at CCut hwb hc0 HBx ⊢
  obtain ⟨n, hn⟩ : ∃ n, body.length = n := ⟨_, rfl⟩
  obtain ⟨m, hmm⟩ : ∃ m, y0.length = m := ⟨_, rfl⟩
  simp only [hn] at CCut hwb hc0 HBx ⊢
  simp only [hmm] at CCut
  have HM := Lib.hid hmm
  clear hn hmm w0 hr0 hn0 hl0 hm0
  have HOc : Hid (∀ ad1 cap1, Array.all (#[.int .i64 kind, .int .i64 t, .int .i64 f, .int .u32 s, .int .i64 hops, .int .i64 no, .int .i64 to, .int .i64 index, .int .i64 total, .int .i64 stamp, .int .i64 value, .slice ad1 m cap1] : Array Value) (·.oneCell') = true) := Lib.hid (fun ad1 cap1 => by simp [Value.oneCell'])
  obtain ⟨c0, c1, c2, c3, c4, c5, c6, c7, c8, c9, c10, c11⟩ := hc0
  go_enter Try.func4, Try.ntmps4
  go_upto_region 1 with fail
  rw [← hwb.out]
  go_wp2_with fail
  refine (CCut.out).mono ?_; rintro e w2 ⟨ad1, cap1, rfl, HO2, HB2⟩
  have HBx2 := Lib.hid (HBx.out.below HB2.out)
  have HBx3 := Lib.hid (Hed.Blk.row HBx2.out #[.int .i64 kind, .int .i64 t, .int .i64 f, .int .u32 s, .int .i64 hops, .int .i64 no, .int .i64 to, .int .i64 index, .int .i64 total, .int .i64 stamp, .int .i64 value, .slice ad1 m cap1] rfl)
  have HOc1 := Lib.hid (HOc.out ad1 cap1)
  clear c0 c1 c2 c3 c4 c5 c6 c7 c8 c9 c10 c11 CCut hwb HBx HOc
  go_upto_region 2 with (refine wpList_store_row rfl 27 _ _ rfl _ #[.int .i64 kind, .int .i64 t, .int .i64 f, .int .u32 s, .int .i64 hops, .int .i64 no, .int .i64 to, .int .i64 index, .int .i64 total, .int .i64 stamp, .int .i64 value, .slice ad1 m cap1] rfl rfl _ _ HBx2.out Hed.infoPk rfl HOc1.out ?_)
  have HB3 : Hid (Below w.heap.size w (w2.setRow w.heap.size #[.int .i64 kind, .int .i64 t, .int .i64 f, .int .u32 s, .int .i64 hops, .int .i64 no, .int .i64 to, .int .i64 index, .int .i64 total, .int .i64 stamp, .int .i64 value, .slice ad1 m cap1])) := Lib.hid (below_setRow (HB0.out.trans (HB2.out.mono HB0.out.size)) (Nat.le_refl _) _)
  have HO3 := Lib.hid (Dat.own_box (V := w2.setRow w.heap.size #[.int .i64 kind, .int .i64 t, .int .i64 f, .int .u32 s, .int .i64 hops, .int .i64 no, .int .i64 to, .int .i64 index, .int .i64 total, .int .i64 stamp, .int .i64 value, .slice ad1 m cap1]) HO2.out (by simp) (fun k hk => setRow_other _ _ _ _ (by omega)))
  clear HBx2 HOc1 HO2 HB2 HB0
  generalize w2.setRow w.heap.size #[.int .i64 kind, .int .i64 t, .int .i64 f, .int .u32 s, .int .i64 hops, .int .i64 no, .int .i64 to, .int .i64 index, .int .i64 total, .int .i64 stamp, .int .i64 value, .slice ad1 m cap1] = W3 at *
  have HZ : Hid (∀ (W : World) (b : Nat), Buf.Blk W b 27 #[.int .i64 kind, .int .i64 t, .int .i64 f, .int .u32 s, .int .i64 hops, .int .i64 no, .int .i64 to, .int .i64 index, .int .i64 total, .int .i64 stamp, .int .i64 value, .slice ad1 m cap1] → _ ∧ _) := Lib.hid (fun W b h => Hed.blk_cells (p := ⟨kind, (t, f, s), hops, no, to, index, total, stamp, value, ad1, cap1, y0⟩) (by unfold Hed.Pk.cells; simp only [HM.out]; exact h))
  simp only [HM.out] at HZ
  have HC : Hid (∀ W, Below W3.heap.size W3 W → _ ∧ _) := Lib.hid (fun W hW => HZ.out W w.heap.size (HBx3.out.below hW))
  have HR : Hid (∀ W, Below W3.heap.size W3 W → Byt.RdB W ad1 y0) := Lib.hid (fun W hW => HO3.out.rd.1.below hW)
  have CG : Hid (∀ W, Below W3.heap.size W3 W → Calls Try.prog 11 #[Hed.pval ⟨kind, (t, f, s), hops, no, to, index, total, stamp, value, ad1, cap1, y0⟩] W fun e w' => e = .returned (.bool (Dat.datG ⟨kind, (t, f, s), hops, no, to, index, total, stamp, value, ad1, cap1, y0⟩)) ∧ Below W3.heap.size W3 w') := Lib.hid (fun W hW => (Dat.dgood_any ⟨kind, (t, f, s), hops, no, to, index, total, stamp, value, ad1, cap1, y0⟩ W (HR.out W hW)).mono fun e w' h => ⟨h.1, hW.trans (h.2.mono hW.size)⟩)
  have CR : Hid (∀ W, Below W3.heap.size W3 W → Calls Try.prog 12 #[Hed.pval ⟨kind, (t, f, s), hops, no, to, index, total, stamp, value, ad1, cap1, y0⟩] W fun e w' => e = .returned (.bool (Dat.datG ⟨kind, (t, f, s), hops, no, to, index, total, stamp, value, ad1, cap1, y0⟩)) ∧ Below W3.heap.size W3 w') := Lib.hid (fun W hW => (Dat.refgood_any ⟨kind, (t, f, s), hops, no, to, index, total, stamp, value, ad1, cap1, y0⟩ W (HR.out W hW)).mono fun e w' h => ⟨h.1, hW.trans (h.2.mono hW.size)⟩)
  have CW : Hid (∀ W, Below W3.heap.size W3 W → Calls Try.prog 13 #[] W fun e w' => e = .returned (.bool true) ∧ Below W3.heap.size W3 w') := Lib.hid (fun W hW => (Dat.dworks_any W).mono fun e w' h => ⟨h.1, hW.trans (h.2.mono hW.size)⟩)
  unfold Hed.pval Hed.Pk.cells at CG CR
  simp only [HM.out] at CG CR
  generalize Dat.datG ⟨kind, (t, f, s), hops, no, to, index, total, stamp, value, ad1, cap1, y0⟩ = gb at *
  have hgb : (gb == gb) = true := by simp
  obtain ⟨c0, c1, c2, c3, c4, c5, c6, c7, c8, c9, c10, c11⟩ := HC.out W3 (Below.refl _ _)
  refine wp_region_noPanic ?_
  go_region_held_law (fun W => Below W3.heap.size W3 W ∧ W.cell? ⟨w.heap.size, 0, none⟩ = some (.int .i64 kind) ∧ W.cell? ⟨w.heap.size, 1, none⟩ = some (.int .i64 t) ∧ W.cell? ⟨w.heap.size, 2, none⟩ = some (.int .i64 f) ∧ W.cell? ⟨w.heap.size, 3, none⟩ = some (.int .u32 s) ∧ W.cell? ⟨w.heap.size, 4, none⟩ = some (.int .i64 hops) ∧ W.cell? ⟨w.heap.size, 5, none⟩ = some (.int .i64 no) ∧ W.cell? ⟨w.heap.size, 6, none⟩ = some (.int .i64 to) ∧ W.cell? ⟨w.heap.size, 7, none⟩ = some (.int .i64 index) ∧ W.cell? ⟨w.heap.size, 8, none⟩ = some (.int .i64 total) ∧ W.cell? ⟨w.heap.size, 9, none⟩ = some (.int .i64 stamp) ∧ W.cell? ⟨w.heap.size, 10, none⟩ = some (.int .i64 value) ∧ W.cell? ⟨w.heap.size, 11, none⟩ = some (.slice ad1 m cap1)) ((refine ⟨?_, HC.out _ ?_⟩ <;> (first | assumption | exact (Below.refl _ _) | exact (Below.refl _ _).drew)))
    (first
      | (go_at_call 11; (with_reducible refine (CG.out _ ?_).mono ?_); (focus (first | assumption | exact (Below.refl _ _) | exact (Below.refl _ _).drew | exact (‹Below W3.heap.size W3 _ ∧ _›).1)); rintro e w5 ⟨rfl, hB5⟩)
      | (go_at_call 12; (with_reducible refine (CR.out _ ?_).mono ?_); (focus (first | assumption | exact (Below.refl _ _) | exact (Below.refl _ _).drew | exact (‹Below W3.heap.size W3 _ ∧ _›).1)); rintro e w6 ⟨rfl, hB6⟩)
      | (go_at_call 13; (with_reducible refine (CW.out _ ?_).mono ?_); (focus (first | assumption | exact (Below.refl _ _) | exact (Below.refl _ _).drew | exact (‹Below W3.heap.size W3 _ ∧ _›).1)); rintro e w7 ⟨rfl, hB7⟩))
  all_goals
    refine NoPanic.normal ?_
    go_wp2_with fail
    go_ret
    exact ⟨rfl, HB3.out.trans ((‹Below W3.heap.size W3 _ ∧ _›).1.mono HB3.out.size)⟩

set_option maxRecDepth 100000 in
theorem lifted (os : Os) (started : os.Started) (H : Type) (enc : TypeId × Value → H) :
    ReturnsInHanded {} Try.checked os 4 .any (Rows.dataGoodSpec.pre6 enc Try.prog Try.f4 Rows.dataGoodRow.domain false) (Rows.dataGoodSpec.post enc Try.prog Try.f4 false true false false) := by
  refine returnsInHanded_of_change (C := Try.checked) own started (by kernel_rfl) Try.func4
    (ChangeSpec.witness6 (enc := enc) (C := Try.checked) false ⟨#[], #[.agg #[.int .i64 0, .int .i64 0, .int .i64 0, .int .u32 0, .int .i64 0, .int .i64 0, .int .i64 0, .int .i64 0, .int .i64 0, .int .i64 0, .int .i64 0, .slice none 0 0]], []⟩ 8 (by kernel_rfl) (by kernel_rfl) (by kernel_rfl) (by kernel_rfl)) ?_
  intro W base args ds gs before hval0 hW hcnd _
  have hval : ∀ (j : Nat) t v, Try.f4.params[j]? = some t → args[j]? = some v → Value.okWide Try.prog W .any base t v := hval0
  have hW' := hW
  obtain ⟨p, q, hA0, hV, rfl, hfz, hnd⟩ := hW
  have hA : DataW.TrodAll enc Try.prog W 0 (fun _ => true) true Try.f4.params.toList args.toList ds p := hA0
  rw [Try.params4] at hA hval
  obtain ⟨v0, vs0, d0, ds0, p0, q0, hargs, rfl, rfl, h0, r0⟩ := trodAll_cons hA
  obtain ⟨rfl, rfl, rfl⟩ := trodAll_nil r0
  obtain rfl : args = #[v0] := by cases args; simp_all
  obtain ⟨rfl, rfl⟩ := trodVars_none hV
  have k0 := h0
  have lt0 : ∀ x ∈ p0, x.block < W.heap.size := by obtain ⟨m, hm⟩ := k0; exact DataW.trod_lt m _ _ _ hm
  obtain ⟨a0, rfl, w0⟩ := Hed.open_pk (hval 0 27 v0 rfl rfl) h0
  clear hA0 hval0
  refine (walk a0 W w0).mono fun e W' ⟨he, bel⟩ => ?_
  subst he
  exact ⟨_, rfl, _, _, _, [], _, [], hW', trodAll_mk1 (shut_bool Try.underlying4 _), (trodAll_cons_mk (Below.trod laidOut (by kernel_rfl) (of_decide_eq_true (by kernel_rfl)) k0 bel lt0) trodAll_mk0), rfl, bel.frame _, fun h => by cases h⟩

theorem over : Rows.dataGoodRow.holds Try.pinned (OpenSpec.ofChange Rows.dataGoodSpec) :=
  OpenClaim.holds_of_wide 4 Try.f4 rfl rfl rfl rfl rfl rfl rfl ⟨rfl, rfl, rfl, rfl, rfl⟩ rfl rfl rfl rfl rfl (by kernel_rfl) Try.func4 (by kernel_rfl)
    (of_decide_eq_true (by kernel_rfl)) (by unfold Func.isWrapper; first | (rw [if_pos (by decide +kernel)]; kernel_rfl) | (rw [if_neg (by decide +kernel)]; exact ⟨rfl, rfl⟩))
    (fun os started H enc _ => lifted os started H enc)

theorem proved : Rows.DataGoodSaid := over
#print axioms proved
end Go.Proofs.Ytjifdbhgoakjpaa.lawDataGood
