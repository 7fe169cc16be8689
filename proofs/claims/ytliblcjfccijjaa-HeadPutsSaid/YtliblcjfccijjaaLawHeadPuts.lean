/- Any packet whose head may be is written as the document says, and read as it was. -/
import Derived.Test.YtliblcjfccijjaaRows
import Derived.WalkKit
import Derived.ProofKit
import Derived.OpenShut
import Derived.ShutString
import Derived.ChangeOld
import Derived.Below
import Derived.Test.YtliblcjfccijjaaHedF
import Derived.Test.YtliblcjfccijjaaHedR
import Derived.Test.YtliblcjfccijjaaHedS
import Derived.Deep.RegionHeldLaw
import Derived.Deep.Cut
namespace Go.Proofs.Ytliblcjfccijjaa.lawHeadPuts
open Go.ChangeShapes Go.WideShapes Go.ChangeAt Go.RowKit
open Go.ChangeMaps (open_string shut_string)
set_option linter.unusedVariables false

theorem own : ownKnob Try.prog.godebug = none := by kernel_rfl
theorem laidOut : laidOutB Try.prog = true := by kernel_rfl

/-! The walk: the Go text returns true and writes nothing that was there. -/
set_option maxRecDepth 100000 in
set_option maxHeartbeats 2000000 in
theorem walk (a0 : Hed.Pk) (w : World) (w0 : Hed.Ok w a0) :
    Calls Try.prog 4 #[Hed.pval a0] w fun e w' => e = .returned (.bool true) ∧ Below w.heap.size w w' := by
  obtain ⟨wb, hw0⟩ : ∃ wb, Hid (wb = w.alloc (.cells (Hed.Pk.cells a0) 27)) := ⟨_, Lib.hid rfl⟩
  have HB0 := Lib.hid (Hed.one_box w wb _ _ hw0.out).1
  have HC := Lib.hid (Hed.pk_cells w wb a0 hw0.out)
  have CW := Lib.hid (fun W => Hed.hworks_any W)
  have CG := Lib.hid (fun W => Hed.rgood_any a0 W)
  have CH := Lib.hid (fun W => Hed.good_any a0 W)
  cases hg : Hed.gd a0 with
  | false =>
    rw [hg] at CG CH
    obtain ⟨kind, ⟨t, f, s⟩, hops, no, to, index, total, stamp, value, ad, cap, body⟩ := a0
    unfold Hed.pval Hed.Pk.cells at CG CH
    unfold Hed.Pk.cells at hw0
    unfold Hed.pval Hed.Pk.cells
    clear w0 hg
    simp only at CG CH hw0 HC ⊢
    go_enter Try.func4, Try.ntmps4
    go_upto_region 1 with fail
    rw [← hw0.out]
    obtain ⟨c0, c1, c2, c3, c4, c5, c6, c7, c8, c9, c10, c11⟩ := HC.out wb (Below.refl _ _)
    go_wp2_with fail
    refine (CG.out _).mono ?_; rintro e w1 ⟨rfl, hB1⟩
    have HB1 := Lib.hid hB1
    clear hB1 c0 c1 c2 c3 c4 c5 c6 c7 c8 c9 c10 c11
    obtain ⟨c0, c1, c2, c3, c4, c5, c6, c7, c8, c9, c10, c11⟩ := HC.out w1 HB1.out
    go_wp2_with fail
    refine (CH.out _).mono ?_; rintro e w2 ⟨rfl, hB2⟩
    have HB2 := Lib.hid (HB1.out.trans (hB2.mono HB1.out.size))
    clear hB2
    go_wp2_with fail
    refine (CW.out _).mono ?_; rintro e w3 ⟨rfl, hB3⟩
    have HB3 := Lib.hid (HB2.out.trans (hB3.mono HB2.out.size))
    clear hB3
    go_wp2_with fail
    go_ret
    exact ⟨rfl, HB0.out.trans (HB3.out.mono HB0.out.size)⟩
  | true =>
    rw [hg] at CG
    obtain ⟨k, hh, t, f, s, hk, hho, hky, hrg⟩ := Hed.headB_read a0 w0.key hg
    have CN := Lib.hid (fun W => Buf.new_any 100 (by omega) W)
    have CP : Hid (∀ W g, Buf.WR W g g (100 : Int).toNat (0, []) none → Calls Try.prog 17 #[.pointer (some ⟨g, 0, none⟩), Hed.pval a0] W (Buf.WPost W g g (100 : Int).toNat none (0, Hed.headB a0))) := Lib.hid (fun W g h => by
      have := Hed.hput_any a0 g g (100 : Int).toNat (0, []) none W h (by simp)
      rwa [Hed.puts_fit] at this)
    have CD : Hid (∀ W g row, Buf.WR W g g (100 : Int).toNat (0, Hed.headB a0) row → Calls Try.prog 18 #[.pointer (some ⟨g, 0, none⟩)] W (fun e w2 => ∃ ad cap, e = .returned (.tuple #[.slice ad (Hed.headB a0).length cap, .int .i64 0]) ∧ Byt.OwnB w2 W.heap.size (.slice ad (Hed.headB a0).length cap) (Hed.headB a0) ∧ Below W.heap.size W w2)) := Lib.hid (fun W g row h => (Buf.done_any g g (100 : Int).toNat _ row W h (by have := h.room; simp only at this ⊢; omega)).mono fun e w2 hx => by
      obtain ⟨v, rfl, ho, hB⟩ := hx
      simp only [if_true] at ho
      obtain ⟨ad, cap, rfl, _⟩ := Own.shape ho
      exact ⟨ad, cap, rfl, ho, hB⟩)
    have CB := Lib.hid (fun W => Hed.rhead_any a0 W)
    have HRm := Lib.hid (show (Hed.headB a0).length ≤ 1000000 by
      have := Hed.headB_len a0; omega)
    have HT : Hid (Hed.ht (0, Hed.headB a0) = (Hed.hpk k hh t f s, 0)) := Lib.hid (by rw [Hed.ht_rg, hrg]; rfl)
    have HG : Hid ((Hed.gt (0, Hed.headB a0)).2.2 = (0, [])) := Lib.hid (by rw [Hed.gt_rest _ (by rw [hrg]), hrg])
    have CR : Hid (∀ W g, Buf.RR W g (0, Hed.headB a0) → Calls Try.prog 21 #[.pointer (some ⟨g, 0, none⟩)] W (Buf.RPost W g (0, []) (.tuple #[Hed.pval (Hed.hpk k hh t f s), .int .i64 0]))) := Lib.hid (fun W g h => by
      have := Hed.hget_any g (0, Hed.headB a0) W h
      rwa [HG.out, HT.out] at this)
    have CS := Lib.hid (fun W => Hed.rsame_any (Hed.hpk k hh t f s) (Hed.hpk k hh t f s) W (.inl rfl) (.inl rfl))
    rw [Hed.eqP_self] at CS
    generalize Hed.headB a0 = hb at *
    obtain ⟨kind, key, hops, no, to, index, total, stamp, value, ad, cap, body⟩ := a0
    simp only at hk hho hky
    subst hk hho hky
    unfold Hed.pval Hed.Pk.cells at CG CP CB CR CS
    unfold Hed.hpk at CR CS
    unfold Hed.Pk.cells at hw0
    unfold Hed.pval Hed.Pk.cells
    clear w0 hg hrg CH HT HG
    simp only [List.length_nil] at CG CP CB CR CS hw0 HC ⊢
    go_enter Try.func4, Try.ntmps4
    go_upto_region 1 with fail
    rw [← hw0.out]
    obtain ⟨c0, c1, c2, c3, c4, c5, c6, c7, c8, c9, c10, c11⟩ := HC.out wb (Below.refl _ _)
    go_wp2_with fail
    refine (CG.out _).mono ?_; rintro e w1 ⟨rfl, hB1⟩
    have HB1 := Lib.hid hB1
    clear hB1 c0 c1 c2 c3 c4 c5 c6 c7 c8 c9 c10 c11
    go_wp2_with fail
    refine (CN.out _).mono ?_; rintro e w2 ⟨rfl, hr2, hB2, -⟩
    have HB2 := Lib.hid (HB1.out.trans (hB2.mono HB1.out.size))
    have CP := Lib.hid (CP.out w2 _ hr2)
    clear hr2 hB2
    obtain ⟨c0, c1, c2, c3, c4, c5, c6, c7, c8, c9, c10, c11⟩ := HC.out w2 HB2.out
    go_wp2_with fail
    refine (CP.out).mono ?_; rintro e w3 ⟨rfl, row3, hr3, hst3⟩
    have HB3 := Lib.hid (HB2.out.trans (hst3.below.mono HB1.out.size))
    have CD := Lib.hid (CD.out w3 _ _ hr3)
    clear hr3 hst3 CP c0 c1 c2 c3 c4 c5 c6 c7 c8 c9 c10 c11
    go_wp2_with fail
    refine (CD.out).mono ?_; rintro e w4 ⟨ad4, cap4, rfl, ho4, hB4⟩
    have HB4 := Lib.hid (HB3.out.trans (hB4.mono HB3.out.size))
    have HO4 := Lib.hid ho4
    clear ho4 hB4 CD
    go_upto_region 6 with fail
    obtain ⟨sb, hsb⟩ : ∃ sb, Hid (Byt.strB hb = sb) := ⟨_, Lib.hid rfl⟩
    have HS4 : Hid (∀ W, Below w4.heap.size w4 W → (W.cell? ⟨w.heap.size, 0, none⟩ = some (.int .i64 (k : Int)) ∧ W.cell? ⟨w.heap.size, 1, none⟩ = some (.int .i64 (t : Int)) ∧ W.cell? ⟨w.heap.size, 2, none⟩ = some (.int .i64 (f : Int)) ∧ W.cell? ⟨w.heap.size, 3, none⟩ = some (.int .u32 (s : Int)) ∧ W.cell? ⟨w.heap.size, 4, none⟩ = some (.int .i64 (hh : Int)) ∧ W.cell? ⟨w.heap.size, 5, none⟩ = some (.int .i64 no) ∧ W.cell? ⟨w.heap.size, 6, none⟩ = some (.int .i64 to) ∧ W.cell? ⟨w.heap.size, 7, none⟩ = some (.int .i64 index) ∧ W.cell? ⟨w.heap.size, 8, none⟩ = some (.int .i64 total) ∧ W.cell? ⟨w.heap.size, 9, none⟩ = some (.int .i64 stamp) ∧ W.cell? ⟨w.heap.size, 10, none⟩ = some (.int .i64 value) ∧ W.cell? ⟨w.heap.size, 11, none⟩ = some (.slice ad body.length cap)) ∧ (convert 25 9 (.slice ad4 hb.length cap4)).run Try.prog W = .ok (.string sb) W) := Lib.hid (fun W hW => ⟨HC.out W (HB4.out.trans (hW.mono HB4.out.size)), by rw [← hsb.out]; exact HO4.out.str hW⟩)
    have CBt : Hid (∀ W, Below w4.heap.size w4 W → Calls Try.prog 19 #[.agg #[.int .i64 (k : Int), .int .i64 (t : Int), .int .i64 (f : Int), .int .u32 (s : Int), .int .i64 (hh : Int), .int .i64 no, .int .i64 to, .int .i64 index, .int .i64 total, .int .i64 stamp, .int .i64 value, .slice ad body.length cap]] W fun e w' => ∃ ad5 cap5, e = .returned (.slice ad5 hb.length cap5) ∧ Below w4.heap.size w4 w' ∧ ∀ V, Below w'.heap.size w' V → (convert 25 9 (.slice ad5 hb.length cap5)).run Try.prog V = .ok (.string sb) V) := Lib.hid (fun W hW => (CB.out W).mono fun e w' hx => by
      obtain ⟨ad5, cap5, rfl, ho, hB⟩ := hx
      exact ⟨ad5, cap5, rfl, hW.trans (hB.mono hW.size), fun V hV => by rw [← hsb.out]; exact ho.str hV⟩)
    have hnn : (sb == sb) = true := by rw [beq_toListBytes]; simp
    have hnn2 : (sb != sb) = false := by simp [bne, hnn]
    clear CB hsb
    obtain ⟨⟨c0, c1, c2, c3, c4, c5, c6, c7, c8, c9, c10, c11⟩, v0⟩ := HS4.out w4 (Below.refl _ _)
    refine wp_region_noPanic ?_
    go_region_held_law (fun W => Below w4.heap.size w4 W ∧ (W.cell? ⟨w.heap.size, 0, none⟩ = some (.int .i64 (k : Int)) ∧ W.cell? ⟨w.heap.size, 1, none⟩ = some (.int .i64 (t : Int)) ∧ W.cell? ⟨w.heap.size, 2, none⟩ = some (.int .i64 (f : Int)) ∧ W.cell? ⟨w.heap.size, 3, none⟩ = some (.int .u32 (s : Int)) ∧ W.cell? ⟨w.heap.size, 4, none⟩ = some (.int .i64 (hh : Int)) ∧ W.cell? ⟨w.heap.size, 5, none⟩ = some (.int .i64 no) ∧ W.cell? ⟨w.heap.size, 6, none⟩ = some (.int .i64 to) ∧ W.cell? ⟨w.heap.size, 7, none⟩ = some (.int .i64 index) ∧ W.cell? ⟨w.heap.size, 8, none⟩ = some (.int .i64 total) ∧ W.cell? ⟨w.heap.size, 9, none⟩ = some (.int .i64 stamp) ∧ W.cell? ⟨w.heap.size, 10, none⟩ = some (.int .i64 value) ∧ W.cell? ⟨w.heap.size, 11, none⟩ = some (.slice ad body.length cap)) ∧ (convert 25 9 (.slice ad4 hb.length cap4)).run Try.prog W = .ok (.string sb) W) ((refine ⟨?_, HS4.out _ ?_⟩ <;> (first | assumption | exact (Below.refl _ _) | exact (Below.refl _ _).drew)))
      (first
        | (go_at_call 19; (with_reducible refine (CBt.out _ ?_).mono ?_); (focus (first | assumption | exact (Below.refl _ _) | exact (Below.refl _ _).drew | exact (‹Below w4.heap.size w4 _ ∧ _›).1)); rintro e w5 ⟨ad5, cap5, rfl, hB5, hc5⟩; have hc5 := hc5 w5 (Below.refl _ _)))
    all_goals
      refine NoPanic.normal ?_
      have hW5 := (‹Below w4.heap.size w4 w5 ∧ _›).1
      have HB5 := Lib.hid (HB4.out.trans (hW5.mono HB4.out.size))
      have CRd := Lib.hid (Buf.read_any ad4 hb.length cap4 hb w5 rfl HRm.out (HO4.out.rd.1.below hW5) HO4.out.pos.2.2.1)
      clear c0 c1 c2 c3 c4 c5 c6 c7 c8 c9 c10 c11 v0 hc5 hW5
      go_wp2_with fail
      refine (CRd.out).mono ?_; rintro e w6 ⟨g2, rfl, hr6, hB6, hge6, -⟩
      have hge : wb.heap.size ≤ g2 := by have := HB5.out.size; omega
      have HB6 := Lib.hid (HB5.out.trans (hB6.mono HB5.out.size))
      have CR := Lib.hid (CR.out w6 g2 hr6)
      clear hr6 hB6 hge6 CRd
      go_wp2_with fail
      refine (CR.out).mono ?_; rintro e w7 ⟨rfl, hr7, hst7⟩
      have HB7 := Lib.hid (HB6.out.trans (hst7.below.mono hge))
      have HR7 := Lib.hid hr7
      clear hr7 hst7 CR
      go_upto_region 10 with fail
      obtain ⟨W8, hW8⟩ : ∃ W8, Hid (W8 = w7.alloc (.cells #[.int .i64 (k : Int), .int .i64 (t : Int), .int .i64 (f : Int), .int .u32 (s : Int), .int .i64 (hh : Int), .int .i64 0, .int .i64 0, .int .i64 0, .int .i64 0, .int .i64 0, .int .i64 0, .slice none 0 0] 27)) := ⟨_, Lib.hid rfl⟩
      rw [← hW8.out]
      have hX := Hed.one_box w7 W8 _ _ hW8.out
      have HB8 := Lib.hid (HB7.out.trans (hX.1.mono HB7.out.size))
      have he := Hed.blk_cells (p := Hed.hpk k hh t f s) hX.2
      unfold Hed.hpk at he
      simp only [List.length_nil] at he
      have CE := Lib.hid (Buf.end_any g2 (0, []) W8 (HR7.out.kept hX.1))
      rw [if_pos rfl] at CE
      obtain ⟨e0, e1, e2, e3, e4, e5, e6, e7, e8, e9, e10, e11⟩ := he
      obtain ⟨c0, c1, c2, c3, c4, c5, c6, c7, c8, c9, c10, c11⟩ := HC.out W8 HB8.out
      clear hX hW8 HR7
      go_wp2_with fail
      refine (CE.out).mono ?_; rintro e w' ⟨rfl, rfl⟩
      go_wp2_with fail
      refine (CS.out _).mono ?_; rintro e w9 ⟨rfl, hB9⟩
      have HB9 := Lib.hid (HB8.out.trans (hB9.mono HB8.out.size))
      clear hB9
      go_wp2_with fail
      refine (CW.out _).mono ?_; rintro e w10 ⟨rfl, hB10⟩
      have HB10 := Lib.hid (HB9.out.trans (hB10.mono HB9.out.size))
      clear hB10
      go_wp2_with fail
      go_ret
      exact ⟨rfl, HB0.out.trans (HB10.out.mono HB0.out.size)⟩

set_option maxRecDepth 100000 in
theorem lifted (os : Os) (started : os.Started) (H : Type) (enc : TypeId × Value → H) :
    ReturnsInHanded {} Try.checked os 4 .any (Rows.headPutsSpec.pre6 enc Try.prog Try.f4 Rows.headPutsRow.domain false) (Rows.headPutsSpec.post enc Try.prog Try.f4 false true false false) := by
  refine returnsInHanded_of_change (C := Try.checked) own started (by kernel_rfl) Try.func4
    (ChangeSpec.witness6 (enc := enc) (C := Try.checked) false ⟨#[], #[.agg #[.int .i64 0, .int .i64 0, .int .i64 0, .int .u32 0, .int .i64 0, .int .i64 0, .int .i64 0, .int .i64 0, .int .i64 0, .int .i64 0, .int .i64 0, .slice none 0 0]], []⟩ 8 (by kernel_rfl) (by kernel_rfl) (by kernel_rfl) (by kernel_rfl)) ?_
  intro W base args ds gs before hval0 hW hcnd _
  have hval : ∀ (j : Nat) t v, Try.f4.params[j]? = some t → args[j]? = some v → Value.okWide Try.prog W .any base t v := hval0
  have hW' := hW
  obtain ⟨p, q, hA0, hV, rfl, hfz, hnd⟩ := hW
  have hA : DataW.TrodAll enc Try.prog W 0 (fun _ => true) true Try.f4.params.toList args.toList ds p := hA0
  rw [Try.params4] at hA hval
  obtain ⟨v0, vs0, d0, ds0, p0, q0, hargs, rfl, rfl, h0, r0⟩ := trodAll_cons hA
  obtain ⟨rfl, rfl, rfl⟩ := trodAll_nil r0
  obtain rfl : args = #[v0] := by cases args; simp_all
  obtain ⟨rfl, rfl⟩ := trodVars_none hV
  have k0 := h0
  have lt0 : ∀ x ∈ p0, x.block < W.heap.size := by obtain ⟨m, hm⟩ := k0; exact DataW.trod_lt m _ _ _ hm
  obtain ⟨a0, rfl, w0⟩ := Hed.open_pk (hval 0 27 v0 rfl rfl) h0
  clear hA0 hval0
  refine (walk a0 W w0).mono fun e W' ⟨he, bel⟩ => ?_
  subst he
  exact ⟨_, rfl, _, _, _, [], _, [], hW', trodAll_mk1 (shut_bool Try.underlying4 _), (trodAll_cons_mk (Below.trod laidOut (by kernel_rfl) (of_decide_eq_true (by kernel_rfl)) k0 bel lt0) trodAll_mk0), rfl, bel.frame _, fun h => by cases h⟩

theorem over : Rows.headPutsRow.holds Try.pinned (OpenSpec.ofChange Rows.headPutsSpec) :=
  OpenClaim.holds_of_wide 4 Try.f4 rfl rfl rfl rfl rfl rfl rfl ⟨rfl, rfl, rfl, rfl, rfl⟩ rfl rfl rfl rfl rfl (by kernel_rfl) Try.func4 (by kernel_rfl)
    (of_decide_eq_true (by kernel_rfl)) (by unfold Func.isWrapper; first | (rw [if_pos (by decide +kernel)]; kernel_rfl) | (rw [if_neg (by decide +kernel)]; exact ⟨rfl, rfl⟩))
    (fun os started H enc _ => lifted os started H enc)

theorem proved : Rows.HeadPutsSaid := over
#print axioms proved
end Go.Proofs.Ytliblcjfccijjaa.lawHeadPuts
