/- Of any packet the next one has one hop more, if it may. -/
import Derived.Test.YtliblcjfccijjaaRows
import Derived.WalkKit
import Derived.ProofKit
import Derived.OpenShut
import Derived.ShutString
import Derived.ChangeOld
import Derived.Below
import Derived.Test.YtliblcjfccijjaaHedK
import Derived.Test.YtliblcjfccijjaaHedI
import Derived.Test.YtliblcjfccijjaaHedJ
import Derived.Deep.Cut
namespace Go.Proofs.Ytliblcjfccijjaa.lawHeadNext
open Go.ChangeShapes Go.WideShapes Go.ChangeAt Go.RowKit
open Go.ChangeMaps (open_string shut_string)
set_option linter.unusedVariables false

theorem own : ownKnob Try.prog.godebug = none := by kernel_rfl
theorem laidOut : laidOutB Try.prog = true := by kernel_rfl

/-! The walk: the Go text returns true and writes nothing that was there. -/
set_option maxRecDepth 100000 in
set_option maxHeartbeats 2000000 in
theorem walk (a0 : Hed.Pk) (w : World) (w0 : Hed.Ok w a0) (s0 : a0.cap ≤ 140737488351232) :
    Calls Try.prog 6 #[Hed.pval a0] w fun e w' => e = .returned (.bool true) ∧ Below w.heap.size w w' := by
  have hr0 := w0.rd
  have hk0 := w0.kind
  have hh0 := w0.hops
  obtain ⟨wb, hw0⟩ : ∃ wb, Hid (wb = w.alloc (.cells (Hed.Pk.cells a0) 27)) := ⟨_, Lib.hid rfl⟩
  have HB0 := Lib.hid (Hed.one_box w wb _ _ hw0.out).1
  have HC := Lib.hid (Hed.pk_cells w wb a0 hw0.out)
  have CF := Lib.hid (fun W => Hed.rflood_any a0.kind W)
  have CW := Lib.hid (fun W => Hed.hworks_any W)
  have CZ := Lib.hid (fun W => Hed.rsame_any Hed.zero Hed.zero W (.inl rfl) (.inl rfl))
  rw [Hed.eqP_self] at CZ
  unfold Hed.zero Hed.pval Hed.Pk.cells at CZ
  simp only [List.length_nil] at CZ
  cases hn : Hed.nextB a0 with
  | false =>
    have CN := Lib.hid (Hed.next_no a0 wb hn)
    unfold Hed.zero Hed.pval Hed.Pk.cells at CN
    unfold Hed.nextB at hn
    obtain ⟨kind, ⟨t, f, s⟩, hops, no, to, index, total, stamp, value, ad, cap, body⟩ := a0
    clear w0 hr0 s0
    unfold Hed.Pk.cells at hw0
    unfold Hed.pval Hed.Pk.cells
    simp only [List.length_nil] at CN CF hw0 HC hn hk0 hh0 ⊢
    have hcase : Hed.flo kind = false ∨ (Hed.flo kind = true ∧ hops < 1) ∨ (Hed.flo kind = true ∧ ¬ (hops < 1) ∧ 62 < hops) := by
      cases hf : Hed.flo kind with
      | false => exact .inl rfl
      | true =>
        rw [hf] at hn
        have h' := of_decide_eq_false (by simpa using hn : decide (1 ≤ hops ∧ hops ≤ 62) = false)
        rcases Int.lt_or_le hops 1 with h1 | h1
        · exact .inr (.inl ⟨rfl, h1⟩)
        · exact .inr (.inr ⟨rfl, by omega, by omega⟩)
    clear hn
    rcases hcase with hf | ⟨hf, h1⟩ | ⟨hf, h1, h2⟩
    all_goals
      rw [hf] at CF
      clear hf
      go_enter Try.func6, Try.ntmps6
      go_upto_region 1 with fail
      rw [← hw0.out]
      obtain ⟨c0, c1, c2, c3, c4, c5, c6, c7, c8, c9, c10, c11⟩ := HC.out wb (Below.refl _ _)
      go_wp2_with fail
      refine (CN.out).mono ?_; rintro e w2 ⟨rfl, hB2⟩
      have HB2 := Lib.hid hB2
      clear hB2 c0 c1 c2 c3 c4 c5 c6 c7 c8 c9 c10 c11
      go_upto_region 2 with fail
      obtain ⟨W3, hW3⟩ : ∃ W3, Hid (W3 = w2.alloc (.cells #[.int .i64 0, .int .i64 0, .int .i64 0, .int .u32 0, .int .i64 0, .int .i64 0, .int .i64 0, .int .i64 0, .int .i64 0, .int .i64 0, .int .i64 0, .slice none 0 0] 27)) := ⟨_, Lib.hid rfl⟩
      rw [← hW3.out]
      have hX := Hed.one_box w2 W3 _ _ hW3.out
      have HB3 := Lib.hid (HB2.out.trans (hX.1.mono HB2.out.size))
      have HD := Lib.hid (fun W (h : Below W3.heap.size W3 W) => Hed.blk_cells (p := Hed.zero) (hX.2.below h))
      unfold Hed.zero at HD
      simp only [List.length_nil] at HD
      clear hW3 hX
      obtain ⟨c0, c1, c2, c3, c4, c5, c6, c7, c8, c9, c10, c11⟩ := HC.out W3 HB3.out
      obtain ⟨d0, d1, d2, d3, d4, d5, d6, d7, d8, d9, d10, d11⟩ := HD.out W3 (Below.refl _ _)
      go_wp2_with fail
      refine (CF.out _).mono ?_; rintro e w' ⟨rfl, rfl⟩
      go_wp2_with fail
      refine (CZ.out _).mono ?_; rintro e w4 ⟨rfl, hB4⟩
      have HB4 := Lib.hid (HB3.out.trans (hB4.mono HB3.out.size))
      clear hB4
      go_wp2_with fail
      refine (CW.out _).mono ?_; rintro e w5 ⟨rfl, hB5⟩
      have HB5 := Lib.hid (HB4.out.trans (hB5.mono HB4.out.size))
      clear hB5
      go_wp2_with fail
      go_ret
      exact ⟨rfl, HB0.out.trans (HB5.out.mono HB0.out.size)⟩
  | true =>
    have CN := Lib.hid (Hed.next_yes a0 wb hn (hr0.below HB0.out) w0.nil w0.le (by omega))
    have HR := Lib.hid (fun W (h : Below wb.heap.size wb W) => hr0.below (HB0.out.trans (h.mono HB0.out.size)))
    have CS : Hid (∀ ad' cap' W, Byt.RdB W ad' a0.body → Byt.RdB W a0.ad a0.body → Calls Try.prog 23 #[Hed.pval { a0 with hops := a0.hops + 1, ad := ad', cap := cap' }, Hed.pval { a0 with hops := a0.hops + 1 }] W fun e w' => e = .returned (.bool true) ∧ Below W.heap.size W w') := Lib.hid (fun ad' cap' W h1 h2 => by
      have h := Hed.rsame_any { a0 with hops := a0.hops + 1, ad := ad', cap := cap' } { a0 with hops := a0.hops + 1 } W h1 h2
      rwa [Hed.eqP_next] at h)
    unfold Hed.pval Hed.Pk.cells at CN CS
    unfold Hed.nextB at hn
    obtain ⟨kind, ⟨t, f, s⟩, hops, no, to, index, total, stamp, value, ad, cap, body⟩ := a0
    clear w0 hr0 s0
    unfold Hed.Pk.cells at hw0
    unfold Hed.pval Hed.Pk.cells
    simp only at CN CF CS HR hw0 HC hn hk0 hh0 ⊢
    obtain ⟨hf, h1, h2⟩ : Hed.flo kind = true ∧ 1 ≤ hops ∧ hops ≤ 62 := by simpa using hn
    rw [hf] at CF
    clear hf hn
    go_enter Try.func6, Try.ntmps6
    go_upto_region 1 with fail
    rw [← hw0.out]
    obtain ⟨c0, c1, c2, c3, c4, c5, c6, c7, c8, c9, c10, c11⟩ := HC.out wb (Below.refl _ _)
    go_wp2_with fail
    refine (CN.out).mono ?_; rintro e w2 ⟨ad', cap', rfl, hrd, hB2⟩
    have HB2 := Lib.hid hB2
    have HRD := Lib.hid hrd
    clear hB2 hrd c0 c1 c2 c3 c4 c5 c6 c7 c8 c9 c10 c11
    go_upto_region 2 with fail
    obtain ⟨W3, hW3⟩ : ∃ W3, Hid (W3 = w2.alloc (.cells #[.int .i64 kind, .int .i64 t, .int .i64 f, .int .u32 s, .int .i64 (hops + 1), .int .i64 no, .int .i64 to, .int .i64 index, .int .i64 total, .int .i64 stamp, .int .i64 value, .slice ad' body.length cap'] 27)) := ⟨_, Lib.hid rfl⟩
    rw [← hW3.out]
    have hX := Hed.one_box w2 W3 _ _ hW3.out
    have HB3 := Lib.hid (HB2.out.trans (hX.1.mono HB2.out.size))
    have HRD3 := Lib.hid (HRD.out.below hX.1)
    have HD := Lib.hid (fun W (h : Below W3.heap.size W3 W) => Hed.blk_cells (p := ⟨kind, (t, f, s), hops + 1, no, to, index, total, stamp, value, ad', cap', body⟩) (hX.2.below h))
    clear hW3 hX HRD
    obtain ⟨c0, c1, c2, c3, c4, c5, c6, c7, c8, c9, c10, c11⟩ := HC.out W3 HB3.out
    go_wp2_with fail
    refine (CF.out _).mono ?_; rintro e w' ⟨rfl, rfl⟩
    go_upto_region 5 with fail
    obtain ⟨W4, hW4⟩ : ∃ W4, Hid (W4 = W3.alloc (.cells #[.int .i64 kind, .int .i64 t, .int .i64 f, .int .u32 s, .int .i64 hops, .int .i64 no, .int .i64 to, .int .i64 index, .int .i64 total, .int .i64 stamp, .int .i64 value, .slice ad body.length cap] 27)) := ⟨_, Lib.hid rfl⟩
    rw [← hW4.out]
    have hX4 := Hed.one_box W3 W4 _ _ hW4.out
    have HB4 := Lib.hid (HB3.out.trans (hX4.1.mono HB3.out.size))
    have k4 := (Hed.blk_cells (p := ⟨kind, (t, f, s), hops, no, to, index, total, stamp, value, ad, cap, body⟩) hX4.2).2.2.2.2.1
    have f4 := hX4.2.free 4
    simp only at k4
    have hY : Below W3.heap.size W3 (W4.setCell ⟨W3.heap.size, 4, none⟩ (.int .i64 (hops + 1))) := hX4.1.setCell (p := ⟨W3.heap.size, 4, none⟩) (Nat.le_refl W3.heap.size) _
    have hZ : Buf.Blk (W4.setCell ⟨W3.heap.size, 4, none⟩ (.int .i64 (hops + 1))) W3.heap.size 27 #[.int .i64 kind, .int .i64 t, .int .i64 f, .int .u32 s, .int .i64 (hops + 1), .int .i64 no, .int .i64 to, .int .i64 index, .int .i64 total, .int .i64 stamp, .int .i64 value, .slice ad body.length cap] := hX4.2.put 4 _
    have HX5 := Lib.hid (And.intro hY hZ)
    clear hX4 hY hZ c0 c1 c2 c3 c4 c5 c6 c7 c8 c9 c10 c11
    obtain ⟨c0, c1, c2, c3, c4, c5, c6, c7, c8, c9, c10, c11⟩ := HC.out W4 HB4.out
    go_upto_region 6 with fail
    generalize W4.setCell ⟨W3.heap.size, 4, none⟩ (.int .i64 (hops + 1)) = W5 at *
    have hX := HX5.out
    have HB5 := Lib.hid (HB3.out.trans (hX.1.mono HB3.out.size))
    have HRD5 := Lib.hid (HRD3.out.below hX.1)
    have CS5 := Lib.hid (CS.out ad' cap' W5 HRD5.out (HR.out W5 HB5.out))
    have he := Hed.blk_cells (p := ⟨kind, (t, f, s), hops + 1, no, to, index, total, stamp, value, ad, cap, body⟩) hX.2
    have hd := HD.out W5 hX.1
    simp only at he hd
    clear hX HX5 k4 f4 HRD3 c0 c1 c2 c3 c4 c5 c6 c7 c8 c9 c10 c11
    obtain ⟨d0, d1, d2, d3, d4, d5, d6, d7, d8, d9, d10, d11⟩ := hd
    obtain ⟨e0, e1, e2, e3, e4, e5, e6, e7, e8, e9, e10, e11⟩ := he
    go_wp2_with fail
    refine (CS5.out).mono ?_; rintro e w6 ⟨rfl, hB6⟩
    have HB6 := Lib.hid (HB5.out.trans (hB6.mono HB5.out.size))
    clear hB6
    go_wp2_with fail
    refine (CW.out _).mono ?_; rintro e w7 ⟨rfl, hB7⟩
    have HB7 := Lib.hid (HB6.out.trans (hB7.mono HB6.out.size))
    clear hB7
    go_wp2_with fail
    go_ret
    exact ⟨rfl, HB0.out.trans (HB7.out.mono HB0.out.size)⟩

set_option maxRecDepth 100000 in
theorem lifted (os : Os) (started : os.Started) (H : Type) (enc : TypeId × Value → H) :
    ReturnsInHanded {} Try.checked os 6 .any (Rows.headNextSpec.pre6 enc Try.prog Try.f6 Rows.headNextRow.domain false) (Rows.headNextSpec.post enc Try.prog Try.f6 false true false false) := by
  refine returnsInHanded_of_change_sized (C := Try.checked) own started (by kernel_rfl) Try.func6
    (ChangeSpec.witness6 (enc := enc) (C := Try.checked) false ⟨#[], #[.agg #[.int .i64 0, .int .i64 0, .int .i64 0, .int .u32 0, .int .i64 0, .int .i64 0, .int .i64 0, .int .i64 0, .int .i64 0, .int .i64 0, .int .i64 0, .slice none 0 0]], []⟩ 8 (by kernel_rfl) (by kernel_rfl) (by kernel_rfl) (by kernel_rfl)) ?_
  intro W base args ds gs before hval0 hW hcnd hsz0 _
  have hval : ∀ (j : Nat) t v, Try.f6.params[j]? = some t → args[j]? = some v → Value.okWide Try.prog W .any base t v := hval0
  have hW' := hW
  obtain ⟨p, q, hA0, hV, rfl, hfz, hnd⟩ := hW
  have hA : DataW.TrodAll enc Try.prog W 0 (fun _ => true) true Try.f6.params.toList args.toList ds p := hA0
  rw [Try.params6] at hA hval
  have hsz : (DataW.weightsEach Try.prog (Try.f6.params.toList ++ (Rows.headNextSpec.plain.varTypes Try.prog)) (ds ++ gs)).all (· ≤ reachBytes) = true := hsz0
  rw [Try.params6] at hsz
  obtain ⟨v0, vs0, d0, ds0, p0, q0, hargs, rfl, rfl, h0, r0⟩ := trodAll_cons hA
  obtain ⟨rfl, rfl, rfl⟩ := trodAll_nil r0
  obtain rfl : args = #[v0] := by cases args; simp_all
  obtain ⟨rfl, rfl⟩ := trodVars_none hV
  have k0 := h0
  have lt0 : ∀ x ∈ p0, x.block < W.heap.size := by obtain ⟨m, hm⟩ := k0; exact DataW.trod_lt m _ _ _ hm
  obtain ⟨a0, rfl, w0⟩ := Hed.open_pk (hval 0 27 v0 rfl rfl) h0
  have s0 := Hed.cap_sized k0 (Hed.sized_at hsz (j := 0) (t := 27) rfl rfl)
  clear hA0 hval0 hsz hsz0
  refine (walk a0 W w0 s0).mono fun e W' ⟨he, bel⟩ => ?_
  subst he
  exact ⟨_, rfl, _, _, _, [], _, [], hW', trodAll_mk1 (shut_bool Try.underlying4 _), (trodAll_cons_mk (Below.trod laidOut (by kernel_rfl) (of_decide_eq_true (by kernel_rfl)) k0 bel lt0) trodAll_mk0), rfl, bel.frame _, fun h => by cases h⟩

theorem over : Rows.headNextRow.holds Try.pinned (OpenSpec.ofChange Rows.headNextSpec) :=
  OpenClaim.holds_of_wide 6 Try.f6 rfl rfl rfl rfl rfl rfl rfl ⟨rfl, rfl, rfl, rfl, rfl⟩ rfl rfl rfl rfl rfl (by kernel_rfl) Try.func6 (by kernel_rfl)
    (of_decide_eq_true (by kernel_rfl)) (by unfold Func.isWrapper; first | (rw [if_pos (by decide +kernel)]; kernel_rfl) | (rw [if_neg (by decide +kernel)]; exact ⟨rfl, rfl⟩))
    (fun os started H enc _ => lifted os started H enc)

theorem proved : Rows.HeadNextSaid := over
#print axioms proved
end Go.Proofs.Ytliblcjfccijjaa.lawHeadNext
