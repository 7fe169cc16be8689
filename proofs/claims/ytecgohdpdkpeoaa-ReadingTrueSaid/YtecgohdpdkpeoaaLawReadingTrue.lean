/- What a probe's answer tells of another clock is wrong by at most the error, however long both ways take and however wrong both clocks are in each tick, within the bounds. -/
import Derived.Test.YtecgohdpdkpeoaaRows
import Derived.WalkKit
import Derived.ProofKit
import Derived.OpenShut
import Derived.ShutString
import Derived.ChangeOld
import Derived.Below
import Derived.Test.YtecgohdpdkpeoaaRdgW
import Derived.Deep.Cut
import Derived.Deep.CutRange
import Derived.Deep.RegionWith
import Derived.BigRegion
import Derived.BigQuiet
namespace Go.Proofs.Ytecgohdpdkpeoaa.lawReadingTrue
open Go.ChangeShapes Go.WideShapes Go.ChangeAt Go.RowKit
open Go.ChangeMaps (open_string shut_string)
set_option linter.unusedVariables false

theorem own : ownKnob Try.prog.godebug = none := by kernel_rfl
theorem laidOut : laidOutB Try.prog = true := by kernel_rfl

/-! The walk: the Go text returns true and writes nothing that was there. -/
set_option linter.unusedSimpArgs false in
set_option maxRecDepth 100000 in
set_option maxHeartbeats 4000000 in
theorem walk (a0 : Rdg.Tr) (w : World) (w0 : Rdg.OkTr w a0) :
    Calls Try.prog 6 #[Rdg.trval a0] w fun e w' => e = .returned (.bool true) ∧ Below w.heap.size w w' := by
  obtain ⟨w0', hw0⟩ : ∃ v, Hid (v = w.alloc (.cells (Rdg.trcells a0) 34)) := ⟨_, Lib.hid rfl⟩
  obtain ⟨hB0, hX⟩ := Rdg.tr_box w w0' a0 hw0.out
  have HB0 := Lib.hid hB0
  have HX := Lib.hid hX
  obtain ⟨k0, k1⟩ := bounds_u8 w0.there
  obtain ⟨k2, k3⟩ := bounds_u8 w0.back
  obtain ⟨k4, k5⟩ := bounds_u8 w0.rho
  obtain ⟨k6, k7⟩ := bounds_u8 w0.slew
  obtain ⟨s0, s1⟩ := bounds_u32 w0.sent
  obtain ⟨v0, v1⟩ := bounds_u32 w0.val
  have hol := w0.own.len
  have htl := w0.oth.len
  unfold maxLen at hol htl
  have CB : Hid (∀ W, Calls Try.prog 15 #[Rdg.trval a0] W (Rdg.BdPost a0 W)) := Lib.hid (fun W => Rdg.bounds_any a0 W (bounds_u8 w0.dmin) (bounds_u8 w0.dmax) ⟨k4, k5⟩ ⟨k6, k7⟩)
  have HOA := Lib.hid (fun i (hi : i < a0.ownL) => w0.own.at hi)
  have HTA := Lib.hid (fun i (hi : i < a0.othL) => w0.oth.at hi)
  have HB1 : Hid (∀ W V, Below w.heap.size w W → Below W.heap.size W V → Below w.heap.size w V) := Lib.hid (fun W V h1 h2 => h1.trans (h2.mono h1.size))
  have C9 := Lib.hid (fun W => Rdg.works23_any W)
  clear hB0 hX w0
  unfold Rdg.trval Rdg.BdPost at *
  unfold Rdg.trcells at *
  obtain ⟨d0, d1, rho, slew, there, back, oa, ol, oc, os, ta, tl, tc, ts, sent, val⟩ := a0
  simp only at *
  go_enter Try.func6, Try.ntmps6
  go_upto_region 1 with fail
  rw [← hw0.out]
  obtain ⟨c0, c1, c2, c3, c4, c5, c6, c7, c8, c9⟩ := HX.out w0' (Below.refl _ _)
  go_wp2_with fail
  refine (CB.out _).mono ?_; rintro e w1 ⟨x, y, x0, xy, y8, rfl, hB⟩
  have HB := Lib.hid hB
  clear hB c0 c1 c2 c3 c4 c5 c6 c7 c8 c9 CB
  obtain ⟨r, hr⟩ : ∃ r, rho % 65 = r := ⟨_, rfl⟩
  have r0 : 0 ≤ r := by omega
  have r1 : r ≤ 64 := by omega
  obtain ⟨s, hs⟩ : ∃ s, slew + 1 = s := ⟨_, rfl⟩
  have hs0 : 1 ≤ s := by omega
  have hs1 : s ≤ 256 := by omega
  rw [hr, hs]
  clear hr hs
  obtain ⟨p0, p1⟩ := IntK.tmod_one there (y - x) k0 (by omega)
  obtain ⟨q0, q1⟩ := IntK.tmod_one back (y - x) k2 (by omega)
  obtain ⟨p', hp'⟩ : ∃ q, there.tmod (y - x + 1) = q := ⟨_, rfl⟩
  obtain ⟨q', hq'⟩ : ∃ q, back.tmod (y - x + 1) = q := ⟨_, rfl⟩
  rw [hp'] at p0 p1
  rw [hq'] at q0 q1
  have hne : y - x + 1 ≠ 0 := by omega
  obtain ⟨-, -, -, -, c4, c5, -, -, -, -⟩ := HX.out w1 HB.out
  go_upto_region 2 with fail
  go_quiet (fail)
  have HB2 : Hid (Below w0'.heap.size w0' (w1.drewN nq)) := Lib.hid (HB.out.trans ⟨rfl, rfl, rfl, Nat.le_refl _, fun _ _ => rfl⟩)
  clear c4 c5 HB
  generalize w1.drewN nq = w2 at *
  obtain ⟨P, hP⟩ : ∃ P : Nat, x + p' = (P : Int) := ⟨(x + p').toNat, by omega⟩
  obtain ⟨Q, hQ⟩ : ∃ Q : Nat, x + q' = (Q : Int) := ⟨(x + q').toNat, by omega⟩
  rw [hP, hQ]
  have P0 : x ≤ (P : Int) := by omega
  have P1 : (P : Int) ≤ y := by omega
  have Q0 : x ≤ (Q : Int) := by omega
  have Q1 : (Q : Int) ≤ y := by omega
  clear hP hQ p0 p1 q0 q1 hp' hq' hne k0 k1 k2 k3 k4 k5 k6 k7
  have CW1 : Hid (∀ W, Below w0'.heap.size w0' W → Calls Try.prog 16 #[.slice oa ol oc, .int .i64 0, .int .i64 ((P : Int) + (Q : Int)), .int .i64 r] W fun e w' => e = .returned (.int .i64 (Rdg.gone ol os 0 r (P + Q))) ∧ W = w') := Lib.hid (fun W hW => by
    have h := Rdg.went_any oa ol oc os 0 (P + Q) r W (by omega) (by omega) (by omega) r0 (by omega) (fun i hi => by
      obtain ⟨b, off, e, h1, h2⟩ := HOA.out i hi
      exact ⟨b, off, e, h1 W (HB1.out w0' W HB0.out hW), h2⟩)
    rw [Int.natCast_add] at h
    exact h)
  have CW2 : Hid (∀ W, Below w0'.heap.size w0' W → Calls Try.prog 16 #[.slice ta tl tc, .int .i64 (P : Int), .int .i64 (Q : Int), .int .i64 (r + s)] W fun e w' => e = .returned (.int .i64 (Rdg.gone tl ts P (r + s) Q)) ∧ W = w') := Lib.hid (fun W hW =>
    Rdg.went_any ta tl tc ts P Q (r + s) W (by omega) (by omega) (by omega) (by omega) (by omega) (fun i hi => by
      obtain ⟨b, off, e, h1, h2⟩ := HTA.out i hi
      exact ⟨b, off, e, h1 W (HB1.out w0' W HB0.out hW), h2⟩))
  obtain ⟨G0, G1, G2, G3⟩ := Rdg.gone_bd ol os 0 r0 (show r ≤ 400 by omega) (P + Q)
  obtain ⟨K0, K1, K2, K3⟩ := Rdg.gone_bd tl ts P (show 0 ≤ r + s by omega) (show r + s ≤ 400 by omega) Q
  generalize Rdg.gone ol os 0 r (P + Q) = G at *
  generalize Rdg.gone tl ts P (r + s) Q = K at *
  rw [Int.natCast_add] at G1 G2 G3
  have HT := Lib.hid (Rdg.trip_true x0 y8 r0 (show 0 ≤ s by omega) P0 P1 Q0 Q1 G2 G3 K2 K3)
  clear HOA HTA hol htl G2 G3 K2 K3
  have c6 : ∀ z : Qui.Cls w2, z.V.cell? ⟨w.heap.size, 6, none⟩ = some (.slice oa ol oc) := fun z => (HX.out _ (HB2.out.trans (z.lies.mono HB2.out.size))).2.2.2.2.2.2.1
  have c7 : ∀ z : Qui.Cls w2, z.V.cell? ⟨w.heap.size, 7, none⟩ = some (.slice ta tl tc) := fun z => (HX.out _ (HB2.out.trans (z.lies.mono HB2.out.size))).2.2.2.2.2.2.2.1
  have c8 : ∀ z : Qui.Cls w2, z.V.cell? ⟨w.heap.size, 8, none⟩ = some (.int .u32 sent) := fun z => (HX.out _ (HB2.out.trans (z.lies.mono HB2.out.size))).2.2.2.2.2.2.2.2.1
  have c9 : ∀ z : Qui.Cls w2, z.V.cell? ⟨w.heap.size, 9, none⟩ = some (.int .u32 val) := fun z => (HX.out _ (HB2.out.trans (z.lies.mono HB2.out.size))).2.2.2.2.2.2.2.2.2
  have HS := Lib.hid (fun z : Qui.Cls w2 => HB2.out.trans (z.lies.mono HB2.out.size))
  go_upto_region 3 with fail
  refine Qui.wp_region_quiet_below (by kernel_rfl) (by kernel_rfl) ?_
  repeat (go_big_quiet_step (first | (go_at_call 16; with_reducible exact Qui.cls_same (CW1.out _ (HS.out _)))))
  refine wpQuiet_nil ?_
  intro _ hw'
  obtain ⟨z, rfl⟩ := hw'
  have hV := Lib.hid z.lies
  generalize z.V = V at *
  clear z
  clear c6 c7 c8 c9
  have HB3 := Lib.hid (HB2.out.trans (hV.out.mono HB2.out.size))
  clear HB2 HS hV
  generalize V = w3 at *
  have c7 : ∀ z : Qui.Cls w3, z.V.cell? ⟨w.heap.size, 7, none⟩ = some (.slice ta tl tc) := fun z => (HX.out _ (HB3.out.trans (z.lies.mono HB3.out.size))).2.2.2.2.2.2.2.1
  have c9 : ∀ z : Qui.Cls w3, z.V.cell? ⟨w.heap.size, 9, none⟩ = some (.int .u32 val) := fun z => (HX.out _ (HB3.out.trans (z.lies.mono HB3.out.size))).2.2.2.2.2.2.2.2.2
  have HS := Lib.hid (fun z : Qui.Cls w3 => HB3.out.trans (z.lies.mono HB3.out.size))
  go_upto_region 4 with fail
  refine Qui.wp_region_quiet_below (by kernel_rfl) (by kernel_rfl) ?_
  repeat (go_big_quiet_step (first | (go_at_call 16; with_reducible exact Qui.cls_same (CW2.out _ (HS.out _)))))
  refine wpQuiet_nil ?_
  intro _ hw'
  obtain ⟨z, rfl⟩ := hw'
  have hV := Lib.hid z.lies
  generalize z.V = V at *
  clear z
  clear c7 c9
  have HB4 := Lib.hid (HB3.out.trans (hV.out.mono HB3.out.size))
  clear HB3 HS hV
  generalize V = w4 at *
  obtain ⟨-, -, -, -, -, -, -, -, c8, c9⟩ := HX.out w4 HB4.out
  have HF4 := Lib.hid (HB1.out _ _ HB0.out HB4.out)
  have hn0 : Rdg.tmB val = true := decide_eq_true (by omega)
  have hn1 : Rdg.tmB sent = true := decide_eq_true (by omega)
  have hn2 : Rdg.tmB (sent + G) = true := decide_eq_true (by omega)
  have hq0 : 0 ≤ G / 2 := by omega
  have hq1 : G / 2 ≤ 2000 * 16 := by omega
  obtain ⟨eb, ev⟩ := Rdg.est_yes (v := val) (s := sent) (n := sent + G) hn0 hn1 hn2 (by omega) (decide_eq_true (by omega))
  rw [show sent + G - sent = G by omega] at ev
  have CE := Lib.hid (fun W => Rdg.est_any val sent (sent + G) W)
  rw [eb, ev] at CE
  have hb : Rdg.rerB x y r s = true := by unfold Rdg.rerB Hop.gdB Rat.gdR; rw [decide_eq_true (by omega), decide_eq_true (by omega)]; rfl
  have CR := Lib.hid (fun W => Rdg.err_any x y r s W)
  rw [hb] at CR
  have hv : Rdg.rerV x y r s = (y - x) * 512 + (2 * r + s) * y + 1 := by unfold Rdg.rerV; rw [hb]; rfl
  rw [hv] at CR
  obtain ⟨E, hE⟩ : ∃ E, (y - x) * 512 + (2 * r + s) * y + 1 = E := ⟨_, rfl⟩
  have hEb : 0 ≤ E ∧ E ≤ 100000 := by
    obtain ⟨b0, b1⟩ := Rdg.way_bd r0 r1 hs0 hs1 (show 0 ≤ y by omega) (show y ≤ 64 by omega)
    omega
  obtain ⟨E0, E1⟩ := hEb
  rw [hE] at CR HT
  clear hE hv hb eb ev hn0 hn1 hn2
  generalize G / 2 = q at *
  have t1 : decide (val + q - (val + K) ≤ E) = true := decide_eq_true (by have := HT.out; omega)
  have t2 : decide (val + K - (val + q) ≤ E) = true := decide_eq_true (by have := HT.out; omega)
  go_wp2_with fail
  refine (CE.out _).mono ?_; rintro e w5 ⟨rfl, hB⟩
  have HF5 := Lib.hid (HB1.out _ _ HF4.out hB)
  clear hB c8 c9
  go_wp2_with fail
  refine (CR.out _).mono ?_; rintro e w' ⟨rfl, rfl⟩
  go_wp2_with fail
  refine (C9.out _).mono ?_; rintro e w6 ⟨rfl, hB⟩
  have HF6 := Lib.hid (HB1.out _ _ HF5.out hB)
  clear hB
  go_wp2_with fail
  go_ret
  exact ⟨rfl, HF6.out⟩

set_option maxRecDepth 100000 in
theorem lifted (os : Os) (started : os.Started) (H : Type) (enc : TypeId × Value → H) :
    ReturnsInHanded {} Try.checked os 6 .any (Rows.readingTrueSpec.pre6 enc Try.prog Try.f6 Rows.readingTrueRow.domain false) (Rows.readingTrueSpec.post enc Try.prog Try.f6 false true false false) := by
  refine returnsInHanded_of_change (C := Try.checked) own started (by kernel_rfl) Try.func6
    (ChangeSpec.witness6 (enc := enc) (C := Try.checked) false ⟨#[], #[.agg #[.int .u8 0, .int .u8 0, .int .u8 0, .int .u8 0, .int .u8 0, .int .u8 0, .slice none 0 0, .slice none 0 0, .int .u32 0, .int .u32 0]], []⟩ 8 (by kernel_rfl) (by kernel_rfl) (by kernel_rfl) (by kernel_rfl)) ?_
  intro W base args ds gs before hval0 hW hcnd _
  have hval : ∀ (j : Nat) t v, Try.f6.params[j]? = some t → args[j]? = some v → Value.okWide Try.prog W .any base t v := hval0
  have hW' := hW
  obtain ⟨p, q, hA0, hV, rfl, hfz, hnd⟩ := hW
  have hA : DataW.TrodAll enc Try.prog W 0 (fun _ => true) true Try.f6.params.toList args.toList ds p := hA0
  rw [Try.params6] at hA hval
  obtain ⟨v0, vs0, d0, ds0, p0, q0, hargs, rfl, rfl, h0, r0⟩ := trodAll_cons hA
  obtain ⟨rfl, rfl, rfl⟩ := trodAll_nil r0
  obtain rfl : args = #[v0] := by cases args; simp_all
  obtain ⟨rfl, rfl⟩ := trodVars_none hV
  have k0 := h0
  have lt0 : ∀ x ∈ p0, x.block < W.heap.size := by obtain ⟨m, hm⟩ := k0; exact DataW.trod_lt m _ _ _ hm
  obtain ⟨a0, rfl, w0⟩ := Rdg.open_tr (hval 0 34 v0 rfl rfl) h0
  clear hA0 hval0
  refine (walk a0 W w0).mono fun e W' ⟨he, bel⟩ => ?_
  subst he
  exact ⟨_, rfl, _, _, _, [], _, [], hW', trodAll_mk1 (shut_bool Try.underlying4 _), (trodAll_cons_mk (Below.trod laidOut (by kernel_rfl) (of_decide_eq_true (by kernel_rfl)) k0 bel lt0) trodAll_mk0), rfl, bel.frame _, fun h => by cases h⟩

theorem over : Rows.readingTrueRow.holds Try.pinned (OpenSpec.ofChange Rows.readingTrueSpec) :=
  OpenClaim.holds_of_wide 6 Try.f6 rfl rfl rfl rfl rfl rfl rfl ⟨rfl, rfl, rfl, rfl, rfl⟩ rfl rfl rfl rfl rfl (by kernel_rfl) Try.func6 (by kernel_rfl)
    (of_decide_eq_true (by kernel_rfl)) (by unfold Func.isWrapper; first | (rw [if_pos (by decide +kernel)]; kernel_rfl) | (rw [if_neg (by decide +kernel)]; exact ⟨rfl, rfl⟩))
    (fun os started H enc _ => lifted os started H enc)

theorem proved : Rows.ReadingTrueSaid := over
#print axioms proved
end Go.Proofs.Ytecgohdpdkpeoaa.lawReadingTrue
