/- Any graph without the links of any nodes is as the document says, and the graph stays. -/
import Derived.Test.YtlfkeonopdhoeaaRows
import Derived.WalkKit
import Derived.ProofKit
import Derived.OpenShut
import Derived.ShutString
import Derived.ChangeOld
import Derived.Below
import Derived.Test.YtlfkeonopdhoeaaGrfX
import Derived.Deep.Cut
import Derived.BigRegion
import Derived.Deep.RegionHeldLaw
namespace Go.Proofs.Ytlfkeonopdhoeaa.lawGraphWithout
open Go.ChangeShapes Go.WideShapes Go.ChangeAt Go.RowKit
open Go.ChangeMaps (open_string shut_string)
set_option linter.unusedVariables false

theorem own : ownKnob Try.prog.godebug = none := by kernel_rfl
theorem laidOut : laidOutB Try.prog = true := by kernel_rfl

/-! The walk: the Go text returns true and writes nothing that was there. -/
set_option linter.unusedSimpArgs false in
set_option maxRecDepth 100000 in
set_option maxHeartbeats 4000000 in
theorem walk (a0 : Int) (a1 : Option Addr) (len1 cap1 : Nat) (z1 : List Grf.Pr) (a2 : Int) (w : World) (w0 : (Lit.int .i64 a0).wf = true) (w1 : Grf.Links w w.heap.size a1 len1 cap1 z1) (w2 : (Lit.int .u64 a2).wf = true) :
    Calls Try.prog 5 #[.int .i64 a0, .slice a1 len1 cap1, .int .u64 a2] w fun e w' => e = .returned (.bool true) ∧ Below w.heap.size w w' := by
  obtain ⟨l2, u2⟩ := bounds_u64 w2
  obtain ⟨S, rfl⟩ := Int.eq_ofNat_of_zero_le l2
  have hS : S < 18446744073709551616 := by omega
  clear w2 l2 u2
  obtain ⟨l0, u0⟩ := bounds_i64 w0
  have CC := Lib.hid (Grf.cut_any a1 len1 cap1 z1 w w1.len_ w1.le w1.max w1.rd w1.nil)
  have HI : Hid (∀ p ∈ z1.take 60, Grf.inI p.1 ∧ Grf.inI p.2) := Lib.hid (fun p hp => w1.ok p (List.mem_of_mem_take hp))
  have hk : (z1.take 60).length ≤ 60 := by rw [List.length_take]; omega
  have C9 := Lib.hid (fun W => Grf.works16_any W)
  clear w1 w0
  generalize z1.take 60 = zs at *
  rcases Grf.ways a0 zs with ⟨c, hc, hbad⟩ | ⟨n, rfl, h1, h64, hz⟩
  · have CN := Lib.hid (fun ad cap W hr => Grf.new_bad a0 zs c hc hbad ad zs.length cap W rfl (by omega) HI.out hr)
    have CR := Lib.hid (fun ad cap W hr => Grf.rnew_bad a0 zs c hc hbad ad zs.length cap W rfl (by omega) hr)
    have hcb : (c != 0) = true := by simpa using hc
    clear hc hbad HI
    have CW := Lib.hid (fun W => Grf.gwithout_nil (S : Int) W)
    go_enter Try.func5, Try.ntmps5
    go_wp2_with fail
    refine (CC.out).mono ?_; rintro e w1 ⟨ad, cap, rfl, hown, hB1⟩
    have HR := Lib.hid hown.rd.1
    clear hown CC
    go_wp2_with fail
    refine (CN.out _ _ _ HR.out).mono ?_; rintro e w2 ⟨rfl, hB2⟩
    have hB12 := Grf.bt hB1 hB2
    go_wp2_with fail
    refine (CR.out _ _ _ (HR.out.below hB2)).mono ?_; rintro e w3 ⟨rfl, hB3⟩
    have hB13 := Grf.bt hB12 hB3
    clear CN CR hB1 hB2 hB12 hB3 HR
    go_wp2_with fail
    refine (CW.out _).mono ?_; rintro e w' ⟨rfl, rfl⟩
    go_wp2_with fail
    refine (C9.out _).mono ?_; rintro e w4 ⟨rfl, hB4⟩
    have HF := Lib.hid (Grf.bt (Grf.ba hB13 _) hB4)
    clear hB13 hB4
    go_wp2_with fail
    go_ret
    exact ⟨rfl, HF.out⟩
  · have CN := Lib.hid (fun ad cap W hr => Grf.new_good n zs h1 h64 hz ad zs.length cap W rfl (by omega) HI.out hr)
    have CR := Lib.hid (fun ad cap W hr => Grf.rnew_good n zs h1 h64 hz ad zs.length cap W rfl (by omega) hr)
    have HOK := Lib.hid (Grf.ok_of hz)
    clear hz HI
    go_enter Try.func5, Try.ntmps5
    go_wp2_with fail
    refine (CC.out).mono ?_; rintro e w1 ⟨ad, cap, rfl, hown, hB1⟩
    have HR := Lib.hid hown.rd.1
    clear hown CC
    go_wp2_with fail
    refine (CN.out _ _ _ HR.out).mono ?_; rintro e w2 ⟨g, b, rfl, hG, hB2⟩
    have hB12 := Grf.bt hB1 hB2
    go_wp2_with fail
    refine (CR.out _ _ _ (HR.out.below hB2)).mono ?_; rintro e w3 ⟨ad3, cap3, rfl, hR3, hB3⟩
    have hB13 := Grf.bt hB12 hB3
    have HG3 := Lib.hid (hG.below hB3)
    have HR3 := Lib.hid hR3
    have HR13 := Lib.hid ((HR.out.below hB2).below hB3)
    clear CN CR hB1 hB2 hB12 hB3 HR hG hR3
    obtain ⟨w4, hw4⟩ : ∃ w4, Hid (w4 = w3.alloc (.cells #[.int .i64 (n : Int), .slice ad3 zs.length cap3] 29)) := ⟨_, Lib.hid rfl⟩
    obtain ⟨hB4, -, hb4⟩ := Grf.gbox w3 w4 (n : Int) _ hw4.out
    have HG4 := Lib.hid (HG3.out.below hB4)
    have HR4 := Lib.hid (HR3.out.below hB4)
    have HB4 := Lib.hid (Grf.bt hB13 hB4)
    have c0 : w4.cell? ⟨w3.heap.size, 0, none⟩ = some (.int .i64 (n : Int)) := hb4.cell 0
    have c1 : w4.cell? ⟨w3.heap.size, 1, none⟩ = some (.slice ad3 zs.length cap3) := hb4.cell 1
    have HBX : Hid (∀ W, Below w4.heap.size w4 W → W.cell? ⟨w3.heap.size, 0, none⟩ = some (.int .i64 (n : Int)) ∧ W.cell? ⟨w3.heap.size, 1, none⟩ = some (.slice ad3 zs.length cap3)) := Lib.hid (fun W hB => And.intro ((hb4.below hB).cell 0) ((hb4.below hB).cell 1))
    have CW := Lib.hid (Grf.gwithout_any g b n zs S hS w4 HG4.out)
    have HWO := Lib.hid (Grf.wo_off HOK.out h64 hS)
    have HOF : Hid (Grf.Ok n (Grf.offL (Nodes.memI S) zs)) := Lib.hid (Grf.ok_filter _ HOK.out)
    have HOL : Hid ((Grf.offL (Nodes.memI S) zs).length ≤ 60) := Lib.hid (Nat.le_trans (List.length_filter_le _ _) hk)
    have HML : (Nodes.memI S).length ≤ 64 := by rw [Nodes.memI_len]; exact Nodes.mem_le S
    have CM := Lib.hid (fun W => Nodes.rlist_any S hS W)
    clear hB4 hb4 hB13 HG3 HR3 HR13
    generalize Grf.woL n S zs = M at *
    go_upto_region 4 with fail
    rw [← hw4.out]
    go_wp2_with fail
    refine (CW.out).mono ?_; rintro e w5 ⟨g2, b2, rfl, hG5, -, -, hB5⟩
    obtain ⟨c0, c1⟩ := HBX.out w5 hB5
    have HG5 := Lib.hid hG5
    have HG45 := Lib.hid (HG4.out.below hB5)
    have HR5 := Lib.hid (HR4.out.below hB5)
    have HB5 := Lib.hid (Grf.bt HB4.out hB5)
    have HBX5 := Lib.hid (fun W (hB : Below w5.heap.size w5 W) => HBX.out W (Grf.bt hB5 hB))
    clear hG5 hB5 HBX CW HG4 HR4
    generalize hms : Nodes.memI S = ms at *
    generalize hol : Grf.offL ms zs = ol at *
    have hol60 := HOL.out
    have CX := Lib.hid (fun ado capo W (hB : Below w5.heap.size w5 W) hr => Grf.rwithout_any n ad3 zs.length cap3 zs ado ms.length capo ms W rfl (by omega) (HR5.out.below hB) rfl (by omega) hr)
    rw [hol] at CX
    have CS1 := Lib.hid (fun adx capx W (hB : Below w5.heap.size w5 W) hr => Grf.same_any g2 b2 n M ol adx ol.length capx W (HG5.out.below hB) HWO.out HOF.out rfl (by omega) hr)
    have CS2 := Lib.hid (fun W (hB : Below w5.heap.size w5 W) => Grf.same_any g b n zs zs ad3 zs.length cap3 W (HG45.out.below hB) rfl HOK.out rfl (by omega) (HR5.out.below hB))
    unfold Grf.RWPost at CX
    unfold Grf.gval at CX CS1 CS2
    clear HG5 HG45 HR5 HWO HOF HOL hms hol
    go_upto_region 7 with fail
    go_region_held_law (fun W => Below w5.heap.size w5 W ∧ W.cell? ⟨w3.heap.size, 0, none⟩ = some (.int .i64 (n : Int)) ∧ W.cell? ⟨w3.heap.size, 1, none⟩ = some (.slice ad3 zs.length cap3))
      ((refine ⟨?_, HBX5.out _ ?_⟩ <;> (repeat' (first | assumption | exact (‹Below w5.heap.size w5 _ ∧ _›).1 | exact Below.refl _ _ | refine Below.drew ?_))))
      (first
        | (go_at_call 18; (with_reducible refine (CM.out _).mono ?_); rintro e W6 ⟨adm, capm, rfl, hownm, hBm⟩; have hBM := Grf.bt (‹Below w5.heap.size w5 _ ∧ _›).1 hBm; have hRM := Lib.hid hownm.rd.1; clear hownm)
        | (go_at_call 17; (with_reducible refine (CX.out _ _ _ ?_ ?_).mono ?_); (focus (exact hBM)); (focus (exact hRM.out)); rintro e W7 ⟨adx, capx, rfl, hRx, hBx⟩; have hBX := Grf.bt hBM hBx; have hRX := Lib.hid hRx; clear hRx)
        | (go_at_call 12; (with_reducible refine (CS1.out _ _ _ ?_ ?_).mono ?_); (focus (exact hBX)); (focus (exact hRX.out)); rintro e W8 ⟨rfl, hB8⟩; have hBY := Grf.bt hBX hB8)
        | (go_at_call 12; (with_reducible refine (CS2.out _ ?_).mono ?_); (focus (exact (‹Below w5.heap.size w5 _ ∧ _›).1)); rintro e W9 ⟨rfl, hB9⟩; have hBZ := Grf.bt (‹Below w5.heap.size w5 _ ∧ _›).1 hB9)
        | (go_at_call 13; (with_reducible refine (C9.out _).mono ?_); rintro e WX ⟨rfl, hBw⟩; have hBV := Grf.bt (‹Below w5.heap.size w5 _ ∧ _›).1 hBw))
    all_goals (
      have HF := Lib.hid (Grf.bt HB5.out (‹Below w5.heap.size w5 _ ∧ _›).1)
      clear CX CS1 CS2 CM C9 HBX5
      go_wp2_with fail
      go_ret
      exact ⟨rfl, HF.out⟩)

set_option maxRecDepth 100000 in
theorem lifted (os : Os) (started : os.Started) (H : Type) (enc : TypeId × Value → H) :
    ReturnsInHanded {} Try.checked os 5 .any (Rows.graphWithoutSpec.pre6 enc Try.prog Try.f5 Rows.graphWithoutRow.domain false) (Rows.graphWithoutSpec.post enc Try.prog Try.f5 false true false false) := by
  refine returnsInHanded_of_change (C := Try.checked) own started (by kernel_rfl) Try.func5
    (ChangeSpec.witness6 (enc := enc) (C := Try.checked) false ⟨#[], #[.int .i64 0, .slice none 0 0, .int .u64 0], []⟩ 8 (by kernel_rfl) (by kernel_rfl) (by kernel_rfl) (by kernel_rfl)) ?_
  intro W base args ds gs before hval0 hW hcnd _
  have hval : ∀ (j : Nat) t v, Try.f5.params[j]? = some t → args[j]? = some v → Value.okWide Try.prog W .any base t v := hval0
  have hW' := hW
  obtain ⟨p, q, hA0, hV, rfl, hfz, hnd⟩ := hW
  have hA : DataW.TrodAll enc Try.prog W 0 (fun _ => true) true Try.f5.params.toList args.toList ds p := hA0
  rw [Try.params5] at hA hval
  obtain ⟨v0, vs0, d0, ds0, p0, q0, hargs, rfl, rfl, h0, r0⟩ := trodAll_cons hA
  obtain ⟨v1, vs1, d1, ds1, p1, q1, rfl, rfl, rfl, h1, r1⟩ := trodAll_cons r0
  obtain ⟨v2, vs2, d2, ds2, p2, q2, rfl, rfl, rfl, h2, r2⟩ := trodAll_cons r1
  obtain ⟨rfl, rfl, rfl⟩ := trodAll_nil r2
  obtain rfl : args = #[v0, v1, v2] := by cases args; simp_all
  obtain ⟨rfl, rfl⟩ := trodVars_none hV
  obtain ⟨a0, rfl, rfl, rfl, w0⟩ := open_int Try.underlying3 (hval 0 3 v0 rfl rfl) h0
  obtain ⟨a1, len1, cap1, rfl⟩ := okWide_slice Try.underlying22 (hval 1 22 v1 rfl rfl)
  have k1 := h1
  have lt1 : ∀ x ∈ p1, x.block < W.heap.size := by obtain ⟨m, hm⟩ := k1; exact DataW.trod_lt m _ _ _ hm
  obtain ⟨z1, w1⟩ : ∃ zs, Grf.Links W W.heap.size a1 len1 cap1 zs := by
    obtain ⟨fuel, hf⟩ := h1
    exact Grf.open_links rfl (by simpa [Value.cells] using hf)
  obtain ⟨a2, rfl, rfl, rfl, w2⟩ := open_int Try.underlying39 (hval 2 39 v2 rfl rfl) h2
  clear hA0 hval0
  refine (walk a0 a1 len1 cap1 z1 a2 W w0 w1 w2).mono fun e W' ⟨he, bel⟩ => ?_
  subst he
  exact ⟨_, rfl, _, _, _, [], _, [], hW', trodAll_mk1 (shut_bool Try.underlying4 _), (trodAll_cons_mk (shut_int Try.underlying3 w0) (trodAll_cons_mk (Below.trod laidOut (by kernel_rfl) (of_decide_eq_true (by kernel_rfl)) k1 bel lt1) (trodAll_cons_mk (shut_int Try.underlying39 w2) trodAll_mk0))), rfl, bel.frame _, fun h => by cases h⟩

theorem over : Rows.graphWithoutRow.holds Try.pinned (OpenSpec.ofChange Rows.graphWithoutSpec) :=
  OpenClaim.holds_of_wide 5 Try.f5 rfl rfl rfl rfl rfl rfl rfl ⟨rfl, rfl, rfl, rfl, rfl⟩ rfl rfl rfl rfl rfl (by kernel_rfl) Try.func5 (by kernel_rfl)
    (of_decide_eq_true (by kernel_rfl)) (by unfold Func.isWrapper; first | (rw [if_pos (by decide +kernel)]; kernel_rfl) | (rw [if_neg (by decide +kernel)]; exact ⟨rfl, rfl⟩))
    (fun os started H enc _ => lifted os started H enc)

theorem proved : Rows.GraphWithoutSaid := over
#print axioms proved
end Go.Proofs.Ytlfkeonopdhoeaa.lawGraphWithout
