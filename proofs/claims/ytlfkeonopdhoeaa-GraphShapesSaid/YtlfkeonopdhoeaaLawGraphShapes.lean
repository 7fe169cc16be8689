/- Rings and full graphs of any number of nodes are as the document says, and may be. -/
import Derived.Test.YtlfkeonopdhoeaaRows
import Derived.WalkKit
import Derived.ProofKit
import Derived.OpenShut
import Derived.ShutString
import Derived.ChangeOld
import Derived.Below
import Derived.Test.YtlfkeonopdhoeaaGrfX
namespace Go.Proofs.Ytlfkeonopdhoeaa.lawGraphShapes
open Go.ChangeShapes Go.WideShapes Go.ChangeAt Go.RowKit
open Go.ChangeMaps (open_string shut_string)
set_option linter.unusedVariables false

theorem own : ownKnob Try.prog.godebug = none := by kernel_rfl
theorem laidOut : laidOutB Try.prog = true := by kernel_rfl

/-! The walk: the Go text returns true and writes nothing that was there. -/
set_option linter.unusedSimpArgs false in
set_option maxRecDepth 100000 in
set_option maxHeartbeats 4000000 in
theorem walk (a0 : Int) (w : World) (w0 : (Lit.int .i64 a0).wf = true) :
    Calls Try.prog 6 #[.int .i64 a0] w fun e w' => e = .returned (.bool true) ∧ Below w.heap.size w w' := by
  obtain ⟨l0, u0⟩ := bounds_i64 w0
  have hz : Grf.inI a0 := ⟨l0, u0⟩
  clear w0
  have C1 := Lib.hid (Grf.ring_any a0 hz w)
  have C2 := Lib.hid (fun W => Grf.full_any a0 hz W)
  have C3 := Lib.hid (fun W => Grf.rring_any a0 hz W)
  have C4 := Lib.hid (fun W => Grf.rfull_any a0 hz W)
  have C9 := Lib.hid (fun W => Grf.works16_any W)
  have hr64 : (Grf.ringZ a0).length ≤ 64 := by
    unfold Grf.ringZ
    by_cases h : 64 < a0
    · rw [if_pos h]; simp
    · rw [if_neg h]; exact Nat.le_trans (Grf.ring_len _) (by omega)
  have hf64 : (Grf.fullZ a0).length ≤ 4096 := by
    unfold Grf.fullZ
    by_cases h : 64 < a0
    · rw [if_pos h]; simp
    · rw [if_neg h]; exact Grf.allU_len64 _ (by omega)
  by_cases ho : a0 < 1 ∨ 64 < a0
  · have CN := Lib.hid (fun ad len cap W => Grf.new_out a0 ho ad len cap W)
    clear hz
    generalize Grf.ringZ a0 = R at *
    generalize Grf.fullZ a0 = Q at *
    have S1 := Lib.hid (fun b1 b2 c1 c2 W h1 h2 => Grf.same_links b1 b2 R.length c1 c2 R W rfl (by omega) h1 h2)
    have S2 := Lib.hid (fun b1 b2 c1 c2 W h1 h2 => Grf.same_links b1 b2 Q.length c1 c2 Q W rfl (by omega) h1 h2)
    by_cases h1 : a0 < 1
    · have hd : decide (1 ≤ a0) = false := decide_eq_false (by omega)
      clear ho
      go_enter Try.func6, Try.ntmps6
      go_wp2_with fail
      refine (C1.out).mono ?_; rintro e w1 ⟨ad1, cap1, rfl, hown, hB1⟩
      have HR1 := Lib.hid hown.rd.1
      clear hown
      go_wp2_with fail
      refine (C2.out w1).mono ?_; rintro e w2 ⟨ad2, cap2, rfl, hown, hB2⟩
      have HR12 := Lib.hid (HR1.out.below hB2)
      have HR2 := Lib.hid hown.rd.1
      have hB12 := Grf.bt hB1 hB2
      clear hown
      go_wp2_with fail
      refine (C3.out w2).mono ?_; rintro e w3 ⟨ad3, cap3, rfl, hown, hB3⟩
      have HR13 := Lib.hid (HR12.out.below hB3)
      have HR23 := Lib.hid (HR2.out.below hB3)
      have HR3 := Lib.hid hown.rd.1
      have hB13 := Grf.bt hB12 hB3
      clear hown HR1 HR12 HR2 hB1 hB2 hB3 hB12
      go_wp2_with fail
      refine (S1.out ad1 ad3 _ _ w3 HR13.out HR3.out).mono ?_; rintro e w4 ⟨rfl, hB4⟩
      have HR14 := Lib.hid (HR13.out.below hB4)
      have HR24 := Lib.hid (HR23.out.below hB4)
      have hB14 := Grf.bt hB13 hB4
      clear HR13 HR23 HR3 hB13 hB4
      go_wp2_with fail
      refine (C4.out w4).mono ?_; rintro e w5 ⟨ad5, cap5, rfl, hown, hB5⟩
      have HR15 := Lib.hid (HR14.out.below hB5)
      have HR25 := Lib.hid (HR24.out.below hB5)
      have HR5 := Lib.hid hown.rd.1
      have hB15 := Grf.bt hB14 hB5
      clear hown HR14 HR24 hB14 hB5
      go_wp2_with fail
      refine (S2.out ad2 ad5 _ _ w5 HR25.out HR5.out).mono ?_; rintro e w6 ⟨rfl, hB6⟩
      have HR16 := Lib.hid (HR15.out.below hB6)
      have HR26 := Lib.hid (HR25.out.below hB6)
      have hB16 := Grf.bt hB15 hB6
      clear HR15 HR25 HR5 hB15 hB6 C1 C2 C3 C4 S1 S2
      go_wp2_with fail
      refine (CN.out _ _ _ w6).mono ?_; rintro e w' ⟨rfl, rfl⟩
      go_wp2_with fail
      refine (CN.out _ _ _ w6).mono ?_; rintro e w' ⟨rfl, rfl⟩
      go_wp2_with fail
      refine (C9.out _).mono ?_; rintro e w7 ⟨rfl, hB7⟩
      have HF := Lib.hid (Grf.bt hB16 hB7)
      clear hB7 hB16
      go_wp2_with fail
      go_ret
      exact ⟨rfl, HF.out⟩
    · have h64 : 64 < a0 := by omega
      have hd : decide (a0 ≤ 64) = false := decide_eq_false (by omega)
      have h1' : 1 ≤ a0 := by omega
      clear ho h1
      go_enter Try.func6, Try.ntmps6
      go_wp2_with fail
      refine (C1.out).mono ?_; rintro e w1 ⟨ad1, cap1, rfl, hown, hB1⟩
      have HR1 := Lib.hid hown.rd.1
      clear hown
      go_wp2_with fail
      refine (C2.out w1).mono ?_; rintro e w2 ⟨ad2, cap2, rfl, hown, hB2⟩
      have HR12 := Lib.hid (HR1.out.below hB2)
      have HR2 := Lib.hid hown.rd.1
      have hB12 := Grf.bt hB1 hB2
      clear hown
      go_wp2_with fail
      refine (C3.out w2).mono ?_; rintro e w3 ⟨ad3, cap3, rfl, hown, hB3⟩
      have HR13 := Lib.hid (HR12.out.below hB3)
      have HR23 := Lib.hid (HR2.out.below hB3)
      have HR3 := Lib.hid hown.rd.1
      have hB13 := Grf.bt hB12 hB3
      clear hown HR1 HR12 HR2 hB1 hB2 hB3 hB12
      go_wp2_with fail
      refine (S1.out ad1 ad3 _ _ w3 HR13.out HR3.out).mono ?_; rintro e w4 ⟨rfl, hB4⟩
      have HR14 := Lib.hid (HR13.out.below hB4)
      have HR24 := Lib.hid (HR23.out.below hB4)
      have hB14 := Grf.bt hB13 hB4
      clear HR13 HR23 HR3 hB13 hB4
      go_wp2_with fail
      refine (C4.out w4).mono ?_; rintro e w5 ⟨ad5, cap5, rfl, hown, hB5⟩
      have HR15 := Lib.hid (HR14.out.below hB5)
      have HR25 := Lib.hid (HR24.out.below hB5)
      have HR5 := Lib.hid hown.rd.1
      have hB15 := Grf.bt hB14 hB5
      clear hown HR14 HR24 hB14 hB5
      go_wp2_with fail
      refine (S2.out ad2 ad5 _ _ w5 HR25.out HR5.out).mono ?_; rintro e w6 ⟨rfl, hB6⟩
      have HR16 := Lib.hid (HR15.out.below hB6)
      have HR26 := Lib.hid (HR25.out.below hB6)
      have hB16 := Grf.bt hB15 hB6
      clear HR15 HR25 HR5 hB15 hB6 C1 C2 C3 C4 S1 S2
      go_wp2_with fail
      refine (CN.out _ _ _ w6).mono ?_; rintro e w' ⟨rfl, rfl⟩
      go_wp2_with fail
      refine (CN.out _ _ _ w6).mono ?_; rintro e w' ⟨rfl, rfl⟩
      go_wp2_with fail
      refine (C9.out _).mono ?_; rintro e w7 ⟨rfl, hB7⟩
      have HF := Lib.hid (Grf.bt hB16 hB7)
      clear hB7 hB16
      go_wp2_with fail
      go_ret
      exact ⟨rfl, HF.out⟩
  · obtain ⟨n, rfl⟩ := Int.eq_ofNat_of_zero_le (show 0 ≤ a0 by omega)
    have h1 : 1 ≤ n := by omega
    have h64 : n ≤ 64 := by omega
    have hR : Grf.ringZ (n : Int) = Grf.ring n := by unfold Grf.ringZ; rw [if_neg (by omega), Int.toNat_natCast]
    have hQ : Grf.fullZ (n : Int) = Grf.full n := by unfold Grf.fullZ; rw [if_neg (by omega), Int.toNat_natCast]
    have hok1 := Grf.ring_ok n
    have hok2 : Grf.Ok n (Grf.full n) := Grf.allU_ok _ _
    rw [← hR] at hok1
    rw [← hQ] at hok2
    have CN1 := Lib.hid (fun ad cap W h => Grf.new_good n _ h1 h64 (Grf.er_of hok1) ad (Grf.ringZ (n : Int)).length cap W rfl (by omega) (Grf.ok_inI hok1 h64) h)
    have CN2 := Lib.hid (fun ad cap W h => Grf.new_good n _ h1 h64 (Grf.er_of hok2) ad (Grf.fullZ (n : Int)).length cap W rfl (by omega) (Grf.ok_inI hok2 h64) h)
    clear hz hR hQ hok1 hok2 ho
    generalize Grf.ringZ (n : Int) = R at *
    generalize Grf.fullZ (n : Int) = Q at *
    have S1 := Lib.hid (fun b1 b2 c1 c2 W h1 h2 => Grf.same_links b1 b2 R.length c1 c2 R W rfl (by omega) h1 h2)
    have S2 := Lib.hid (fun b1 b2 c1 c2 W h1 h2 => Grf.same_links b1 b2 Q.length c1 c2 Q W rfl (by omega) h1 h2)
    go_enter Try.func6, Try.ntmps6
    go_wp2_with fail
    refine (C1.out).mono ?_; rintro e w1 ⟨ad1, cap1, rfl, hown, hB1⟩
    have HR1 := Lib.hid hown.rd.1
    clear hown
    go_wp2_with fail
    refine (C2.out w1).mono ?_; rintro e w2 ⟨ad2, cap2, rfl, hown, hB2⟩
    have HR12 := Lib.hid (HR1.out.below hB2)
    have HR2 := Lib.hid hown.rd.1
    have hB12 := Grf.bt hB1 hB2
    clear hown
    go_wp2_with fail
    refine (C3.out w2).mono ?_; rintro e w3 ⟨ad3, cap3, rfl, hown, hB3⟩
    have HR13 := Lib.hid (HR12.out.below hB3)
    have HR23 := Lib.hid (HR2.out.below hB3)
    have HR3 := Lib.hid hown.rd.1
    have hB13 := Grf.bt hB12 hB3
    clear hown HR1 HR12 HR2 hB1 hB2 hB3 hB12
    go_wp2_with fail
    refine (S1.out ad1 ad3 _ _ w3 HR13.out HR3.out).mono ?_; rintro e w4 ⟨rfl, hB4⟩
    have HR14 := Lib.hid (HR13.out.below hB4)
    have HR24 := Lib.hid (HR23.out.below hB4)
    have hB14 := Grf.bt hB13 hB4
    clear HR13 HR23 HR3 hB13 hB4
    go_wp2_with fail
    refine (C4.out w4).mono ?_; rintro e w5 ⟨ad5, cap5, rfl, hown, hB5⟩
    have HR15 := Lib.hid (HR14.out.below hB5)
    have HR25 := Lib.hid (HR24.out.below hB5)
    have HR5 := Lib.hid hown.rd.1
    have hB15 := Grf.bt hB14 hB5
    clear hown HR14 HR24 hB14 hB5
    go_wp2_with fail
    refine (S2.out ad2 ad5 _ _ w5 HR25.out HR5.out).mono ?_; rintro e w6 ⟨rfl, hB6⟩
    have HR16 := Lib.hid (HR15.out.below hB6)
    have HR26 := Lib.hid (HR25.out.below hB6)
    have hB16 := Grf.bt hB15 hB6
    clear HR15 HR25 HR5 hB15 hB6 C1 C2 C3 C4 S1 S2
    go_wp2_with fail
    refine (CN1.out _ _ w6 HR16.out).mono ?_; rintro e w7 ⟨g7, b7, rfl, -, hB7⟩
    have hB17 := Grf.bt hB16 hB7
    have HR27 := Lib.hid (HR26.out.below hB7)
    clear CN1 HR16 HR26 hB16 hB7
    go_wp2_with fail
    refine (CN2.out _ _ w7 HR27.out).mono ?_; rintro e w8 ⟨g8, b8, rfl, -, hB8⟩
    have hB18 := Grf.bt hB17 hB8
    clear CN2 HR27 hB17 hB8
    go_wp2_with fail
    refine (C9.out _).mono ?_; rintro e w9 ⟨rfl, hB9⟩
    have HF := Lib.hid (Grf.bt hB18 hB9)
    clear hB18 hB9
    go_wp2_with fail
    go_ret
    exact ⟨rfl, HF.out⟩

set_option maxRecDepth 100000 in
theorem lifted (os : Os) (started : os.Started) (H : Type) (enc : TypeId × Value → H) :
    ReturnsInHanded {} Try.checked os 6 .any (Rows.graphShapesSpec.pre6 enc Try.prog Try.f6 Rows.graphShapesRow.domain false) (Rows.graphShapesSpec.post enc Try.prog Try.f6 false true false false) := by
  refine returnsInHanded_of_change (C := Try.checked) own started (by kernel_rfl) Try.func6
    (ChangeSpec.witness6 (enc := enc) (C := Try.checked) false ⟨#[], #[.int .i64 0], []⟩ 8 (by kernel_rfl) (by kernel_rfl) (by kernel_rfl) (by kernel_rfl)) ?_
  intro W base args ds gs before hval0 hW hcnd _
  have hval : ∀ (j : Nat) t v, Try.f6.params[j]? = some t → args[j]? = some v → Value.okWide Try.prog W .any base t v := hval0
  have hW' := hW
  obtain ⟨p, q, hA0, hV, rfl, hfz, hnd⟩ := hW
  have hA : DataW.TrodAll enc Try.prog W 0 (fun _ => true) true Try.f6.params.toList args.toList ds p := hA0
  rw [Try.params6] at hA hval
  obtain ⟨v0, vs0, d0, ds0, p0, q0, hargs, rfl, rfl, h0, r0⟩ := trodAll_cons hA
  obtain ⟨rfl, rfl, rfl⟩ := trodAll_nil r0
  obtain rfl : args = #[v0] := by cases args; simp_all
  obtain ⟨rfl, rfl⟩ := trodVars_none hV
  obtain ⟨a0, rfl, rfl, rfl, w0⟩ := open_int Try.underlying3 (hval 0 3 v0 rfl rfl) h0
  clear hA0 hval0
  refine (walk a0 W w0).mono fun e W' ⟨he, bel⟩ => ?_
  subst he
  exact ⟨_, rfl, _, _, _, [], _, [], hW', trodAll_mk1 (shut_bool Try.underlying4 _), (trodAll_cons_mk (shut_int Try.underlying3 w0) trodAll_mk0), rfl, bel.frame _, fun h => by cases h⟩

theorem over : Rows.graphShapesRow.holds Try.pinned (OpenSpec.ofChange Rows.graphShapesSpec) :=
  OpenClaim.holds_of_wide 6 Try.f6 rfl rfl rfl rfl rfl rfl rfl ⟨rfl, rfl, rfl, rfl, rfl⟩ rfl rfl rfl rfl rfl (by kernel_rfl) Try.func6 (by kernel_rfl)
    (of_decide_eq_true (by kernel_rfl)) (by unfold Func.isWrapper; first | (rw [if_pos (by decide +kernel)]; kernel_rfl) | (rw [if_neg (by decide +kernel)]; exact ⟨rfl, rfl⟩))
    (fun os started H enc _ => lifted os started H enc)

theorem proved : Rows.GraphShapesSaid := over
#print axioms proved
end Go.Proofs.Ytlfkeonopdhoeaa.lawGraphShapes
