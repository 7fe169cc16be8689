/- Any nodes and any links are a graph, or it is told what is wrong first, as the document says. -/
import Derived.Test.YtlfkeonopdhoeaaRows
import Derived.WalkKit
import Derived.ProofKit
import Derived.OpenShut
import Derived.ShutString
import Derived.ChangeOld
import Derived.Below
import Derived.Test.YtlfkeonopdhoeaaGrfX
import Derived.Deep.Cut
namespace Go.Proofs.Ytlfkeonopdhoeaa.lawGraphNew
open Go.ChangeShapes Go.WideShapes Go.ChangeAt Go.RowKit
open Go.ChangeMaps (open_string shut_string)
set_option linter.unusedVariables false

theorem own : ownKnob Try.prog.godebug = none := by kernel_rfl
theorem laidOut : laidOutB Try.prog = true := by kernel_rfl

/-! The walk: the Go text returns true and writes nothing that was there. -/
set_option linter.unusedSimpArgs false in
set_option maxRecDepth 100000 in
set_option maxHeartbeats 4000000 in
theorem walk (a0 : Int) (a1 : Option Addr) (len1 cap1 : Nat) (z1 : List Grf.Pr) (w : World) (w0 : (Lit.int .i64 a0).wf = true) (w1 : Grf.Links w w.heap.size a1 len1 cap1 z1) :
    Calls Try.prog 3 #[.int .i64 a0, .slice a1 len1 cap1] w fun e w' => e = .returned (.bool true) ∧ Below w.heap.size w w' := by
  obtain ⟨l0, u0⟩ := bounds_i64 w0
  have CC := Lib.hid (Grf.cut_any a1 len1 cap1 z1 w w1.len_ w1.le w1.max w1.rd w1.nil)
  have HI : Hid (∀ p ∈ z1.take 60, Grf.inI p.1 ∧ Grf.inI p.2) := Lib.hid (fun p hp => w1.ok p (List.mem_of_mem_take hp))
  have hk : (z1.take 60).length ≤ 60 := by rw [List.length_take]; omega
  have C9 := Lib.hid (fun W => Grf.works16_any W)
  clear w1 w0
  generalize z1.take 60 = zs at *
  rcases Grf.ways a0 zs with ⟨c, hc, hbad⟩ | ⟨n, rfl, h1, h64, hz⟩
  · have CN := Lib.hid (fun ad cap W hr => Grf.new_bad a0 zs c hc hbad ad zs.length cap W rfl (by omega) HI.out hr)
    have CR := Lib.hid (fun ad cap W hr => Grf.rnew_bad a0 zs c hc hbad ad zs.length cap W rfl (by omega) hr)
    have hcb : (c != 0) = true := by simpa using hc
    clear hc hbad HI
    go_enter Try.func3, Try.ntmps3
    go_wp2_with fail
    refine (CC.out).mono ?_; rintro e w1 ⟨ad, cap, rfl, hown, hB1⟩
    have HR := Lib.hid hown.rd.1
    clear hown CC
    go_wp2_with fail
    refine (CN.out _ _ _ HR.out).mono ?_; rintro e w2 ⟨rfl, hB2⟩
    have hB12 := Grf.bt hB1 hB2
    go_wp2_with fail
    refine (CR.out _ _ _ (HR.out.below hB2)).mono ?_; rintro e w3 ⟨rfl, hB3⟩
    have hB13 := Grf.bt hB12 hB3
    clear CN CR hB1 hB2 hB12 hB3 HR
    go_wp2_with fail
    refine (C9.out _).mono ?_; rintro e w4 ⟨rfl, hB4⟩
    have HF := Lib.hid (Grf.bt (Grf.ba hB13 _) hB4)
    clear hB13 hB4
    go_wp2_with fail
    go_ret
    exact ⟨rfl, HF.out⟩
  · have CN := Lib.hid (fun ad cap W hr => Grf.new_good n zs h1 h64 hz ad zs.length cap W rfl (by omega) HI.out hr)
    have CR := Lib.hid (fun ad cap W hr => Grf.rnew_good n zs h1 h64 hz ad zs.length cap W rfl (by omega) hr)
    have HOK := Lib.hid (Grf.ok_of hz)
    clear hz HI
    go_enter Try.func3, Try.ntmps3
    go_wp2_with fail
    refine (CC.out).mono ?_; rintro e w1 ⟨ad, cap, rfl, hown, hB1⟩
    have HR := Lib.hid hown.rd.1
    clear hown CC
    go_wp2_with fail
    refine (CN.out _ _ _ HR.out).mono ?_; rintro e w2 ⟨g, b, rfl, hG, hB2⟩
    have hB12 := Grf.bt hB1 hB2
    go_wp2_with fail
    refine (CR.out _ _ _ (HR.out.below hB2)).mono ?_; rintro e w3 ⟨ad3, cap3, rfl, hR3, hB3⟩
    have hB13 := Grf.bt hB12 hB3
    have HG3 := Lib.hid (hG.below hB3)
    have HR3 := Lib.hid hR3
    have HR13 := Lib.hid ((HR.out.below hB2).below hB3)
    clear CN CR hB1 hB2 hB12 hB3 HR hG hR3
    obtain ⟨w4, hw4⟩ : ∃ w4, Hid (w4 = w3.alloc (.cells #[.int .i64 (n : Int), .slice ad3 zs.length cap3] 29)) := ⟨_, Lib.hid rfl⟩
    obtain ⟨hB4, -, hb4⟩ := Grf.gbox w3 w4 (n : Int) _ hw4.out
    have HG4 := Lib.hid (HG3.out.below hB4)
    have HR4 := Lib.hid (HR3.out.below hB4)
    have HB4 := Lib.hid (Grf.bt hB13 hB4)
    have c0 : w4.cell? ⟨w3.heap.size, 0, none⟩ = some (.int .i64 (n : Int)) := hb4.cell 0
    have c1 : w4.cell? ⟨w3.heap.size, 1, none⟩ = some (.slice ad3 zs.length cap3) := hb4.cell 1
    have HBX : Hid (∀ W, Below w4.heap.size w4 W → W.cell? ⟨w3.heap.size, 0, none⟩ = some (.int .i64 (n : Int)) ∧ W.cell? ⟨w3.heap.size, 1, none⟩ = some (.slice ad3 zs.length cap3)) := Lib.hid (fun W hB => And.intro ((hb4.below hB).cell 0) ((hb4.below hB).cell 1))
    have CS := Lib.hid (Grf.same_any g b n zs zs ad3 zs.length cap3 w4 HG4.out rfl HOK.out rfl (by omega) HR4.out)
    unfold Grf.gval at CS
    clear hB4 hb4 hB13 HBX HG3 HR3 HR13
    go_upto_region 4 with fail
    rw [← hw4.out]
    go_wp2_with fail
    refine (CS.out).mono ?_; rintro e w5 ⟨rfl, hB5⟩
    have HB5 := Lib.hid (Grf.bt HB4.out hB5)
    clear hB5 CS c0 c1
    go_wp2_with fail
    refine (C9.out _).mono ?_; rintro e w6 ⟨rfl, hB6⟩
    have HF := Lib.hid (Grf.bt HB5.out hB6)
    clear hB6
    go_wp2_with fail
    go_ret
    exact ⟨rfl, HF.out⟩

set_option maxRecDepth 100000 in
theorem lifted (os : Os) (started : os.Started) (H : Type) (enc : TypeId × Value → H) :
    ReturnsInHanded {} Try.checked os 3 .any (Rows.graphNewSpec.pre6 enc Try.prog Try.f3 Rows.graphNewRow.domain false) (Rows.graphNewSpec.post enc Try.prog Try.f3 false true false false) := by
  refine returnsInHanded_of_change (C := Try.checked) own started (by kernel_rfl) Try.func3
    (ChangeSpec.witness6 (enc := enc) (C := Try.checked) false ⟨#[], #[.int .i64 0, .slice none 0 0], []⟩ 8 (by kernel_rfl) (by kernel_rfl) (by kernel_rfl) (by kernel_rfl)) ?_
  intro W base args ds gs before hval0 hW hcnd _
  have hval : ∀ (j : Nat) t v, Try.f3.params[j]? = some t → args[j]? = some v → Value.okWide Try.prog W .any base t v := hval0
  have hW' := hW
  obtain ⟨p, q, hA0, hV, rfl, hfz, hnd⟩ := hW
  have hA : DataW.TrodAll enc Try.prog W 0 (fun _ => true) true Try.f3.params.toList args.toList ds p := hA0
  rw [Try.params3] at hA hval
  obtain ⟨v0, vs0, d0, ds0, p0, q0, hargs, rfl, rfl, h0, r0⟩ := trodAll_cons hA
  obtain ⟨v1, vs1, d1, ds1, p1, q1, rfl, rfl, rfl, h1, r1⟩ := trodAll_cons r0
  obtain ⟨rfl, rfl, rfl⟩ := trodAll_nil r1
  obtain rfl : args = #[v0, v1] := by cases args; simp_all
  obtain ⟨rfl, rfl⟩ := trodVars_none hV
  obtain ⟨a0, rfl, rfl, rfl, w0⟩ := open_int Try.underlying3 (hval 0 3 v0 rfl rfl) h0
  obtain ⟨a1, len1, cap1, rfl⟩ := okWide_slice Try.underlying22 (hval 1 22 v1 rfl rfl)
  have k1 := h1
  have lt1 : ∀ x ∈ p1, x.block < W.heap.size := by obtain ⟨m, hm⟩ := k1; exact DataW.trod_lt m _ _ _ hm
  obtain ⟨z1, w1⟩ : ∃ zs, Grf.Links W W.heap.size a1 len1 cap1 zs := by
    obtain ⟨fuel, hf⟩ := h1
    exact Grf.open_links rfl (by simpa [Value.cells] using hf)
  clear hA0 hval0
  refine (walk a0 a1 len1 cap1 z1 W w0 w1).mono fun e W' ⟨he, bel⟩ => ?_
  subst he
  exact ⟨_, rfl, _, _, _, [], _, [], hW', trodAll_mk1 (shut_bool Try.underlying4 _), (trodAll_cons_mk (shut_int Try.underlying3 w0) (trodAll_cons_mk (Below.trod laidOut (by kernel_rfl) (of_decide_eq_true (by kernel_rfl)) k1 bel lt1) trodAll_mk0)), rfl, bel.frame _, fun h => by cases h⟩

theorem over : Rows.graphNewRow.holds Try.pinned (OpenSpec.ofChange Rows.graphNewSpec) :=
  OpenClaim.holds_of_wide 3 Try.f3 rfl rfl rfl rfl rfl rfl rfl ⟨rfl, rfl, rfl, rfl, rfl⟩ rfl rfl rfl rfl rfl (by kernel_rfl) Try.func3 (by kernel_rfl)
    (of_decide_eq_true (by kernel_rfl)) (by unfold Func.isWrapper; first | (rw [if_pos (by decide +kernel)]; kernel_rfl) | (rw [if_neg (by decide +kernel)]; exact ⟨rfl, rfl⟩))
    (fun os started H enc _ => lifted os started H enc)

theorem proved : Rows.GraphNewSaid := over
#print axioms proved
end Go.Proofs.Ytlfkeonopdhoeaa.lawGraphNew
