/- A graph made of the links of any graph is the same. -/
import Derived.Test.YtlfkeonopdhoeaaRows
import Derived.WalkKit
import Derived.ProofKit
import Derived.OpenShut
import Derived.ShutString
import Derived.ChangeOld
import Derived.Below
import Derived.Test.YtlfkeonopdhoeaaGrfX
import Derived.Deep.Cut
namespace Go.Proofs.Ytlfkeonopdhoeaa.lawGraphBack
open Go.ChangeShapes Go.WideShapes Go.ChangeAt Go.RowKit
open Go.ChangeMaps (open_string shut_string)
set_option linter.unusedVariables false

theorem own : ownKnob Try.prog.godebug = none := by kernel_rfl
theorem laidOut : laidOutB Try.prog = true := by kernel_rfl

/-! The walk: the Go text returns true and writes nothing that was there. -/
set_option linter.unusedSimpArgs false in
set_option maxRecDepth 100000 in
set_option maxHeartbeats 4000000 in
theorem walk (a0 : Int) (a1 : Option Addr) (len1 cap1 : Nat) (z1 : List Grf.Pr) (w : World) (w0 : (Lit.int .i64 a0).wf = true) (w1 : Grf.Links w w.heap.size a1 len1 cap1 z1) :
    Calls Try.prog 7 #[.int .i64 a0, .slice a1 len1 cap1] w fun e w' => e = .returned (.bool true) ∧ Below w.heap.size w w' := by
  obtain ⟨l0, u0⟩ := bounds_i64 w0
  have CC := Lib.hid (Grf.cut_any a1 len1 cap1 z1 w w1.len_ w1.le w1.max w1.rd w1.nil)
  have HI : Hid (∀ p ∈ z1.take 60, Grf.inI p.1 ∧ Grf.inI p.2) := Lib.hid (fun p hp => w1.ok p (List.mem_of_mem_take hp))
  have hk : (z1.take 60).length ≤ 60 := by rw [List.length_take]; omega
  have C9 := Lib.hid (fun W => Grf.works16_any W)
  clear w1 w0
  generalize z1.take 60 = zs at *
  rcases Grf.ways a0 zs with ⟨c, hc, hbad⟩ | ⟨n, rfl, h1, h64, hz⟩
  · have CN := Lib.hid (fun ad cap W hr => Grf.new_bad a0 zs c hc hbad ad zs.length cap W rfl (by omega) HI.out hr)
    have hcb : (c != 0) = true := by simpa using hc
    clear hc hbad HI
    go_enter Try.func7, Try.ntmps7
    go_wp2_with fail
    refine (CC.out).mono ?_; rintro e w1 ⟨ad, cap, rfl, hown, hB1⟩
    have HR := Lib.hid hown.rd.1
    clear hown CC
    go_wp2_with fail
    refine (CN.out _ _ _ HR.out).mono ?_; rintro e w2 ⟨rfl, hB2⟩
    have hB12 := Grf.bt hB1 hB2
    clear CN hB1 hB2 HR
    go_wp2_with fail
    refine (C9.out _).mono ?_; rintro e w4 ⟨rfl, hB4⟩
    have HF := Lib.hid (Grf.bt hB12 hB4)
    clear hB12 hB4
    go_wp2_with fail
    go_ret
    exact ⟨rfl, HF.out⟩
  · have CN := Lib.hid (fun ad cap W hr => Grf.new_good n zs h1 h64 hz ad zs.length cap W rfl (by omega) HI.out hr)
    have HOK := Lib.hid (Grf.ok_of hz)
    clear hz HI
    have HMK : Hid (Grf.lk (Grf.linksL n zs) = Grf.lk zs) := Lib.hid (Grf.lk_links HOK.out)
    have HMO : Hid (Grf.Ok n (Grf.linksL n zs)) := Lib.hid (Grf.allU_ok _ _)
    have HML : Hid ((Grf.linksL n zs).length = zs.length) := Lib.hid (Grf.links_len HOK.out)
    have HMM : Hid (Grf.linksL n (Grf.linksL n zs) = Grf.linksL n zs) := Lib.hid (Grf.links_congr HMK.out)
    have HMI : Hid (∀ p ∈ Grf.linksL n zs, Grf.inI p.1 ∧ Grf.inI p.2) := Lib.hid (Grf.ok_inI HMO.out h64)
    have CLG := Lib.hid (fun g b W h => Grf.links_any g b n zs W h)
    have CLH := Lib.hid (fun g b W h => Grf.links_any g b n (Grf.linksL n zs) W h)
    rw [HMM.out] at CLH
    have HNP : Hid (∀ z, Grf.nearP (Grf.linksL n zs) z = Grf.nearP zs z) := Lib.hid (fun z => Grf.near_congr HMK.out z)
    have CNG := Lib.hid (fun g b z W h => Grf.near_any g b n zs z W h)
    have CNH : Hid (∀ g b z W, Grf.GR W g b n (Grf.linksL n zs) → Calls Try.prog 25 #[.pointer (some ⟨g, 0, none⟩), .int .i64 z] W fun e w' => e = .returned (.int .u64 ((Grf.nearP zs z : Nat) : Int)) ∧ W = w') := Lib.hid (fun g b z W h => HNP.out z ▸ Grf.near_any g b n _ z W h)
    clear HMM HMK HNP
    generalize Grf.linksL n zs = M at *
    have CN2 := Lib.hid (fun ad cap W h => Grf.new_good n M h1 h64 (Grf.er_of HMO.out) ad M.length cap W rfl (by have := HML.out; omega) HMI.out h)
    have CS := Lib.hid (fun b1 b2 c1 c2 W h1 h2 => Grf.same_links b1 b2 M.length c1 c2 M W rfl (by have := HML.out; omega) h1 h2)
    rw [HML.out] at CN2 CS
    clear HMO HMI
    go_enter Try.func7, Try.ntmps7
    go_wp2_with fail
    refine (CC.out).mono ?_; rintro e w1 ⟨ad, cap, rfl, hown, hB1⟩
    have HR := Lib.hid hown.rd.1
    clear hown CC
    go_wp2_with fail
    refine (CN.out _ _ _ HR.out).mono ?_; rintro e w2 ⟨g, b, rfl, hG, hB2⟩
    have hB12 := Grf.bt hB1 hB2
    have HG := Lib.hid hG
    clear CN hB1 hB2 HR hG
    go_wp2_with fail
    refine (CLG.out _ _ _ HG.out).mono ?_; rintro e w3 ⟨ad3, cap3, rfl, hown, hB3⟩
    have HR3 := Lib.hid hown.rd.1
    have HG3 := Lib.hid (HG.out.below hB3)
    have hB13 := Grf.bt hB12 hB3
    clear hown hB3 hB12 HG
    rw [HML.out]
    go_wp2_with fail
    refine (CN2.out _ _ _ HR3.out).mono ?_; rintro e w4 ⟨g2, b2, rfl, hG2, hB4⟩
    have HG4 := Lib.hid (HG3.out.below hB4)
    have HH4 := Lib.hid hG2
    have hB14 := Grf.bt hB13 hB4
    clear hG2 hB4 hB13 HG3 HR3 CN2
    go_wp2_with fail
    refine (CLH.out _ _ _ HH4.out).mono ?_; rintro e w5 ⟨ad5, cap5, rfl, hown, hB5⟩
    have HR5 := Lib.hid hown.rd.1
    have HG5 := Lib.hid (HG4.out.below hB5)
    have HH5 := Lib.hid (HH4.out.below hB5)
    have hB15 := Grf.bt hB14 hB5
    clear hown hB5 hB14 HG4 HH4 CLH
    rw [HML.out]
    go_wp2_with fail
    refine (CLG.out _ _ _ HG5.out).mono ?_; rintro e w6 ⟨ad6, cap6, rfl, hown, hB6⟩
    have HR56 := Lib.hid (HR5.out.below hB6)
    have HR6 := Lib.hid hown.rd.1
    have HG6 := Lib.hid (HG5.out.below hB6)
    have HH6 := Lib.hid (HH5.out.below hB6)
    have hB16 := Grf.bt hB15 hB6
    clear hown hB6 hB15 HG5 HH5 HR5
    rw [HML.out]
    go_wp2_with fail
    refine (CS.out _ _ _ _ _ HR56.out HR6.out).mono ?_; rintro e w7 ⟨rfl, hB7⟩
    have HG7 := Lib.hid (HG6.out.below hB7)
    have HH7 := Lib.hid (HH6.out.below hB7)
    have hB17 := Grf.bt hB16 hB7
    clear hB7 hB16 HG6 HH6 HR56 HR6 CS
    go_wp2_with fail
    refine (CLG.out _ _ _ HG7.out).mono ?_; rintro e w8 ⟨ad8, cap8, rfl, hown, hB8⟩
    have HG8 := Lib.hid (HG7.out.below hB8)
    have HH8 := Lib.hid (HH7.out.below hB8)
    have HB18 := Lib.hid (Grf.bt hB17 hB8)
    clear hown hB8 hB17 HG7 HH7 CLG
    rw [HML.out]
    go_wp2_with fail
    go_loop [9] (fun i => ∃ k : Nat, k ≤ n ∧ i = .int .i64 k) (fun i => n - (intOf i).toNat)
    case atStart => exact ⟨0, Nat.zero_le _, rfl⟩
    case round =>
      obtain ⟨k, hk2, rfl⟩ := hrel
      by_cases hlt : k < n
      · have C1 := Lib.hid (CNG.out g b (k : Int) w8 HG8.out)
        have C2 := Lib.hid (CNH.out g2 b2 (k : Int) w8 HH8.out)
        have HBT := Lib.hid (Grf.near_self HOK.out k)
        have hv := Grf.near_lt zs (k : Int)
        have hbt : (bits .and .u64 ((Grf.nearP zs (k : Int) : Int) / 2 ^ k) 1 == 1) = false := Grf.shr_bit hv HBT.out
        generalize Grf.nearP zs (k : Int) = v at *
        clear HBT
        go_wp2_with fail
        refine (C1.out).mono ?_; rintro e w' ⟨rfl, rfl⟩
        go_wp2_with fail
        refine (C2.out).mono ?_; rintro e w' ⟨rfl, rfl⟩
        go_wp2_with fail
        refine (C1.out).mono ?_; rintro e w' ⟨rfl, rfl⟩
        go_wp2_with fail
        go_round
        case rel => exact ⟨k + 1, by omega, by go_num⟩
        case measure => simp [intOf]; omega
      · obtain rfl : k = n := by omega
        go_wp2_with fail
        refine (C9.out _).mono ?_; rintro e w9 ⟨rfl, hB9⟩
        have HF := Lib.hid (Grf.bt HB18.out hB9)
        clear hB9
        go_wp2_with fail
        go_ret
        exact ⟨rfl, HF.out⟩

set_option maxRecDepth 100000 in
theorem lifted (os : Os) (started : os.Started) (H : Type) (enc : TypeId × Value → H) :
    ReturnsInHanded {} Try.checked os 7 .any (Rows.graphBackSpec.pre6 enc Try.prog Try.f7 Rows.graphBackRow.domain false) (Rows.graphBackSpec.post enc Try.prog Try.f7 false true false false) := by
  refine returnsInHanded_of_change (C := Try.checked) own started (by kernel_rfl) Try.func7
    (ChangeSpec.witness6 (enc := enc) (C := Try.checked) false ⟨#[], #[.int .i64 0, .slice none 0 0], []⟩ 8 (by kernel_rfl) (by kernel_rfl) (by kernel_rfl) (by kernel_rfl)) ?_
  intro W base args ds gs before hval0 hW hcnd _
  have hval : ∀ (j : Nat) t v, Try.f7.params[j]? = some t → args[j]? = some v → Value.okWide Try.prog W .any base t v := hval0
  have hW' := hW
  obtain ⟨p, q, hA0, hV, rfl, hfz, hnd⟩ := hW
  have hA : DataW.TrodAll enc Try.prog W 0 (fun _ => true) true Try.f7.params.toList args.toList ds p := hA0
  rw [Try.params7] at hA hval
  obtain ⟨v0, vs0, d0, ds0, p0, q0, hargs, rfl, rfl, h0, r0⟩ := trodAll_cons hA
  obtain ⟨v1, vs1, d1, ds1, p1, q1, rfl, rfl, rfl, h1, r1⟩ := trodAll_cons r0
  obtain ⟨rfl, rfl, rfl⟩ := trodAll_nil r1
  obtain rfl : args = #[v0, v1] := by cases args; simp_all
  obtain ⟨rfl, rfl⟩ := trodVars_none hV
  obtain ⟨a0, rfl, rfl, rfl, w0⟩ := open_int Try.underlying3 (hval 0 3 v0 rfl rfl) h0
  obtain ⟨a1, len1, cap1, rfl⟩ := okWide_slice Try.underlying22 (hval 1 22 v1 rfl rfl)
  have k1 := h1
  have lt1 : ∀ x ∈ p1, x.block < W.heap.size := by obtain ⟨m, hm⟩ := k1; exact DataW.trod_lt m _ _ _ hm
  obtain ⟨z1, w1⟩ : ∃ zs, Grf.Links W W.heap.size a1 len1 cap1 zs := by
    obtain ⟨fuel, hf⟩ := h1
    exact Grf.open_links rfl (by simpa [Value.cells] using hf)
  clear hA0 hval0
  refine (walk a0 a1 len1 cap1 z1 W w0 w1).mono fun e W' ⟨he, bel⟩ => ?_
  subst he
  exact ⟨_, rfl, _, _, _, [], _, [], hW', trodAll_mk1 (shut_bool Try.underlying4 _), (trodAll_cons_mk (shut_int Try.underlying3 w0) (trodAll_cons_mk (Below.trod laidOut (by kernel_rfl) (of_decide_eq_true (by kernel_rfl)) k1 bel lt1) trodAll_mk0)), rfl, bel.frame _, fun h => by cases h⟩

theorem over : Rows.graphBackRow.holds Try.pinned (OpenSpec.ofChange Rows.graphBackSpec) :=
  OpenClaim.holds_of_wide 7 Try.f7 rfl rfl rfl rfl rfl rfl rfl ⟨rfl, rfl, rfl, rfl, rfl⟩ rfl rfl rfl rfl rfl (by kernel_rfl) Try.func7 (by kernel_rfl)
    (of_decide_eq_true (by kernel_rfl)) (by unfold Func.isWrapper; first | (rw [if_pos (by decide +kernel)]; kernel_rfl) | (rw [if_neg (by decide +kernel)]; exact ⟨rfl, rfl⟩))
    (fun os started H enc _ => lifted os started H enc)

theorem proved : Rows.GraphBackSaid := over
#print axioms proved
end Go.Proofs.Ytlfkeonopdhoeaa.lawGraphBack
