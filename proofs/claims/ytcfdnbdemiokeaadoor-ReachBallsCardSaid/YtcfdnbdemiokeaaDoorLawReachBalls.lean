/- Which nodes of any graph are near any one is as the document says. -/
import Derived.Test.YtcfdnbdemiokeaaDoorRows
import Derived.Test.YtcfdnbdemiokeaaDoorTie
import Derived.Test.YtcfdnbdemiokeaaDoorCards
import Derived.SevenTiedAt
import Derived.LaidMore
import Derived.Stop.Joined
import Derived.WalkKit
import Derived.ProofKit
import Derived.OpenShut
import Derived.ShutString
import Derived.ChangeOld
import Derived.Below
import Derived.Test.YtcfdnbdemiokeaaDoorReaJ
namespace Go.Proofs.YtcfdnbdemiokeaaDoor.lawReachBalls
open Go.ChangeShapes Go.WideShapes Go.ChangeAt Go.RowKit
open Go.ChangeMaps (open_string shut_string)
set_option linter.unusedVariables false

theorem own : ownKnob Tryd.prog.godebug = none := by kernel_rfl
theorem laidOut : laidOutB Tryd.prog = true := by kernel_rfl

/-! The walk: the Go text returns true and writes nothing that was there. -/
set_option linter.unusedSimpArgs false in
set_option maxRecDepth 100000 in
set_option maxHeartbeats 4000000 in
theorem walk (a0 : Rea.Wd) (a1 : Int) (a2 : Int) (w : World) (w0 : Rea.OkW w a0) (w1 : (Lit.int .i64 a1).wf = true) (w2 : (Lit.int .i64 a2).wf = true) (hT : Nodes.Tabs w) :
    Calls Tryd.prog 5 #[Rea.wval a0, .int .i64 a1, .int .i64 a2] w fun e w' => e = .returned (.bool true) ∧ Below w.heap.size w w' := by
  obtain ⟨l1, u1⟩ := bounds_i64 w1
  obtain ⟨l2, u2⟩ := bounds_i64 w2
  obtain ⟨n, L, HN, HOK, HLL, CM⟩ := Rea.mk_any a0 w w0
  have HT := Lib.hid hT
  obtain ⟨hn1, hn10⟩ := HN.out
  have hn64 : n ≤ 64 := by omega
  have hll := HLL.out
  clear hT w0
  unfold Rea.wval at *
  unfold Rea.MadePost at CM
  go_enter Tryd.func5, Tryd.ntmps5
  go_wp2_with fail
  refine (CM.out _ ((Below.refl _ _).alloc (Nat.le_refl _) _)).mono ?_; rintro e w2 ⟨g, b, ad, cap, rfl, hG, hR, hB2⟩
  have hB02 : Below w.heap.size w w2 := ((Below.refl _ _).alloc (Nat.le_refl _) (.cells #[.int .i64 a0.num, .slice a0.ad a0.len a0.cap] 24)).trans (hB2.mono (by simp))
  unfold Grf.gval
  obtain ⟨w3, hw3⟩ : ∃ w3, Hid (w3 = w2.alloc (.cells #[.int .i64 (n : Int), .slice ad L.length cap] 27)) := ⟨_, Lib.hid rfl⟩
  obtain ⟨hB3, hs3, hb3⟩ := Grf.gbox w2 w3 (n : Int) _ hw3.out
  have HB := Lib.hid (hB02.trans (hB3.mono hB02.size))
  have HX : Hid (∀ W, Below w3.heap.size w3 W → Rea.GP W (some ⟨g, 0, none⟩) n L ∧ Grf.RdG W ad L ∧ Nodes.Tabs W ∧ Below w.heap.size w W ∧ W.cell? ⟨w2.heap.size, 0, none⟩ = some (.int .i64 (n : Int)) ∧ W.cell? ⟨w2.heap.size, 1, none⟩ = some (.slice ad L.length cap)) := Lib.hid (fun W hW =>
    have hBW := HB.out.trans (hW.mono HB.out.size)
    ⟨.inr ⟨g, b, rfl, (hG.below hB3).below hW⟩, (hR.below hB3).below hW, HT.out.below hBW, hBW, (hb3.below hW).cell 0, (hb3.below hW).cell 1⟩)
  obtain ⟨-, -, -, -, c0, c1⟩ := HX.out w3 (Below.refl _ _)
  clear hG hR hB2 hB02 hB3 hs3 hb3 CM
  go_upto_region 3 with fail
  rw [← hw3.out]
  clear hw3
  have CD := Lib.hid (fun W hW => Rea.rdist_any n hn64 ad L.length cap L a1 8 (by omega) W rfl (by omega) (HX.out W hW).2.1)
  have CA := Lib.hid (fun W hW => Rea.ball_any (some ⟨g, 0, none⟩) n L a1 (n : Int) 8 (by omega) W (HX.out W hW).1 (HX.out W hW).2.2.1)
  have CP := Lib.hid (fun W hW => Rea.ball_any (some ⟨g, 0, none⟩) n L a1 a2 8 (by omega) W (HX.out W hW).1 (HX.out W hW).2.2.1)
  have CF := Lib.hid (fun W hW => Rea.from_any (some ⟨g, 0, none⟩) n L a1 8 (by omega) W (HX.out W hW).1 (HX.out W hW).2.2.1)
  have CB := Lib.hid (fun ad2 cap2 W (h : Nodes.Rd W ad2 (Rea.dstL n 8 L (Rea.src a1))) => Rea.rball_any ad2 n cap2 (Rea.dstL n 8 L (Rea.src a1)) a2 false W Rea.dst_len hn64 h)
  rw [Rea.pick_of hn64, if_neg (by simp)] at CB
  rw [Rea.ball_from (Int.le_refl _)] at CA
  have CW := Lib.hid (fun W hW => Rea.works17_any W (HX.out W hW).2.2.1)
  have HDL := Lib.hid (Rea.dst_len (n := n) (S := 8) (L := L) (i := Rea.src a1))
  have HF := Lib.hid (fun W hW => (HX.out W hW).2.2.2.1)
  have HC := Lib.hid (fun W hW => (HX.out W hW).2.2.2.2)
  generalize Rea.dstL n 8 L (Rea.src a1) = D at *
  generalize Rea.fromN n 8 L (Rea.src a1) = fn at *
  generalize Rea.ballN n 8 L (Rea.src a1) a2 = bn at *
  have hff : ((fn : Int) == (fn : Int)) = true := beq_iff_eq.2 rfl
  have hbb : ((bn : Int) == (bn : Int)) = true := beq_iff_eq.2 rfl
  unfold Grf.gval at CD
  unfold Nodes.ListPost at CD
  rw [HDL.out] at CD
  clear HX
  go_wp2_with fail
  refine (CD.out _ (Below.refl _ _)).mono ?_; rintro e w4 ⟨ad4, cap4, rfl, hown4, hB4⟩
  have HR4 := Lib.hid (Nodes.OwnL.rd hown4).1
  have HB4 := Lib.hid hB4
  clear hown4 hB4 CD c0 c1
  obtain ⟨c0, c1⟩ := HC.out _ HB4.out
  go_wp2_with fail
  refine (CA.out _ HB4.out).mono ?_; rintro e w5 ⟨rfl, hB5⟩
  have HR5 := Lib.hid (HR4.out.below hB5)
  have HB5 := Lib.hid (HB4.out.trans (hB5.mono HB4.out.size))
  clear hB5 CA HB4 HR4 c0 c1
  go_wp2_with fail
  refine (CP.out _ HB5.out).mono ?_; rintro e w6 ⟨rfl, hB6⟩
  have HR6 := Lib.hid (HR5.out.below hB6)
  have HB6 := Lib.hid (HB5.out.trans (hB6.mono HB5.out.size))
  clear CP hB6 HB5 HR5
  go_wp2_with fail
  refine (CB.out _ _ _ HR6.out).mono ?_; rintro e w7 ⟨rfl, hB7⟩
  have HB7 := Lib.hid (HB6.out.trans (hB7.mono HB6.out.size))
  clear CB hB7 HB6 HR6
  go_wp2_with fail
  refine (CF.out _ HB7.out).mono ?_; rintro e w8 ⟨rfl, hB8⟩
  have HB8 := Lib.hid (HB7.out.trans (hB8.mono HB7.out.size))
  clear CF hB8 HB7
  go_wp2_with fail
  refine (CW.out _ HB8.out).mono ?_; rintro e w9 ⟨rfl, hB9⟩
  have HB9 := Lib.hid (HB8.out.trans (hB9.mono HB8.out.size))
  clear CW hB9 HB8
  go_wp2_with fail
  go_ret
  exact ⟨rfl, HF.out _ HB9.out⟩

set_option maxRecDepth 100000 in
theorem lifted (os : Os) (started : os.Started) (H : Type) (enc : TypeId × Value → H) :
    ReturnsInHanded {} Tryd.checked os 5 .any (fun w args => (Rows.reachBallsSpec.pre enc Tryd.prog Tryd.f5 [] false w args ∧ laidMetH Tryd.prog Rea.laidL w) ∧ sizedMet enc Tryd.prog Tryd.f5 (OpenSpec.ofChange Rows.reachBallsSpec) false w args) (Rows.reachBallsSpec.post enc Tryd.prog Tryd.f5 false true false false) := by
  refine returnsInHanded_of_change_and (C := Tryd.checked) (X := fun w _ => laidMetH Tryd.prog Rea.laidL w) (fun _ _ _ hh h => h.of_heap hh) own started (by kernel_rfl) Tryd.func5
    (ChangeSpec.witness_shaped (enc := enc) (C := Tryd.checked) (os := os) (X := fun w _ => laidMetH Tryd.prog Rea.laidL w) false (World.doorLaid Tryd.prog 14 os) #[.agg #[.int .i64 0, .slice none 0 0], .int .i64 0, .int .i64 0] 8 rfl (World.shaped_of_RefB (by kernel_rfl) (by kernel_rfl)) (by kernel_rfl) (by kernel_rfl) (by kernel_rfl) (Rea.door_met os _)) ?_
  intro W base args ds gs before hval0 hW _ _ hL _
  have hval : ∀ (j : Nat) t v, Tryd.f5.params[j]? = some t → args[j]? = some v → Value.okWide Tryd.prog W .any base t v := hval0
  have hW' := hW
  obtain ⟨p, q, hA0, hV, rfl, hfz, hnd⟩ := hW
  have hA : DataW.TrodAll enc Tryd.prog W 0 (fun _ => true) true Tryd.f5.params.toList args.toList ds p := hA0
  rw [Tryd.params5] at hA hval
  obtain ⟨v0, vs0, d0, ds0, p0, q0, hargs, rfl, rfl, h0, r0⟩ := trodAll_cons hA
  obtain ⟨v1, vs1, d1, ds1, p1, q1, rfl, rfl, rfl, h1, r1⟩ := trodAll_cons r0
  obtain ⟨v2, vs2, d2, ds2, p2, q2, rfl, rfl, rfl, h2, r2⟩ := trodAll_cons r1
  obtain ⟨rfl, rfl, rfl⟩ := trodAll_nil r2
  obtain rfl : args = #[v0, v1, v2] := by cases args; simp_all
  obtain ⟨rfl, rfl⟩ := trodVars_none hV
  have k0 := h0
  have lt0 : ∀ x ∈ p0, x.block < W.heap.size := by obtain ⟨m, hm⟩ := k0; exact DataW.trod_lt m _ _ _ hm
  obtain ⟨a0, rfl, w0⟩ := Rea.open_world (hval 0 24 v0 rfl rfl) h0
  obtain ⟨a1, rfl, rfl, rfl, w1⟩ := open_int Tryd.underlying3 (hval 1 3 v1 rfl rfl) h1
  obtain ⟨a2, rfl, rfl, rfl, w2⟩ := open_int Tryd.underlying3 (hval 2 3 v2 rfl rfl) h2
  clear hA0 hval0
  have hT := Rea.tabs_of_laid hL
  refine (walk a0 a1 a2 W w0 w1 w2 hT).mono fun e W' ⟨he, bel⟩ => ?_
  subst he
  exact ⟨_, rfl, _, _, _, [], _, [], hW', trodAll_mk1 (shut_bool Tryd.underlying4 _), (trodAll_cons_mk (Below.trod laidOut (by kernel_rfl) (of_decide_eq_true (by kernel_rfl)) k0 bel lt0) (trodAll_cons_mk (shut_int Tryd.underlying3 w1) (trodAll_cons_mk (shut_int Tryd.underlying3 w2) trodAll_mk0))), rfl, bel.frame _, fun h => by cases h⟩

theorem over : Rows.reachBallsRow.holds Tryd.pinned (OpenSpec.ofChange Rows.reachBallsSpec) :=
  OpenClaim.holds_of_wide 5 Tryd.f5 rfl rfl rfl rfl rfl rfl rfl ⟨rfl, rfl, rfl, rfl, rfl⟩ rfl rfl rfl rfl rfl (by kernel_rfl) Tryd.func5 (by kernel_rfl)
    (of_decide_eq_true (by kernel_rfl)) (by unfold Func.isWrapper; first | (rw [if_pos (by decide +kernel)]; kernel_rfl) | (rw [if_neg (by decide +kernel)]; exact ⟨rfl, rfl⟩))
    (fun os started H enc _ => lifted os started H enc)

theorem func_is {f : FuncId} (h : Tryd.prog.funcNamed Rows.reachBallsRow.func = some f) : f = 5 :=
  Option.some.inj (h.symm.trans (show Tryd.prog.funcNamed Rows.reachBallsRow.func = some 5 by kernel_rfl))
theorem proved : Rows.ReachBallsCardSaid :=
  Claim7.holds_tied_plain_at .later [] Rows.reachBallsCard.laidKinds true Rows.reachBallsCard.stood.harness false
    over (fun _ h => by cases h) (by kernel_rfl) (fun _ h => by cases h) reachBalls_row_tie rfl ⟨rfl, rfl⟩ (by kernel_rfl) rfl
    (fun f fn hf hfn => by
      obtain rfl := func_is hf
      obtain rfl : fn = Tryd.f5 := (Option.some.inj (Tryd.func5.symm.trans hfn)).symm
      exact ⟨by kernel_rfl, fun j t ht => by
        rw [Tryd.params5] at ht
        have hm : t ∈ [24, 3, 3] := by simpa using Array.mem_of_getElem? ht
        have hall : ([24, 3, 3].all fun u => !Tryd.prog.wantsStandIn u) = true := by kernel_rfl
        exact (show Tryd.prog.wantsStandIn t = false by simpa using List.all_eq_true.1 hall t hm)⟩)
    (by kernel_rfl)
#print axioms proved
end Go.Proofs.YtcfdnbdemiokeaaDoor.lawReachBalls
