/- With one link more no graph is less safe. -/
import Derived.Test.YtbgigimapogkcaaDoorRows
import Derived.Test.YtbgigimapogkcaaDoorTie
import Derived.Test.YtbgigimapogkcaaDoorCards
import Derived.SevenTiedAt
import Derived.LaidMore
import Derived.Stop.Joined
import Derived.WalkKit
import Derived.ProofKit
import Derived.OpenShut
import Derived.ShutString
import Derived.ChangeOld
import Derived.Below
import Derived.Test.YtbgigimapogkcaaDoorCutK
import Derived.Test.YtbgigimapogkcaaDoorReaQ
import Derived.Test.YtbgigimapogkcaaDoorQuiB
import Derived.Test.YtbgigimapogkcaaDoorGrfX
namespace Go.Proofs.YtbgigimapogkcaaDoor.lawCutMore
open Go.ChangeShapes Go.WideShapes Go.ChangeAt Go.RowKit
open Go.ChangeMaps (open_string shut_string)
set_option linter.unusedVariables false

theorem own : ownKnob Tryd.prog.godebug = none := by kernel_rfl
theorem laidOut : laidOutB Tryd.prog = true := by kernel_rfl

/-! The walk: the Go text returns true and writes nothing that was there. -/
set_option linter.unusedSimpArgs false in
set_option maxRecDepth 100000 in
set_option maxHeartbeats 4000000 in
theorem walk (a0 : Rea.Wd) (a1 : Int) (a2 : Int) (w : World) (w0 : Rea.OkW w a0) (w1 : (Lit.int .u8 a1).wf = true) (w2 : (Lit.int .u8 a2).wf = true) (hT : Nodes.Tabs w) :
    Calls Tryd.prog 7 #[Rea.wval a0, .int .u8 a1, .int .u8 a2] w fun e w' => e = .returned (.bool true) ∧ Below w.heap.size w w' := by
  obtain ⟨l1, u1⟩ := bounds_u8 w1
  obtain ⟨A, rfl⟩ := Int.eq_ofNat_of_zero_le l1
  have hA : A < 256 := by omega
  have HA := Lib.hid hA
  obtain ⟨l2, u2⟩ := bounds_u8 w2
  obtain ⟨B, rfl⟩ := Int.eq_ofNat_of_zero_le l2
  have hB : B < 256 := by omega
  have HB := Lib.hid hB
  have CX := Lib.hid (fun W => Cut.few_any a0 W)
  obtain ⟨n, L, HN, HOK, HLL, CM⟩ := Rea.mk_anyC (Cut.fewW a0) w (Cut.few_ok w0)
  have HT := Lib.hid hT
  obtain ⟨hn1, hn10⟩ := HN.out
  have hn64 : n ≤ 64 := by omega
  have hll := HLL.out
  clear hT w0
  generalize Cut.fewW a0 = aw at *
  unfold Rea.wval at *
  unfold Rea.MadePostC at CM
  go_enter Tryd.func7, Tryd.ntmps7
  go_wp2_with fail
  refine (CX.out _).mono ?_; rintro e w1 ⟨rfl, hB1⟩
  have hB01 : Below w.heap.size w w1 := ((Below.refl _ _).alloc (Nat.le_refl _) (.cells #[.int .i64 a0.num, .slice a0.ad a0.len a0.cap] 24)).trans (hB1.mono (by simp))
  go_wp2_with fail
  refine (CM.out _ hB01).mono ?_; rintro e w2 ⟨g, b, ad, cap, rfl, hG, hR, hB2, hcap⟩
  have hB02 : Below w.heap.size w w2 := hB01.trans (hB2.mono hB01.size)
  clear hB1 hB01 CX
  unfold Grf.gval
  obtain ⟨w3, hw3⟩ : ∃ w3, Hid (w3 = w2.alloc (.cells #[.int .i64 (n : Int), .slice ad L.length cap] 27)) := ⟨_, Lib.hid rfl⟩
  obtain ⟨hB3, hs3, hb3⟩ := Grf.gbox w2 w3 (n : Int) _ hw3.out
  have HB := Lib.hid (hB02.trans (hB3.mono hB02.size))
  have HX : Hid (∀ W, Below w3.heap.size w3 W → Rea.GP W (some ⟨g, 0, none⟩) n L ∧ Grf.RdG W ad L ∧ Nodes.Tabs W ∧ Below w.heap.size w W ∧ W.cell? ⟨w2.heap.size, 0, none⟩ = some (.int .i64 (n : Int)) ∧ W.cell? ⟨w2.heap.size, 1, none⟩ = some (.slice ad L.length cap)) := Lib.hid (fun W hW =>
    have hBW := HB.out.trans (hW.mono HB.out.size)
    ⟨.inr ⟨g, b, rfl, (hG.below hB3).below hW⟩, (hR.below hB3).below hW, HT.out.below hBW, hBW, (hb3.below hW).cell 0, (hb3.below hW).cell 1⟩)
  obtain ⟨-, -, -, -, c0, c1⟩ := HX.out w3 (Below.refl _ _)
  clear hG hR hB2 hB02 hB3 hs3 hb3 CM
  go_upto_region 2 with fail
  rw [← hw3.out]
  clear hw3
  have HCAP := Lib.hid hcap
  clear hcap
  obtain ⟨x, hx1⟩ : ∃ x : Nat, (A : Int) % (n : Int) = (x : Int) := ⟨A % n, by omega⟩
  obtain ⟨y, hy1⟩ : ∃ y : Nat, (B : Int) % (n : Int) = (y : Int) := ⟨B % n, by omega⟩
  have hxn : x < n := by have := Int.emod_lt_of_pos (A : Int) (show (0 : Int) < (n : Int) by omega); omega
  have hyn : y < n := by have := Int.emod_lt_of_pos (B : Int) (show (0 : Int) < (n : Int) by omega); omega
  have hx2 : (A : Int).tmod (n : Int) = (x : Int) := by rw [Int.tmod_eq_emod_of_nonneg (by omega)]; exact hx1
  have hy2 : (B : Int).tmod (n : Int) = (y : Int) := by rw [Int.tmod_eq_emod_of_nonneg (by omega)]; exact hy1
  have hn0 : ((n : Int) == 0) = false := by rw [beq_eq_false_iff_ne]; omega
  have hn0' : (n : Int) ≠ 0 := by omega
  have CK := Lib.hid (fun W hW => Grf.rlinked_any (n : Int) ad L.length cap L (x : Int) (y : Int) W rfl (by omega) (HX.out W hW).2.1)
  have CW := Lib.hid (fun W hW => Cut.works18_any W (HX.out W hW).2.2.1)
  have CS := Lib.hid (fun W hW => Cut.strength_any (some ⟨g, 0, none⟩) n L W (HX.out W hW).1 (HX.out W hW).2.2.1)
  have CS2 := Lib.hid (fun p W (hg : Rea.GP W p n (L ++ [((x : Int), (y : Int))])) hW => Cut.strength_any p n (L ++ [((x : Int), (y : Int))]) W hg (HX.out W hW).2.2.1)
  have HC := Lib.hid (fun W hW => (HX.out W hW).2)
  unfold Grf.gval at CK
  clear HX
  go_wp2_with fail
  go_quiet (fail)
  have HBQ : Hid (Below w3.heap.size w3 (w3.drewN nq)) := Lib.hid (Own.below_drewN (Below.refl _ w3) nq)
  clear c0 c1 hx1 hy1 hx2 hy2 hn0 hn0'
  obtain ⟨wq, hwq⟩ : ∃ wq, wq = w3.drewN nq := ⟨_, rfl⟩
  rw [← hwq] at HBQ ⊢
  clear hwq
  obtain ⟨-, -, -, c0, c1⟩ := HC.out _ HBQ.out
  by_cases hxy : x = y
  · subst hxy
    have hxx : (((x : Nat) : Int) == ((x : Nat) : Int)) = true := beq_iff_eq.2 rfl
    go_wp2_with fail
    refine (CW.out _ HBQ.out).mono ?_; rintro e w5 ⟨rfl, hB5⟩
    have HF := Lib.hid (HC.out _ (HBQ.out.trans (hB5.mono HBQ.out.size))).2.2.1
    go_wp2_with fail
    go_ret
    exact ⟨rfl, HF.out⟩
  · have hxx : (((x : Nat) : Int) == ((y : Nat) : Int)) = false := by rw [beq_eq_false_iff_ne]; omega
    cases hlk : Grf.lk L (x : Int) (y : Int) with
    | true =>
      rw [hlk] at CK
      clear hlk hxy
      go_wp2_with fail
      refine (CK.out _ HBQ.out).mono ?_; rintro e w5 ⟨rfl, hB5⟩
      have HB5 := Lib.hid (HBQ.out.trans (hB5.mono HBQ.out.size))
      clear hB5
      go_wp2_with fail
      refine (CW.out _ HB5.out).mono ?_; rintro e w6 ⟨rfl, hB6⟩
      have HF := Lib.hid (HC.out _ (HB5.out.trans (hB6.mono HB5.out.size))).2.2.1
      go_wp2_with fail
      go_ret
      exact ⟨rfl, HF.out⟩
    | false =>
      rw [hlk] at CK
      have HWR : Hid (Grf.wr n L (x : Int) (y : Int) = 0) := Lib.hid (Grf.wr_zero.2 ⟨by omega, by omega, by omega, by omega, by omega, hlk⟩)
      have HOK2 : Hid (Grf.Ok n (L ++ [((x : Int), (y : Int))])) := Lib.hid (Grf.ok_snoc (p := ((x : Int), (y : Int))) HOK.out HWR.out)
      have HER : Hid (Grf.erF n [] (L ++ [((x : Int), (y : Int))]) = 0) := Lib.hid (Grf.ok_er (by simpa using HOK2.out))
      have HST : Hid (Cut.strP n L ≤ Cut.strP n (L ++ [((x : Int), (y : Int))])) := Lib.hid (Cut.str_mono hn64 (Cut.lk_more _))
      have HHN : Hid (Nodes.hasN (Grf.nearP (L ++ [((x : Int), (y : Int))]) (x : Int)) (y : Int) = true) := Lib.hid (by
        rw [Nodes.has_nat _ _ (Grf.near_lt _ _)]
        unfold Grf.nearP
        rw [Nodes.bit_setP, Grf.lk_snoc]
        simp
        omega)
      clear hlk hxy
      go_wp2_with fail
      refine (CK.out _ HBQ.out).mono ?_; rintro e w5 ⟨rfl, hB5⟩
      have HB5 := Lib.hid (HBQ.out.trans (hB5.mono HBQ.out.size))
      clear hB5 CK c0 c1
      obtain ⟨hRd, -, -, c0, c1⟩ := HC.out _ HB5.out
      obtain ⟨i0, hi, hz0, hz1, hz2⟩ := info_parts Grf.infoPr
      have hB0 : Below w5.heap.size w5 (w5.alloc (.cells #[] 55)) := (Below.refl _ _).alloc (Nat.le_refl _) _
      have hown0 : Grf.OwnG (w5.alloc (.cells #[] 55)) w5.heap.size (.slice (some ⟨w5.heap.size, 0, none⟩) 0 0) [] := Grf.OwnG.lit0 w5
      have HE := Lib.hid (show (L.flatMap Grf.enc).length = L.length * 2 from Rw.flat_len Grf.enc_len L)
      have HCS : Hid (∀ a', ad = some a' → ∀ j u, (L.flatMap Grf.enc)[j]? = some u → (w5.alloc (.cells #[] 55)).cell? (a'.add j) = some u) := Lib.hid (Grf.rd_cells (Grf.RdG.below hRd hB0))
      have hl0 : ad = none → L.length = 0 := fun h => by
        rcases Nat.eq_zero_or_pos L.length with h' | h'
        · exact h'
        · obtain ⟨b', off, e', -⟩ := Grf.rd_at hRd (i := 0) h'
          rw [h] at e'
          cases e'
      have HNN : Hid (ad = none → L.length = 0 ∧ cap = 0) := Lib.hid (fun h => ⟨hl0 h, HCAP.out h⟩)
      obtain ⟨-, -, -, -, d1⟩ := HC.out _ (HB5.out.trans (hB0.mono HB5.out.size))
      have H1 := Lib.hid (Grf.flat_one L)
      clear hRd hl0
      have HG6 := Lib.hid (fun v6 w6 (hown' : w6.ownsRow w5.heap.size 55 2 v6 (0 + L.length) ([] ++ L.flatMap Grf.enc)) (hgrow : (w5.alloc (.cells #[] 55)).grownBy w6 (Value.slice (some ⟨w5.heap.size, 0, none⟩) 0 0).ownBlock) => show Grf.OwnG w6 w5.heap.size v6 L ∧ Below w5.heap.size w5 w6 from ⟨by
        rw [Nat.zero_add, List.nil_append] at hown'
        exact hown', hB0.grown hgrow (by simp) (fun k e => by cases e; exact Nat.le_refl _)⟩)
      have HLN : Hid ((L ++ [((x : Int), (y : Int))]).length = L.length + 1) := Lib.hid (by rw [List.length_append]; rfl)
      have hll2 : L.length < 1099511627776 := by omega
      go_wp2_with (first
        | (at_builtin; refine Own.wpList_append2_any _ rfl _ _ 22 rfl w5.heap.size 55 i0 (.agg #[.int .i64 0, .int .i64 0]) 2 16 Tryd.underlying22 hi hz0 hz1 hz2 rfl (by decide) (.slice (some ⟨w5.heap.size, 0, none⟩) 0 0) 0 [] rfl hown0 ad L.length cap (L.flatMap Grf.enc) rfl HE.out HNN.out HCS.out H1.out (by unfold maxLen; omega) (by omega) (by simp) ?_; intro v6 w6 hown' hgrow _; obtain ⟨hown6, hB6⟩ := HG6.out v6 w6 hown' hgrow; have HB6 := Lib.hid (HB5.out.trans (hB6.mono HB5.out.size)); have hbase := hB6.size; clear hown' hgrow hB0 hown0 HE HCS HNN H1 d1 c0 c1 hB6 HG6)
        | (at_builtin; refine Grf.app_one rfl _ _ rfl w5.heap.size _ _ rfl hown6 (x : Int) (y : Int) rfl hll2 hbase ?_; intro v7 w7 hown7 hB7 _; obtain ⟨ad7, cap7, rfl⟩ := hown7.shape; have HB7 := Lib.hid (HB6.out.trans (hB7.mono HB5.out.size)); obtain ⟨-, -, -, c0, c1⟩ := HC.out _ HB7.out))
      have hlm : (L ++ [((x : Int), (y : Int))]).length < 9223372036854775807 := by rw [HLN.out]; omega
      have CN := Lib.hid (Grf.new_in n hn1 hn64 ad7 _ cap7 _ rfl hlm (Rea.ok_in HOK2.out hn64) w7 hown7.rd.1)
      rw [HLN.out] at CN
      clear hown7 hB7 hown6 hbase hlm
      refine (CN.out).mono ?_; rintro e w8 ⟨hp, -, hB8⟩
      obtain ⟨gk, bk, rfl, hGk, -, -⟩ := hp HER.out
      have HG8 : Hid (Rea.GP w8 (some ⟨gk, 0, none⟩) n (L ++ [((x : Int), (y : Int))])) := Lib.hid (.inr ⟨gk, bk, rfl, hGk⟩)
      have HB8 := Lib.hid (HB7.out.trans (hB8.mono HB7.out.size))
      clear hp hGk hB8 CN c0 c1
      have CA := Lib.hid (CS2.out _ w8 HG8.out HB8.out)
      have HNE := Lib.hid (Grf.near_lt (L ++ [((x : Int), (y : Int))]) (x : Int))
      have CNR := Lib.hid (fun W hg => Rea.gpnear_any (some ⟨gk, 0, none⟩) n (L ++ [((x : Int), (y : Int))]) (x : Int) W hg)
      have CHA := Lib.hid (fun W => Nodes.rhas_any _ HNE.out (y : Int) W)
      rw [HHN.out] at CHA
      generalize Grf.nearP (L ++ [((x : Int), (y : Int))]) (x : Int) = np at *
      generalize L ++ [((x : Int), (y : Int))] = L2 at *
      have hge : Cut.strP n L ≤ Cut.strP n L2 := HST.out
      clear HST HHN CS2 HWR HOK2 HER
      generalize Cut.strP n L2 = s2 at *
      generalize Cut.strP n L = s1 at *
      go_wp2_with fail
      refine (CA.out).mono ?_; rintro e w9 ⟨rfl, hB9⟩
      have HG9 := Lib.hid (HG8.out.below hB9)
      have HB9 := Lib.hid (HB8.out.trans (hB9.mono HB8.out.size))
      clear hB9 CA
      go_wp2_with fail
      refine (CS.out _ HB9.out).mono ?_; rintro e w10 ⟨rfl, hB10⟩
      have HG10 := Lib.hid (HG9.out.below hB10)
      have HB10 := Lib.hid (HB9.out.trans (hB10.mono HB9.out.size))
      clear hB10 CS
      go_wp2_with fail
      refine (CNR.out _ HG10.out).mono ?_; rintro e w' ⟨rfl, rfl⟩
      go_wp2_with fail
      refine (CHA.out _).mono ?_; rintro e w' ⟨rfl, rfl⟩
      go_wp2_with fail
      refine (CW.out _ HB10.out).mono ?_; rintro e w11 ⟨rfl, hB11⟩
      have HF := Lib.hid (HC.out _ (HB10.out.trans (hB11.mono HB10.out.size))).2.2.1
      go_wp2_with fail
      go_ret
      exact ⟨rfl, HF.out⟩

set_option maxRecDepth 100000 in
theorem lifted (os : Os) (started : os.Started) (H : Type) (enc : TypeId × Value → H) :
    ReturnsInHanded {} Tryd.checked os 7 .any (fun w args => (Rows.cutMoreSpec.pre enc Tryd.prog Tryd.f7 [] false w args ∧ laidMetH Tryd.prog Cut.laidL w) ∧ sizedMet enc Tryd.prog Tryd.f7 (OpenSpec.ofChange Rows.cutMoreSpec) false w args) (Rows.cutMoreSpec.post enc Tryd.prog Tryd.f7 false true false false) := by
  refine returnsInHanded_of_change_and (C := Tryd.checked) (X := fun w _ => laidMetH Tryd.prog Cut.laidL w) (fun _ _ _ hh h => h.of_heap hh) own started (by kernel_rfl) Tryd.func7
    (ChangeSpec.witness_shaped (enc := enc) (C := Tryd.checked) (os := os) (X := fun w _ => laidMetH Tryd.prog Cut.laidL w) false (World.doorLaid Tryd.prog 14 os) #[.agg #[.int .i64 0, .slice none 0 0], .int .u8 0, .int .u8 0] 8 rfl (World.shaped_of_RefB (by kernel_rfl) (by kernel_rfl)) (by kernel_rfl) (by kernel_rfl) (by kernel_rfl) (Cut.door_met os _)) ?_
  intro W base args ds gs before hval0 hW _ _ hL _
  have hval : ∀ (j : Nat) t v, Tryd.f7.params[j]? = some t → args[j]? = some v → Value.okWide Tryd.prog W .any base t v := hval0
  have hW' := hW
  obtain ⟨p, q, hA0, hV, rfl, hfz, hnd⟩ := hW
  have hA : DataW.TrodAll enc Tryd.prog W 0 (fun _ => true) true Tryd.f7.params.toList args.toList ds p := hA0
  rw [Tryd.params7] at hA hval
  obtain ⟨v0, vs0, d0, ds0, p0, q0, hargs, rfl, rfl, h0, r0⟩ := trodAll_cons hA
  obtain ⟨v1, vs1, d1, ds1, p1, q1, rfl, rfl, rfl, h1, r1⟩ := trodAll_cons r0
  obtain ⟨v2, vs2, d2, ds2, p2, q2, rfl, rfl, rfl, h2, r2⟩ := trodAll_cons r1
  obtain ⟨rfl, rfl, rfl⟩ := trodAll_nil r2
  obtain rfl : args = #[v0, v1, v2] := by cases args; simp_all
  obtain ⟨rfl, rfl⟩ := trodVars_none hV
  have k0 := h0
  have lt0 : ∀ x ∈ p0, x.block < W.heap.size := by obtain ⟨m, hm⟩ := k0; exact DataW.trod_lt m _ _ _ hm
  obtain ⟨a0, rfl, w0⟩ := Rea.open_world (hval 0 24 v0 rfl rfl) h0
  obtain ⟨a1, rfl, rfl, rfl, w1⟩ := open_int Tryd.underlying5 (hval 1 5 v1 rfl rfl) h1
  obtain ⟨a2, rfl, rfl, rfl, w2⟩ := open_int Tryd.underlying5 (hval 2 5 v2 rfl rfl) h2
  clear hA0 hval0
  have hT := Cut.tabs_of_laid hL
  refine (walk a0 a1 a2 W w0 w1 w2 hT).mono fun e W' ⟨he, bel⟩ => ?_
  subst he
  exact ⟨_, rfl, _, _, _, [], _, [], hW', trodAll_mk1 (shut_bool Tryd.underlying4 _), (trodAll_cons_mk (Below.trod laidOut (by kernel_rfl) (of_decide_eq_true (by kernel_rfl)) k0 bel lt0) (trodAll_cons_mk (shut_int Tryd.underlying5 w1) (trodAll_cons_mk (shut_int Tryd.underlying5 w2) trodAll_mk0))), rfl, bel.frame _, fun h => by cases h⟩

theorem over : Rows.cutMoreRow.holds Tryd.pinned (OpenSpec.ofChange Rows.cutMoreSpec) :=
  OpenClaim.holds_of_wide 7 Tryd.f7 rfl rfl rfl rfl rfl rfl rfl ⟨rfl, rfl, rfl, rfl, rfl⟩ rfl rfl rfl rfl rfl (by kernel_rfl) Tryd.func7 (by kernel_rfl)
    (of_decide_eq_true (by kernel_rfl)) (by unfold Func.isWrapper; first | (rw [if_pos (by decide +kernel)]; kernel_rfl) | (rw [if_neg (by decide +kernel)]; exact ⟨rfl, rfl⟩))
    (fun os started H enc _ => lifted os started H enc)

theorem func_is {f : FuncId} (h : Tryd.prog.funcNamed Rows.cutMoreRow.func = some f) : f = 7 :=
  Option.some.inj (h.symm.trans (show Tryd.prog.funcNamed Rows.cutMoreRow.func = some 7 by kernel_rfl))
theorem proved : Rows.CutMoreCardSaid :=
  Claim7.holds_tied_plain_at .later [] Rows.cutMoreCard.laidKinds true Rows.cutMoreCard.stood.harness false
    over (fun _ h => by cases h) (by kernel_rfl) (fun _ h => by cases h) cutMore_row_tie rfl ⟨rfl, rfl⟩ (by kernel_rfl) rfl
    (fun f fn hf hfn => by
      obtain rfl := func_is hf
      obtain rfl : fn = Tryd.f7 := (Option.some.inj (Tryd.func7.symm.trans hfn)).symm
      exact ⟨by kernel_rfl, fun j t ht => by
        rw [Tryd.params7] at ht
        have hm : t ∈ [24, 5, 5] := by simpa using Array.mem_of_getElem? ht
        have hall : ([24, 5, 5].all fun u => !Tryd.prog.wantsStandIn u) = true := by kernel_rfl
        exact (show Tryd.prog.wantsStandIn t = false by simpa using List.all_eq_true.1 hall t hm)⟩)
    (by kernel_rfl)
#print axioms proved
end Go.Proofs.YtbgigimapogkcaaDoor.lawCutMore
