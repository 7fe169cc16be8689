/- In which bits any bytes differ, and whether that is a burst, is as the document says. -/
import Derived.Test.YtpibmppolnfckaaDoorRows
import Derived.Test.YtpibmppolnfckaaDoorTie
import Derived.Test.YtpibmppolnfckaaDoorCards
import Derived.SevenTiedAt
import Derived.LaidMore
import Derived.Stop.Joined
import Derived.WalkKit
import Derived.ProofKit
import Derived.OpenShut
import Derived.ShutString
import Derived.ChangeOld
import Derived.Below
import Derived.Test.YtpibmppolnfckaaDoorBstG
import Derived.Deep.RegionHeld3
import Derived.Deep.RegionHeldLaw
namespace Go.Proofs.YtpibmppolnfckaaDoor.lawBurstDiffers
open Go.ChangeShapes Go.WideShapes Go.ChangeAt Go.RowKit
open Go.ChangeMaps (open_string shut_string)
set_option linter.unusedVariables false

theorem own : ownKnob Tryd.prog.godebug = none := by kernel_rfl
theorem laidOut : laidOutB Tryd.prog = true := by kernel_rfl

/-- What the walk is told of a slice of integers that came in. -/
def IsRow (k : IntKind) (w : World) (a : Option Addr) (len cap : Nat) (zs : List Int) : Prop :=
  (a = none ∧ len = 0 ∧ cap = 0 ∧ zs = []) ∨
  ∃ x, a = some x ∧ len ≤ cap ∧ cap ≤ maxLen ∧ zs.length = cap ∧ (∀ i, i < zs.length → w.cell? (x.add i) = some (.int k (zs.getD i 0))) ∧ ∀ n ∈ zs, (Lit.int k n).wf = true

/-! The walk: the Go text returns true and writes nothing that was there. -/
set_option maxRecDepth 100000 in
set_option maxHeartbeats 1000000 in
theorem walk (a0 : Option Addr) (len0 cap0 : Nat) (z0 : List Int) (a1 : Option Addr) (len1 cap1 : Nat) (z1 : List Int) (w : World) (w0 : IsRow .u8 w a0 len0 cap0 z0) (w1 : IsRow .u8 w a1 len1 cap1 z1) (hT : Bst.TabZ w) :
    Calls Tryd.prog 4 #[.slice a0 len0 cap0, .slice a1 len1 cap1] w fun e w' => e = .returned (.bool true) ∧ Below w.heap.size w w' := by
  obtain ⟨x0, HX0, HXL0, hlc0, hcm0, HXN0, hxs0⟩ := Byt.rd_of_row w0
  have hl0 := HXL0.out
  have CC0 : Hid (∀ W, Below w.heap.size w W → Calls Tryd.prog 7 #[.slice a0 len0 cap0] W (Byt.BytesPost (x0.take 200) W)) := Lib.hid (fun W hB => Bst.cut_any a0 len0 cap0 x0 W hl0 hlc0 hcm0 (HX0.out.below hB) HXN0.out hxs0)
  have hk0 : (x0.take 200).length ≤ 200 := by rw [List.length_take]; omega
  clear w0 HX0 HXL0 HXN0 hxs0 hl0
  generalize x0.take 200 = y0 at *
  obtain ⟨x1, HX1, HXL1, hlc1, hcm1, HXN1, hxs1⟩ := Byt.rd_of_row w1
  have hl1 := HXL1.out
  have CC1 : Hid (∀ W, Below w.heap.size w W → Calls Tryd.prog 7 #[.slice a1 len1 cap1] W (Byt.BytesPost (x1.take 200) W)) := Lib.hid (fun W hB => Bst.cut_any a1 len1 cap1 x1 W hl1 hlc1 hcm1 (HX1.out.below hB) HXN1.out hxs1)
  have hk1 : (x1.take 200).length ≤ 200 := by rw [List.length_take]; omega
  clear w1 HX1 HXL1 HXN1 hxs1 hl1
  generalize x1.take 200 = y1 at *
  go_enter Tryd.func4, Tryd.ntmps4
  go_wp2_with fail
  refine (CC0.out _ (Below.refl _ _)).mono ?_; rintro e w1 ⟨ad, cap, rfl, hown, hB1⟩
  have O1 := Lib.hid hown
  clear hown
  go_wp2_with fail
  refine (CC1.out _ hB1).mono ?_; rintro e w2 ⟨bd, bcap, rfl, hown, hB2⟩
  have O2 := Lib.hid hown
  have HB12 := Lib.hid (hB1.trans (hB2.mono hB1.size))
  have HB2 := Lib.hid hB2
  have C2 := Lib.hid (Bst.differ_any ad bd y0.length cap y1.length bcap y0 y1 w2 rfl rfl (by omega) (by omega) (O1.out.rd.1.below hB2) hown.rd.1)
  unfold Bst.DifPost at C2
  have C4 : Hid (∀ W, Below w2.heap.size w2 W → Calls Tryd.prog 12 #[.slice ad y0.length cap, .slice bd y1.length bcap] W fun e w' => e = .returned (.bool (Bst.isB y0 y1)) ∧ Below w2.heap.size w2 w') := Lib.hid (fun W hW => (Bst.is_any ad bd y0.length cap y1.length bcap y0 y1 W rfl rfl (by omega) (by omega) (O1.out.rd.1.below (HB2.out.trans (hW.mono HB2.out.size))) (O2.out.rd.1.below hW)).mono fun e w' h => ⟨h.1, hW.trans (h.2.mono hW.size)⟩)
  have C6 : Hid (∀ W, Below w2.heap.size w2 W → Calls Tryd.prog 10 #[] W fun e w' => e = .returned (.bool true) ∧ Below w2.heap.size w2 w') := Lib.hid (fun W hW => (Bst.bworks_any W (hT.below (HB12.out.trans (hW.mono HB12.out.size)))).mono fun e w' h => ⟨h.1, hW.trans (h.2.mono hW.size)⟩)
  by_cases hlen : y0.length = y1.length
  · have C3 : Hid (∀ W, Below w2.heap.size w2 W → Calls Tryd.prog 13 #[.slice ad y0.length cap, .slice bd y1.length bcap] W (Ints.ListPost ((Bst.difs y0 y1 (8 * y0.length)).map fun j : Nat => (j : Int)) W)) := Lib.hid (fun W hW => by
      have := Bst.rdiffer_any ad bd y0.length cap bcap y0 y1 W rfl hlen.symm (by omega) (O1.out.rd.1.below (HB2.out.trans (hW.mono HB2.out.size))) (O2.out.rd.1.below hW)
      rwa [hlen] at this ⊢)
    have HF : Hid (Bst.dF y0 y1 = Bst.fst (Bst.difs y0 y1 (8 * y0.length))) := Lib.hid (by unfold Bst.dF; rw [if_pos hlen])
    have HW : Hid (Bst.dW y0 y1 = Bst.wid (Bst.difs y0 y1 (8 * y0.length))) := Lib.hid (by unfold Bst.dW; rw [if_pos hlen])
    have HI : Hid (Bst.isB y0 y1 = (decide (0 < Bst.dW y0 y1) && decide (Bst.dW y0 y1 ≤ 32))) := Lib.hid rfl
    have HUP := Lib.hid (Bst.up_difs y0 y1 (8 * y0.length))
    have HUB : Hid (∀ q, q ∈ Bst.difs y0 y1 (8 * y0.length) → q < 1600) := Lib.hid (fun q hq => by have := (Bst.mem_difs.1 hq).1; omega)
    rw [decide_eq_true hlen] at C2
    generalize Bst.difs y0 y1 (8 * y0.length) = D at *
    generalize Bst.dF y0 y1 = f at *
    generalize Bst.dW y0 y1 = x at *
    generalize Bst.isB y0 y1 = r at *
    have hl1 : ((y0.length : Int) != (y1.length : Int)) = false := by rw [hlen]; simp
    clear hown O1 O2 hB1 hB2 hT CC0 CC1 hk0 hk1 HB2 hlen
    go_wp2_with fail
    refine (C2.out).mono ?_; rintro e w3 ⟨rfl, hB3⟩
    have C3' := Lib.hid (C3.out w3 hB3)
    have HB3 := Lib.hid hB3
    clear hB3 C3
    go_wp2_with fail
    refine (C3'.out).mono ?_; rintro e w4 ⟨cd, ccap, rfl, hown, hB4⟩
    have HB4 := Lib.hid (HB3.out.trans (hB4.mono HB3.out.size))
    by_cases hD : D = []
    · subst hD
      obtain rfl : f = 0 := HF.out
      obtain rfl : x = 0 := HW.out
      obtain rfl : r = false := HI.out
      clear HF HW HI HUP HUB hown hB4 C2 C3'
      go_wp2_with fail
      refine (C4.out _ HB4.out).mono ?_; rintro e w5 ⟨rfl, hB5⟩
      go_wp2_with fail
      refine (C6.out _ hB5).mono ?_; rintro e w6 ⟨rfl, hB6⟩
      go_wp2_with fail
      go_ret
      exact ⟨rfl, HB12.out.trans (hB6.mono HB12.out.size)⟩
    · obtain ⟨e, he, hem⟩ := Bst.lst_mem hD
      have he2 := HUB.out e hem
      have hfm := HUB.out _ (Bst.fst_mem hD)
      have hfe : Bst.fst D ≤ e := by have := Bst.le_lst HUP.out (Bst.fst_mem hD); omega
      have hx0 : x = e + 1 - f := by rw [HW.out, HF.out, Bst.wid, he]
      have hL0 : D.length ≠ 0 := fun h => hD (List.eq_nil_of_length_eq_zero h)
      have hln : (D.map fun j : Nat => (j : Int)).length = D.length := List.length_map ..
      obtain ⟨g, o, rfl, k0⟩ := Ints.Rd.at (Ints.OwnL.rd hown).1 (k := 0) (by omega)
      obtain ⟨g', o', e', k1⟩ := Ints.Rd.at (Ints.OwnL.rd hown).1 (k := D.length - 1) (by omega)
      cases e'
      rw [Bst.map_first hD, ← HF.out, Nat.add_zero] at k0
      rw [Bst.map_last hD he] at k1
      rw [hln]
      rw [← HF.out] at hfe hfm
      have HX : Hid ((e : Int) - (f : Int) + 1 = (x : Int)) := Lib.hid (by omega)
      have hlL : Hid (D.length ≤ 1600 ∨ True) := Lib.hid (.inr trivial)
      have hrr : r = decide ((x : Int) ≤ 32) := by rw [HI.out, decide_eq_true (show 0 < x by omega), Bool.true_and, decide_eq_decide]; omega
      obtain ⟨L, hL⟩ : ∃ L, D.length = L := ⟨_, rfl⟩
      have hLm : L ≤ 9223372036854775807 := by
        have h := (Ints.OwnL.pos hown).1
        have h2 := (Ints.OwnL.pos hown).2.1
        unfold maxLen at h2
        omega
      rw [hL] at hL0 k1 ⊢
      subst hrr
      have hl2 : ((L : Int) == 0) = false := by simp; omega
      have e3 : ((L - 1 : Nat) : Int) = (L : Int) - 1 := by omega
      clear HF HW HI HUP HUB hown hB4 C2 C3' hD he hem hx0 hln hL
      go_upto_region 8 with fail
      go_region
      rw [HX.out]
      have HB4d := Lib.hid HB4.out.drew
      have k0d := Lib.hid k0
      clear k1 e3 hfe hfm he2
      go_wp2_with fail
      refine (C4.out _ HB4d.out).mono ?_; rintro e w5 ⟨rfl, hB5⟩
      go_wp2_with fail
      refine (C6.out _ hB5).mono ?_; rintro e w6 ⟨rfl, hB6⟩
      go_wp2_with fail
      go_ret
      exact ⟨rfl, HB12.out.trans (hB6.mono HB12.out.size)⟩
  · have HI : Hid (Bst.isB y0 y1 = (decide (0 < Bst.dW y0 y1) && decide (Bst.dW y0 y1 ≤ 32))) := Lib.hid rfl
    have hf : Bst.dF y0 y1 = 0 := by unfold Bst.dF; rw [if_neg hlen]
    have hw : Bst.dW y0 y1 = 0 := by unfold Bst.dW; rw [if_neg hlen]
    rw [hw] at HI
    have hi : Bst.isB y0 y1 = false := HI.out
    rw [decide_eq_false hlen, hf, hw] at C2
    rw [hi] at C4
    have hl1 : ((y0.length : Int) != (y1.length : Int)) = true := by simp; omega
    clear hown O1 O2 hB1 hB2 hT CC0 CC1 hk0 hk1 HB2 hlen HI hf hw hi
    go_wp2_with fail
    refine (C2.out).mono ?_; rintro e w3 ⟨rfl, hB3⟩
    go_wp2_with fail
    refine (C4.out _ hB3).mono ?_; rintro e w5 ⟨rfl, hB5⟩
    go_wp2_with fail
    refine (C6.out _ hB5).mono ?_; rintro e w6 ⟨rfl, hB6⟩
    go_wp2_with fail
    first | exact ⟨rfl, HB12.out.trans (hB6.mono HB12.out.size)⟩ | (go_ret; exact ⟨rfl, HB12.out.trans (hB6.mono HB12.out.size)⟩)

set_option maxRecDepth 100000 in
theorem lifted (os : Os) (started : os.Started) (H : Type) (enc : TypeId × Value → H) :
    ReturnsInHanded {} Tryd.checked os 4 .any (fun w args => (Rows.burstDiffersSpec.pre enc Tryd.prog Tryd.f4 [] false w args ∧ laidMetH Tryd.prog Bst.laidL w) ∧ sizedMet enc Tryd.prog Tryd.f4 (OpenSpec.ofChange Rows.burstDiffersSpec) false w args) (Rows.burstDiffersSpec.post enc Tryd.prog Tryd.f4 false true false false) := by
  refine returnsInHanded_of_change_and (C := Tryd.checked) (X := fun w _ => laidMetH Tryd.prog Bst.laidL w) (fun _ _ _ hh h => h.of_heap hh) own started (by kernel_rfl) Tryd.func4
    (ChangeSpec.witness_shaped (enc := enc) (C := Tryd.checked) (os := os) (X := fun w _ => laidMetH Tryd.prog Bst.laidL w) false (World.doorLaid Tryd.prog 33 os) #[.slice none 0 0, .slice none 0 0] 8 rfl (World.shaped_of_RefB (by kernel_rfl) (by kernel_rfl)) (by kernel_rfl) (by kernel_rfl) (by kernel_rfl) (Bst.door_met os _)) ?_
  intro W base args ds gs before hval0 hW _ _ hL _
  have hval : ∀ (j : Nat) t v, Tryd.f4.params[j]? = some t → args[j]? = some v → Value.okWide Tryd.prog W .any base t v := hval0
  have hW' := hW
  obtain ⟨p, q, hA0, hV, rfl, hfz, hnd⟩ := hW
  have hA : DataW.TrodAll enc Tryd.prog W 0 (fun _ => true) true Tryd.f4.params.toList args.toList ds p := hA0
  rw [Tryd.params4] at hA hval
  obtain ⟨v0, vs0, d0, ds0, p0, q0, hargs, rfl, rfl, h0, r0⟩ := trodAll_cons hA
  obtain ⟨v1, vs1, d1, ds1, p1, q1, rfl, rfl, rfl, h1, r1⟩ := trodAll_cons r0
  obtain ⟨rfl, rfl, rfl⟩ := trodAll_nil r1
  obtain rfl : args = #[v0, v1] := by cases args; simp_all
  obtain ⟨rfl, rfl⟩ := trodVars_none hV
  obtain ⟨a0, len0, cap0, rfl⟩ := okWide_slice Tryd.underlying22 (hval 0 22 v0 rfl rfl)
  have k0 := h0
  have lt0 : ∀ x ∈ p0, x.block < W.heap.size := by obtain ⟨m, hm⟩ := k0; exact DataW.trod_lt m _ _ _ hm
  obtain ⟨z0, w0⟩ : ∃ zs, IsRow .u8 W a0 len0 cap0 zs := by
    obtain ⟨fuel, hf⟩ := h0
    rcases open_ints Tryd.underlying22 Tryd.underlying5 (by kernel_rfl) hf with ⟨hcs, _⟩ | ⟨x, l, c, zs, hcs, _, hl, hm, hz, _, hcell, hwz⟩
    · simp [Value.cells] at hcs
      obtain ⟨rfl, rfl, rfl⟩ := hcs
      exact ⟨[], .inl ⟨rfl, rfl, rfl, rfl⟩⟩
    · simp [Value.cells] at hcs
      obtain ⟨rfl, rfl, rfl⟩ := hcs
      exact ⟨zs, .inr ⟨_, rfl, hl, hm, by simpa using hz, hcell, hwz⟩⟩
  obtain ⟨a1, len1, cap1, rfl⟩ := okWide_slice Tryd.underlying22 (hval 1 22 v1 rfl rfl)
  have k1 := h1
  have lt1 : ∀ x ∈ p1, x.block < W.heap.size := by obtain ⟨m, hm⟩ := k1; exact DataW.trod_lt m _ _ _ hm
  obtain ⟨z1, w1⟩ : ∃ zs, IsRow .u8 W a1 len1 cap1 zs := by
    obtain ⟨fuel, hf⟩ := h1
    rcases open_ints Tryd.underlying22 Tryd.underlying5 (by kernel_rfl) hf with ⟨hcs, _⟩ | ⟨x, l, c, zs, hcs, _, hl, hm, hz, _, hcell, hwz⟩
    · simp [Value.cells] at hcs
      obtain ⟨rfl, rfl, rfl⟩ := hcs
      exact ⟨[], .inl ⟨rfl, rfl, rfl, rfl⟩⟩
    · simp [Value.cells] at hcs
      obtain ⟨rfl, rfl, rfl⟩ := hcs
      exact ⟨zs, .inr ⟨_, rfl, hl, hm, by simpa using hz, hcell, hwz⟩⟩
  clear hA0 hval0
  have hT := Bst.tabs_of_laid hL
  refine (walk a0 len0 cap0 z0 a1 len1 cap1 z1 W w0 w1 hT).mono fun e W' ⟨he, bel⟩ => ?_
  subst he
  exact ⟨_, rfl, _, _, _, [], _, [], hW', trodAll_mk1 (shut_bool Tryd.underlying4 _), (trodAll_cons_mk (Below.trod laidOut (by kernel_rfl) (of_decide_eq_true (by kernel_rfl)) k0 bel lt0) (trodAll_cons_mk (Below.trod laidOut (by kernel_rfl) (of_decide_eq_true (by kernel_rfl)) k1 bel lt1) trodAll_mk0)), rfl, bel.frame _, fun h => by cases h⟩

theorem over : Rows.burstDiffersRow.holds Tryd.pinned (OpenSpec.ofChange Rows.burstDiffersSpec) :=
  OpenClaim.holds_of_wide 4 Tryd.f4 rfl rfl rfl rfl rfl rfl rfl ⟨rfl, rfl, rfl, rfl, rfl⟩ rfl rfl rfl rfl rfl (by kernel_rfl) Tryd.func4 (by kernel_rfl)
    (of_decide_eq_true (by kernel_rfl)) (by unfold Func.isWrapper; first | (rw [if_pos (by decide +kernel)]; kernel_rfl) | (rw [if_neg (by decide +kernel)]; exact ⟨rfl, rfl⟩))
    (fun os started H enc _ => lifted os started H enc)

theorem func_is {f : FuncId} (h : Tryd.prog.funcNamed Rows.burstDiffersRow.func = some f) : f = 4 :=
  Option.some.inj (h.symm.trans (show Tryd.prog.funcNamed Rows.burstDiffersRow.func = some 4 by kernel_rfl))
theorem proved : Rows.BurstDiffersCardSaid :=
  Claim7.holds_tied_plain_at .later [] Rows.burstDiffersCard.laidKinds true Rows.burstDiffersCard.stood.harness false
    over (fun _ h => by cases h) (by kernel_rfl) (fun _ h => by cases h) burstDiffers_row_tie rfl ⟨rfl, rfl⟩ (by kernel_rfl) rfl
    (fun f fn hf hfn => by
      obtain rfl := func_is hf
      obtain rfl : fn = Tryd.f4 := (Option.some.inj (Tryd.func4.symm.trans hfn)).symm
      exact ⟨by kernel_rfl, fun j t ht => by
        rw [Tryd.params4] at ht
        have hm : t ∈ [22, 22] := by simpa using Array.mem_of_getElem? ht
        have hall : ([22, 22].all fun u => !Tryd.prog.wantsStandIn u) = true := by kernel_rfl
        exact (show Tryd.prog.wantsStandIn t = false by simpa using List.all_eq_true.1 hall t hm)⟩)
    (by kernel_rfl)
#print axioms proved
end Go.Proofs.YtpibmppolnfckaaDoor.lawBurstDiffers
