/- Any keys, sorted, are as the document says. -/
import Derived.Test.YtpfnjippdjhfgaaDoorRows
import Derived.Test.YtpfnjippdjhfgaaDoorTie
import Derived.Test.YtpfnjippdjhfgaaDoorCards
import Derived.SevenTiedAt
import Derived.LaidMore
import Derived.Stop.Joined
import Derived.WalkKit
import Derived.ProofKit
import Derived.OpenShut
import Derived.ShutString
import Derived.ChangeOld
import Derived.Below
import Derived.Test.YtpfnjippdjhfgaaDoorKeyN
import Derived.Deep.Cut
namespace Go.Proofs.YtpfnjippdjhfgaaDoor.lawKeySorts
open Go.ChangeShapes Go.WideShapes Go.ChangeAt Go.RowKit
open Go.ChangeMaps (open_string shut_string)
set_option linter.unusedVariables false

theorem own : ownKnob Tryd.prog.godebug = none := by kernel_rfl
theorem laidOut : laidOutB Tryd.prog = true := by kernel_rfl

/-! The walk: the Go text returns true and writes nothing that was there. -/
set_option maxRecDepth 100000 in
set_option maxHeartbeats 1000000 in
theorem walk (a0 : Option Addr) (len0 cap0 : Nat) (z0 : List Key.Ky) (w : World) (w0 : Key.Keys w w.heap.size a0 len0 cap0 z0) (hT : Key.Tabs w) :
    Calls Tryd.prog 5 #[.slice a0 len0 cap0] w fun e w' => e = .returned (.bool true) ∧ Below w.heap.size w w' := by
  obtain ⟨i0, hi, hz0, hz1, hz2⟩ := info_parts Key.infoKey
  have hlen0 := w0.len_
  have hlc0 := w0.le
  have hcm0 := w0.max
  have HOK : Hid (∀ y ∈ z0.take 40, Key.ok y) := Lib.hid (fun y hy => w0.ok y (List.mem_of_mem_take hy))
  have HYL : Hid ((z0.take 40).length ≤ 40) := Lib.hid (by rw [List.length_take]; omega)
  have hown0 : (w.alloc (.cells #[] 24)).ownsRow w.heap.size 24 3 (.slice (some ⟨w.heap.size, 0, none⟩) 0 0) 0 [] := World.ownsRow_lit (size := 3) w #[] 0 (Nat.le_refl _) (by unfold maxLen; omega) rfl
  have hB0 : Below w.heap.size w (w.alloc (.cells #[] 24)) := Key.box_below _ _
  have TC : Hid (∀ ad, a0 = some ad → ∀ j u, ((z0.take 40).flatMap Key.enc)[j]? = some u → (w.alloc (.cells #[] 24)).cell? (ad.add j) = some u) := Lib.hid (fun ad e j u hu => by
    have hrd := (w0.rd.below hB0).take 40
    have hj : j < (z0.take 40).length * 3 := by
      have := (List.getElem?_eq_some_iff.1 hu).1
      rwa [Rw.flat_len Key.enc_len] at this
    obtain ⟨b, off, e2, -, hc⟩ := hrd.at_ (i := j / 3) (by omega)
    rw [e] at e2
    cases e2
    have h1 := Rw.flat_at Key.enc_len (z0.take 40) (j / 3) (j % 3) (by omega) (by omega)
    rw [show j / 3 * 3 + j % 3 = j by omega, hu] at h1
    have h2 := hc (j % 3) u h1.symm
    rw [Addr.add_lit]
    rwa [show off + j / 3 * 3 + j % 3 = off + j by omega] at h2)
  have HQ : Hid (∀ w1 v m, w1.ownsRow w.heap.size 24 3 v m ([] ++ (z0.take 40).flatMap Key.enc) → m = (z0.take 40).length → (w.alloc (.cells #[] 24)).grownBy w1 (some w.heap.size) → Key.OwnK w1 w.heap.size v (z0.take 40) ∧ Below w.heap.size w w1 ∧ ∃ ad cap, v = .slice ad (z0.take 40).length cap) := Lib.hid (fun w1 v m h hm hg => by
    subst hm
    have ho : Key.OwnK w1 w.heap.size v (z0.take 40) := h
    refine ⟨ho, hB0.trans (Key.grown_below hg (by simp) (fun k e => by cases e; exact Nat.le_refl _)), ?_⟩
    obtain ⟨ad, cap, e, _⟩ := Own.shape ho
    exact ⟨ad, cap, e⟩)
  have HL : Hid ((z0.take 40).length = (min (len0 : Int) 40).toNat) := Lib.hid (by rw [List.length_take]; omega)
  have HE : Hid (((z0.take 40).flatMap Key.enc).length = (min (len0 : Int) 40).toNat * 3) := Lib.hid (by rw [Rw.flat_len Key.enc_len, HL.out])
  have TN : Hid (a0 = none → (min (len0 : Int) 40).toNat = 0 ∧ cap0 = 0) := Lib.hid (fun hh => by have := w0.nil hh; omega)
  have hlc : (len0 : Int) ≤ (cap0 : Int) ∧ (cap0 : Int) ≤ 9223372036854775807 := by omega
  obtain ⟨hlc1, hlc2⟩ := hlc
  have HT := Lib.hid hT
  clear w0 hlen0 hB0 hT
  generalize z0.take 40 = y at *
  have hyl := HYL.out
  go_enter Tryd.func5, Tryd.ntmps5
  go_upto_region 1 with fail
  go_cut [0] from 13 (fun v wc => ∃ ad cap, v = .slice ad y.length cap ∧ Key.OwnK wc w.heap.size (.slice ad y.length cap) y ∧ Below w.heap.size w wc)
  case first =>
    go_wp2_with (at_builtin; refine Own.wpList_append2_any _ rfl _ _ 34 rfl w.heap.size 24 i0 (.agg #[.int .i64 0, .int .i64 0, .int .u32 0]) 3 24 Tryd.underlying34 hi hz0 hz1 hz2 rfl (by decide) (.slice (some ⟨w.heap.size, 0, none⟩) 0 0) 0 _ rfl hown0 a0 _ cap0 (y.flatMap Key.enc) rfl HE.out TN.out TC.out (fun u hu => by
      obtain ⟨x, hx, hu⟩ := List.mem_flatMap.1 hu
      exact Key.enc_one x u hu) (by unfold maxLen; omega) (by omega) (by simp) ?_; intro v' w1 hown' hgrow _)
    obtain ⟨ho, hB, ad, cap, rfl⟩ := HQ.out w1 v' _ hown' (by have := HL.out; omega) hgrow
    go_meet
    case rel => exact ⟨ad, cap, rfl, ho, hB⟩
  case rest =>
    obtain ⟨ad, cap, rfl, ho, hB⟩ := hcut
    have hps := ho.pos
    obtain ⟨p1, p2, -, p4⟩ := hps
    unfold maxLen at p2
    have HR := Lib.hid (ho.rd Key.enc_len).1
    have HBc := Lib.hid hB
    have HTc := Lib.hid (HT.out.below hB)
    clear hi hz0 hz1 hz2 hown0 TC HQ HL HE TN hlc1 hlc2 hlc0 hcm0 HT ho hB i0
    have CI : Hid (∀ ad' cap' l x W, l.length ≤ 40 → l.length ≤ cap' → Key.RdK W ad' l → Calls Tryd.prog 17 #[.slice ad' l.length cap', Key.kval x] W fun e w' => ∃ ad' cap', e = .returned (.slice ad' (Key.intoK l x).length cap') ∧ Key.RdK w' ad' (Key.intoK l x) ∧ (Key.intoK l x).length ≤ cap' ∧ Below W.heap.size W w') := Lib.hid (fun ad' cap' l x W h1 h2 h3 => Key.rinto_any ad' l.length cap' l x W rfl (by omega) h3 h2)
    have CS := Lib.hid (fun W (hW : Below wc.heap.size wc W) => Key.sort_any ad y.length cap y W rfl (by omega) (HR.out.below hW) HOK.out)
    go_wp2_with fail
    go_loopw [3, 15] (fun v i wr => ∃ (k : Nat) (ad' : Option Addr) (cap' : Nat), k ≤ y.length ∧ i = .int .i64 k ∧ v = .slice ad' (Key.sortK (y.take k)).length cap' ∧ Key.RdK wr ad' (Key.sortK (y.take k)) ∧ (Key.sortK (y.take k)).length ≤ cap' ∧ Hid (Below wc.heap.size wc wr)) (fun _ i _ => y.length - (intOf i).toNat)
    case atStart => exact ⟨0, none, 0, Nat.zero_le _, rfl, by rw [List.take_zero]; rfl, .inl (by rw [List.take_zero]; rfl), by rw [List.take_zero]; exact Nat.le_refl _, Lib.hid (Below.refl _ _)⟩
    case round =>
      obtain ⟨k, ad', cap', hk, rfl, rfl, hrd, hcap, hBr⟩ := hrel
      have hsl := Key.sort_len (y.take k)
      rw [List.length_take] at hsl
      by_cases hlt : k < y.length
      · obtain ⟨b, off, rfl, hb, hc⟩ := HR.out.at_ (i := k) hlt
        have HS := Lib.hid (Key.take_succ' (l := y) (k := k) hlt)
        have hc' := hc.below hBr.out hb
        clear hc
        generalize y.getD k default = x at *
        obtain ⟨p, q, s⟩ := x
        obtain ⟨c0, c1, c2⟩ := Key.at3 hc'
        simp only at c0 c1 c2
        have HSS : Hid (Key.sortK (y.take (k + 1)) = Key.intoK (Key.sortK (y.take k)) (p, q, s)) := Lib.hid (by rw [HS.out, Key.sort_snoc])
        have CX : Hid (Calls Tryd.prog 17 #[.slice ad' (Key.sortK (y.take k)).length cap', .agg #[.int .i64 p, .int .i64 q, .int .u32 s]] (wr.alloc (.cells #[.int .i64 p, .int .i64 q, .int .u32 s] 24)) fun e w' => ∃ ad' cap', e = .returned (.slice ad' (Key.sortK (y.take (k + 1))).length cap') ∧ Key.RdK w' ad' (Key.sortK (y.take (k + 1))) ∧ (Key.sortK (y.take (k + 1))).length ≤ cap' ∧ Hid (Below wc.heap.size wc w')) := Lib.hid (by
          rw [HSS.out]
          exact (CI.out ad' cap' (Key.sortK (y.take k)) (p, q, s) _ (by omega) hcap (hrd.below (Key.box_below _ _))).mono fun e w' h => by
            obtain ⟨a1, a2, a3, a4, a5, a6⟩ := h
            have h0 := hBr.out.trans ((Key.box_below wr (.cells #[.int .i64 p, .int .i64 q, .int .u32 s] 24)).mono hBr.out.size)
            exact ⟨a1, a2, a3, a4, a5, Lib.hid (h0.trans (a6.mono h0.size))⟩)
        clear hrd hc' HSS HS hsl hcap
        go_wp2_with fail
        refine (CX.out).mono ?_; rintro e w3 ⟨ad3, cap3, rfl, hrd3, hcap3, hB3⟩
        go_wp2_with fail
        go_roundw
        case rel => exact ⟨k + 1, ad3, cap3, by omega, by go_num, rfl, hrd3, hcap3, hB3⟩
        case measure => simp [intOf]; omega
      · obtain rfl : k = y.length := by omega
        rw [List.take_of_length_le (Nat.le_refl _)] at *
        have CSx := Lib.hid (CS.out wr hBr.out)
        have HRD := Lib.hid hrd
        have HBw := Lib.hid (HBc.out.trans (hBr.out.mono HBc.out.size))
        have HTw := Lib.hid (HTc.out.below hBr.out)
        clear hrd CS CI
        go_wp2_with fail
        refine (CSx.out).mono ?_; rintro e w5 ⟨ad5, cap5, rfl, ho5, hB5⟩
        have CM := Lib.hid (Key.same_any ad5 ad' (Key.sortK y).length cap5 cap' (Key.sortK y) w5 rfl (by omega) (ho5.rd Key.enc_len).1 (HRD.out.below hB5))
        have HB5 := Lib.hid (HBw.out.trans (hB5.mono HBw.out.size))
        have HT5 := Lib.hid (HTw.out.below hB5)
        clear ho5 hB5
        go_wp2_with fail
        refine (CM.out).mono ?_; rintro e w6 ⟨rfl, hB6⟩
        have CW := Lib.hid (Key.works_any w6 (HT5.out.below hB6))
        have HB6 := Lib.hid (HB5.out.trans (hB6.mono HB5.out.size))
        clear hB6
        go_wp2_with fail
        refine (CW.out).mono ?_; rintro e w7 ⟨rfl, hB7⟩
        go_wp2_with fail
        go_ret
        exact ⟨rfl, HB6.out.trans (hB7.mono HB6.out.size)⟩

set_option maxRecDepth 100000 in
theorem lifted (os : Os) (started : os.Started) (H : Type) (enc : TypeId × Value → H) :
    ReturnsInHanded {} Tryd.checked os 5 .any (fun w args => (Rows.keySortsSpec.pre enc Tryd.prog Tryd.f5 [] false w args ∧ laidMetH Tryd.prog Key.laidL w) ∧ sizedMet enc Tryd.prog Tryd.f5 (OpenSpec.ofChange Rows.keySortsSpec) false w args) (Rows.keySortsSpec.post enc Tryd.prog Tryd.f5 false true false false) := by
  refine returnsInHanded_of_change_and (C := Tryd.checked) (X := fun w _ => laidMetH Tryd.prog Key.laidL w) (fun _ _ _ hh h => h.of_heap hh) own started (by kernel_rfl) Tryd.func5
    (ChangeSpec.witness_shaped (enc := enc) (C := Tryd.checked) (os := os) (X := fun w _ => laidMetH Tryd.prog Key.laidL w) false (World.doorLaid Tryd.prog 24 os) #[.slice none 0 0] 8 rfl (World.shaped_of_RefB (by kernel_rfl) (by kernel_rfl)) (by kernel_rfl) (by kernel_rfl) (by kernel_rfl) (Key.door_met os _)) ?_
  intro W base args ds gs before hval0 hW _ _ hL _
  have hval : ∀ (j : Nat) t v, Tryd.f5.params[j]? = some t → args[j]? = some v → Value.okWide Tryd.prog W .any base t v := hval0
  have hW' := hW
  obtain ⟨p, q, hA0, hV, rfl, hfz, hnd⟩ := hW
  have hA : DataW.TrodAll enc Tryd.prog W 0 (fun _ => true) true Tryd.f5.params.toList args.toList ds p := hA0
  rw [Tryd.params5] at hA hval
  obtain ⟨v0, vs0, d0, ds0, p0, q0, hargs, rfl, rfl, h0, r0⟩ := trodAll_cons hA
  obtain ⟨rfl, rfl, rfl⟩ := trodAll_nil r0
  obtain rfl : args = #[v0] := by cases args; simp_all
  obtain ⟨rfl, rfl⟩ := trodVars_none hV
  obtain ⟨a0, len0, cap0, rfl⟩ := okWide_slice Tryd.underlying34 (hval 0 34 v0 rfl rfl)
  have k0 := h0
  have lt0 : ∀ x ∈ p0, x.block < W.heap.size := by obtain ⟨m, hm⟩ := k0; exact DataW.trod_lt m _ _ _ hm
  obtain ⟨z0, w0⟩ : ∃ zs, Key.Keys W W.heap.size a0 len0 cap0 zs := by
    obtain ⟨fuel, hf⟩ := h0
    exact Key.open_keys rfl (by simpa [Value.cells] using hf)
  clear hA0 hval0
  have hT := Key.tabs_of_laid hL
  refine (walk a0 len0 cap0 z0 W w0 hT).mono fun e W' ⟨he, bel⟩ => ?_
  subst he
  exact ⟨_, rfl, _, _, _, [], _, [], hW', trodAll_mk1 (shut_bool Tryd.underlying4 _), (trodAll_cons_mk (Below.trod laidOut (by kernel_rfl) (of_decide_eq_true (by kernel_rfl)) k0 bel lt0) trodAll_mk0), rfl, bel.frame _, fun h => by cases h⟩

theorem over : Rows.keySortsRow.holds Tryd.pinned (OpenSpec.ofChange Rows.keySortsSpec) :=
  OpenClaim.holds_of_wide 5 Tryd.f5 rfl rfl rfl rfl rfl rfl rfl ⟨rfl, rfl, rfl, rfl, rfl⟩ rfl rfl rfl rfl rfl (by kernel_rfl) Tryd.func5 (by kernel_rfl)
    (of_decide_eq_true (by kernel_rfl)) (by unfold Func.isWrapper; first | (rw [if_pos (by decide +kernel)]; kernel_rfl) | (rw [if_neg (by decide +kernel)]; exact ⟨rfl, rfl⟩))
    (fun os started H enc _ => lifted os started H enc)

theorem func_is {f : FuncId} (h : Tryd.prog.funcNamed Rows.keySortsRow.func = some f) : f = 5 :=
  Option.some.inj (h.symm.trans (show Tryd.prog.funcNamed Rows.keySortsRow.func = some 5 by kernel_rfl))
theorem proved : Rows.KeySortsCardSaid :=
  Claim7.holds_tied_plain_at .later [] Rows.keySortsCard.laidKinds true Rows.keySortsCard.stood.harness false
    over (fun _ h => by cases h) (by kernel_rfl) (fun _ h => by cases h) keySorts_row_tie rfl ⟨rfl, rfl⟩ (by kernel_rfl) rfl
    (fun f fn hf hfn => by
      obtain rfl := func_is hf
      obtain rfl : fn = Tryd.f5 := (Option.some.inj (Tryd.func5.symm.trans hfn)).symm
      exact ⟨by kernel_rfl, fun j t ht => by
        rw [Tryd.params5] at ht
        have hm : t ∈ [34] := by simpa using Array.mem_of_getElem? ht
        have hall : ([34].all fun u => !Tryd.prog.wantsStandIn u) = true := by kernel_rfl
        exact (show Tryd.prog.wantsStandIn t = false by simpa using List.all_eq_true.1 hall t hm)⟩)
    (by kernel_rfl)
#print axioms proved
end Go.Proofs.YtpfnjippdjhfgaaDoor.lawKeySorts
