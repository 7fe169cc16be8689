/- What is sorted rises, has nothing twice, and has just the keys that there were, of any keys. -/
import Derived.Test.YtpfnjippdjhfgaaDoorRows
import Derived.Test.YtpfnjippdjhfgaaDoorTie
import Derived.Test.YtpfnjippdjhfgaaDoorCards
import Derived.SevenTiedAt
import Derived.LaidMore
import Derived.Stop.Joined
import Derived.WalkKit
import Derived.ProofKit
import Derived.OpenShut
import Derived.ShutString
import Derived.ChangeOld
import Derived.Below
import Derived.Test.YtpfnjippdjhfgaaDoorKeyN
import Derived.Deep.Cut
namespace Go.Proofs.YtpfnjippdjhfgaaDoor.lawKeyWhole
open Go.ChangeShapes Go.WideShapes Go.ChangeAt Go.RowKit
open Go.ChangeMaps (open_string shut_string)
set_option linter.unusedVariables false

theorem own : ownKnob Tryd.prog.godebug = none := by kernel_rfl
theorem laidOut : laidOutB Tryd.prog = true := by kernel_rfl

/-! The walk: the Go text returns true and writes nothing that was there. -/
set_option maxRecDepth 100000 in
set_option maxHeartbeats 1000000 in
theorem walk (a0 : Option Addr) (len0 cap0 : Nat) (z0 : List Key.Ky) (w : World) (w0 : Key.Keys w w.heap.size a0 len0 cap0 z0) (hT : Key.Tabs w) :
    Calls Tryd.prog 8 #[.slice a0 len0 cap0] w fun e w' => e = .returned (.bool true) ∧ Below w.heap.size w w' := by
  obtain ⟨i0, hi, hz0, hz1, hz2⟩ := info_parts Key.infoKey
  have hlen0 := w0.len_
  have hlc0 := w0.le
  have hcm0 := w0.max
  have HOK : Hid (∀ y ∈ z0.take 40, Key.ok y) := Lib.hid (fun y hy => w0.ok y (List.mem_of_mem_take hy))
  have HYL : Hid ((z0.take 40).length ≤ 40) := Lib.hid (by rw [List.length_take]; omega)
  have hown0 : (w.alloc (.cells #[] 24)).ownsRow w.heap.size 24 3 (.slice (some ⟨w.heap.size, 0, none⟩) 0 0) 0 [] := World.ownsRow_lit (size := 3) w #[] 0 (Nat.le_refl _) (by unfold maxLen; omega) rfl
  have hB0 : Below w.heap.size w (w.alloc (.cells #[] 24)) := Key.box_below _ _
  have TC : Hid (∀ ad, a0 = some ad → ∀ j u, ((z0.take 40).flatMap Key.enc)[j]? = some u → (w.alloc (.cells #[] 24)).cell? (ad.add j) = some u) := Lib.hid (fun ad e j u hu => by
    have hrd := (w0.rd.below hB0).take 40
    have hj : j < (z0.take 40).length * 3 := by
      have := (List.getElem?_eq_some_iff.1 hu).1
      rwa [Rw.flat_len Key.enc_len] at this
    obtain ⟨b, off, e2, -, hc⟩ := hrd.at_ (i := j / 3) (by omega)
    rw [e] at e2
    cases e2
    have h1 := Rw.flat_at Key.enc_len (z0.take 40) (j / 3) (j % 3) (by omega) (by omega)
    rw [show j / 3 * 3 + j % 3 = j by omega, hu] at h1
    have h2 := hc (j % 3) u h1.symm
    rw [Addr.add_lit]
    rwa [show off + j / 3 * 3 + j % 3 = off + j by omega] at h2)
  have HQ : Hid (∀ w1 v m, w1.ownsRow w.heap.size 24 3 v m ([] ++ (z0.take 40).flatMap Key.enc) → m = (z0.take 40).length → (w.alloc (.cells #[] 24)).grownBy w1 (some w.heap.size) → Key.OwnK w1 w.heap.size v (z0.take 40) ∧ Below w.heap.size w w1 ∧ ∃ ad cap, v = .slice ad (z0.take 40).length cap) := Lib.hid (fun w1 v m h hm hg => by
    subst hm
    have ho : Key.OwnK w1 w.heap.size v (z0.take 40) := h
    refine ⟨ho, hB0.trans (Key.grown_below hg (by simp) (fun k e => by cases e; exact Nat.le_refl _)), ?_⟩
    obtain ⟨ad, cap, e, _⟩ := Own.shape ho
    exact ⟨ad, cap, e⟩)
  have HL : Hid ((z0.take 40).length = (min (len0 : Int) 40).toNat) := Lib.hid (by rw [List.length_take]; omega)
  have HE : Hid (((z0.take 40).flatMap Key.enc).length = (min (len0 : Int) 40).toNat * 3) := Lib.hid (by rw [Rw.flat_len Key.enc_len, HL.out])
  have TN : Hid (a0 = none → (min (len0 : Int) 40).toNat = 0 ∧ cap0 = 0) := Lib.hid (fun hh => by have := w0.nil hh; omega)
  have hlc : (len0 : Int) ≤ (cap0 : Int) ∧ (cap0 : Int) ≤ 9223372036854775807 := by omega
  obtain ⟨hlc1, hlc2⟩ := hlc
  have HT := Lib.hid hT
  clear w0 hlen0 hB0 hT
  generalize z0.take 40 = y at *
  have hyl := HYL.out
  go_enter Tryd.func8, Tryd.ntmps8
  go_upto_region 1 with fail
  go_cut [0] from 17 (fun v wc => ∃ ad cap, v = .slice ad y.length cap ∧ Key.OwnK wc w.heap.size (.slice ad y.length cap) y ∧ Below w.heap.size w wc)
  case first =>
    go_wp2_with (at_builtin; refine Own.wpList_append2_any _ rfl _ _ 34 rfl w.heap.size 24 i0 (.agg #[.int .i64 0, .int .i64 0, .int .u32 0]) 3 24 Tryd.underlying34 hi hz0 hz1 hz2 rfl (by decide) (.slice (some ⟨w.heap.size, 0, none⟩) 0 0) 0 _ rfl hown0 a0 _ cap0 (y.flatMap Key.enc) rfl HE.out TN.out TC.out (fun u hu => by
      obtain ⟨x, hx, hu⟩ := List.mem_flatMap.1 hu
      exact Key.enc_one x u hu) (by unfold maxLen; omega) (by omega) (by simp) ?_; intro v' w1 hown' hgrow _)
    obtain ⟨ho, hB, ad, cap, rfl⟩ := HQ.out w1 v' _ hown' (by have := HL.out; omega) hgrow
    go_meet
    case rel => exact ⟨ad, cap, rfl, ho, hB⟩
  case rest =>
    obtain ⟨ad, cap, rfl, ho, hB⟩ := hcut
    have hps := ho.pos
    obtain ⟨p1, p2, -, p4⟩ := hps
    unfold maxLen at p2
    have HR := Lib.hid (ho.rd Key.enc_len).1
    have HBc := Lib.hid hB
    have HTc := Lib.hid (HT.out.below hB)
    clear hi hz0 hz1 hz2 hown0 TC HQ HL HE TN hlc1 hlc2 hlc0 hcm0 HT ho hB i0
    have CS := Lib.hid (Key.sort_any ad y.length cap y wc rfl (by omega) HR.out HOK.out)
    have hsl := Key.sort_len y
    go_wp2_with fail
    refine (CS.out).mono ?_; rintro e w5 ⟨ad5, cap5, rfl, ho5, hB5⟩
    have HRs := Lib.hid (ho5.rd Key.enc_len).1
    have HRy := Lib.hid (HR.out.below hB5)
    have HB5 := Lib.hid (HBc.out.trans (hB5.mono HBc.out.size))
    have HT5 := Lib.hid (HTc.out.below hB5)
    have CT := Lib.hid (Key.twice_any ad5 (Key.sortK y).length cap5 (Key.sortK y) w5 rfl (by omega) HRs.out (fun z hz => HOK.out z ((Key.mem_sort y z).1 hz)))
    rw [Key.two_nodup _ _ (Key.str_nodup (Key.sort_str y))] at CT
    simp only [Key.kval] at CT
    clear ho5 hB5 CS
    go_wp2_with fail
    refine (CT.out).mono ?_; rintro e wt ⟨rfl, hBt⟩
    have HBs : Hid (Below w5.heap.size w5 (wt.alloc (.cells #[.int .i64 0, .int .i64 0, .int .u32 0] 24))) := Lib.hid (hBt.trans ((Key.box_below _ _).mono hBt.size))
    clear hBt CT
    go_wp2_with fail
    go_loopw [26] (fun i wr => ∃ k : Nat, k ≤ y.length ∧ i = .int .i64 k ∧ Hid (Below w5.heap.size w5 wr)) (fun i _ => y.length - (intOf i).toNat)
    case atStart => exact ⟨0, Nat.zero_le _, rfl, HBs⟩
    case round =>
      obtain ⟨k, hk, rfl, hBr⟩ := hrel
      by_cases hlt : k < y.length
      · obtain ⟨b, off, rfl, hb, hc⟩ := HRy.out.at_ (i := k) hlt
        have hc' := hc.below hBr.out hb
        have HIN : Hid (Key.inK (Key.sortK y) ((y).getD k default) = true) := Lib.hid (by
          have hm : (y).getD k default ∈ y := by simp [List.getD, hlt]
          unfold Key.inK
          rw [decide_eq_true_iff]
          exact (Key.mem_sort y _).2 hm)
        clear hc
        generalize (y).getD k default = x at *
        obtain ⟨p, q, s⟩ := x
        obtain ⟨c0, c1, c2⟩ := Key.at3 hc'
        simp only at c0 c1 c2
        have CX : Hid (Calls Tryd.prog 20 #[.slice ad5 (Key.sortK y).length cap5, .agg #[.int .i64 p, .int .i64 q, .int .u32 s]] (wr.alloc (.cells #[.int .i64 p, .int .i64 q, .int .u32 s] 24)) fun e w' => e = .returned (.bool true) ∧ Hid (Below w5.heap.size w5 w')) := Lib.hid (by
          have h0 := hBr.out.trans ((Key.box_below wr (.cells #[.int .i64 p, .int .i64 q, .int .u32 s] 24)).mono hBr.out.size)
          exact (Key.rin_any ad5 (Key.sortK y).length cap5 (Key.sortK y) (p, q, s) _ rfl (by omega) (HRs.out.below h0)).mono fun e w' h => ⟨by rw [h.1, HIN.out], Lib.hid (h0.trans (h.2.mono h0.size))⟩)
        clear hc' HIN
        go_wp2_with fail
        refine (CX.out).mono ?_; rintro e w6 ⟨rfl, hB6⟩
        go_wp2_with fail
        go_roundw
        case rel => exact ⟨k + 1, by omega, by go_num, hB6⟩
        case measure => simp [intOf]; omega
      · obtain rfl : k = y.length := by omega
        have HBs := hBr
        clear hBr
        go_wp2_with fail
        go_loopw [37] (fun i wr => ∃ k : Nat, k ≤ (Key.sortK y).length ∧ i = .int .i64 k ∧ Hid (Below w5.heap.size w5 wr)) (fun i _ => (Key.sortK y).length - (intOf i).toNat)
        case atStart => exact ⟨0, Nat.zero_le _, rfl, HBs⟩
        case round =>
          obtain ⟨k, hk, rfl, hBr⟩ := hrel
          by_cases hlt : k < (Key.sortK y).length
          · obtain ⟨b, off, rfl, hb, hc⟩ := HRs.out.at_ (i := k) hlt
            have hc' := hc.below hBr.out hb
            have HIN : Hid (Key.inK (y) ((Key.sortK y).getD k default) = true) := Lib.hid (by
              have hm : (Key.sortK y).getD k default ∈ Key.sortK y := by simp [List.getD, hlt]
              unfold Key.inK
              rw [decide_eq_true_iff]
              exact (Key.mem_sort y _).1 hm)
            clear hc
            generalize (Key.sortK y).getD k default = x at *
            obtain ⟨p, q, s⟩ := x
            obtain ⟨c0, c1, c2⟩ := Key.at3 hc'
            simp only at c0 c1 c2
            have CX : Hid (Calls Tryd.prog 20 #[.slice ad (y).length cap, .agg #[.int .i64 p, .int .i64 q, .int .u32 s]] (wr.alloc (.cells #[.int .i64 p, .int .i64 q, .int .u32 s] 24)) fun e w' => e = .returned (.bool true) ∧ Hid (Below w5.heap.size w5 w')) := Lib.hid (by
              have h0 := hBr.out.trans ((Key.box_below wr (.cells #[.int .i64 p, .int .i64 q, .int .u32 s] 24)).mono hBr.out.size)
              exact (Key.rin_any ad (y).length cap (y) (p, q, s) _ rfl (by omega) (HRy.out.below h0)).mono fun e w' h => ⟨by rw [h.1, HIN.out], Lib.hid (h0.trans (h.2.mono h0.size))⟩)
            clear hc' HIN
            go_wp2_with fail
            refine (CX.out).mono ?_; rintro e w6 ⟨rfl, hB6⟩
            go_wp2_with fail
            go_roundw
            case rel => exact ⟨k + 1, by omega, by go_num, hB6⟩
            case measure => simp [intOf]; omega
          · obtain rfl : k = (Key.sortK y).length := by omega
            have CRi := Lib.hid (Key.rising_any _ (Key.sortK y).length cap5 (Key.sortK y) wr rfl (by omega) (HRs.out.below hBr.out))
            rw [Key.ris_str (Key.sort_str y)] at CRi
            have HTr := Lib.hid (HT5.out.below hBr.out)
            have HBw := Lib.hid (HB5.out.trans (hBr.out.mono HB5.out.size))
            go_wp2_with fail
            refine (CRi.out).mono ?_; rintro e w7 ⟨rfl, hB7⟩
            have CW := Lib.hid (Key.works_any w7 (HTr.out.below hB7))
            have HB7 := Lib.hid (HBw.out.trans (hB7.mono HBw.out.size))
            clear hB7
            go_wp2_with fail
            refine (CW.out).mono ?_; rintro e w8 ⟨rfl, hB8⟩
            go_wp2_with fail
            go_ret
            exact ⟨rfl, HB7.out.trans (hB8.mono HB7.out.size)⟩

set_option maxRecDepth 100000 in
theorem lifted (os : Os) (started : os.Started) (H : Type) (enc : TypeId × Value → H) :
    ReturnsInHanded {} Tryd.checked os 8 .any (fun w args => (Rows.keyWholeSpec.pre enc Tryd.prog Tryd.f8 [] false w args ∧ laidMetH Tryd.prog Key.laidL w) ∧ sizedMet enc Tryd.prog Tryd.f8 (OpenSpec.ofChange Rows.keyWholeSpec) false w args) (Rows.keyWholeSpec.post enc Tryd.prog Tryd.f8 false true false false) := by
  refine returnsInHanded_of_change_and (C := Tryd.checked) (X := fun w _ => laidMetH Tryd.prog Key.laidL w) (fun _ _ _ hh h => h.of_heap hh) own started (by kernel_rfl) Tryd.func8
    (ChangeSpec.witness_shaped (enc := enc) (C := Tryd.checked) (os := os) (X := fun w _ => laidMetH Tryd.prog Key.laidL w) false (World.doorLaid Tryd.prog 24 os) #[.slice none 0 0] 8 rfl (World.shaped_of_RefB (by kernel_rfl) (by kernel_rfl)) (by kernel_rfl) (by kernel_rfl) (by kernel_rfl) (Key.door_met os _)) ?_
  intro W base args ds gs before hval0 hW _ _ hL _
  have hval : ∀ (j : Nat) t v, Tryd.f8.params[j]? = some t → args[j]? = some v → Value.okWide Tryd.prog W .any base t v := hval0
  have hW' := hW
  obtain ⟨p, q, hA0, hV, rfl, hfz, hnd⟩ := hW
  have hA : DataW.TrodAll enc Tryd.prog W 0 (fun _ => true) true Tryd.f8.params.toList args.toList ds p := hA0
  rw [Tryd.params8] at hA hval
  obtain ⟨v0, vs0, d0, ds0, p0, q0, hargs, rfl, rfl, h0, r0⟩ := trodAll_cons hA
  obtain ⟨rfl, rfl, rfl⟩ := trodAll_nil r0
  obtain rfl : args = #[v0] := by cases args; simp_all
  obtain ⟨rfl, rfl⟩ := trodVars_none hV
  obtain ⟨a0, len0, cap0, rfl⟩ := okWide_slice Tryd.underlying34 (hval 0 34 v0 rfl rfl)
  have k0 := h0
  have lt0 : ∀ x ∈ p0, x.block < W.heap.size := by obtain ⟨m, hm⟩ := k0; exact DataW.trod_lt m _ _ _ hm
  obtain ⟨z0, w0⟩ : ∃ zs, Key.Keys W W.heap.size a0 len0 cap0 zs := by
    obtain ⟨fuel, hf⟩ := h0
    exact Key.open_keys rfl (by simpa [Value.cells] using hf)
  clear hA0 hval0
  have hT := Key.tabs_of_laid hL
  refine (walk a0 len0 cap0 z0 W w0 hT).mono fun e W' ⟨he, bel⟩ => ?_
  subst he
  exact ⟨_, rfl, _, _, _, [], _, [], hW', trodAll_mk1 (shut_bool Tryd.underlying4 _), (trodAll_cons_mk (Below.trod laidOut (by kernel_rfl) (of_decide_eq_true (by kernel_rfl)) k0 bel lt0) trodAll_mk0), rfl, bel.frame _, fun h => by cases h⟩

theorem over : Rows.keyWholeRow.holds Tryd.pinned (OpenSpec.ofChange Rows.keyWholeSpec) :=
  OpenClaim.holds_of_wide 8 Tryd.f8 rfl rfl rfl rfl rfl rfl rfl ⟨rfl, rfl, rfl, rfl, rfl⟩ rfl rfl rfl rfl rfl (by kernel_rfl) Tryd.func8 (by kernel_rfl)
    (of_decide_eq_true (by kernel_rfl)) (by unfold Func.isWrapper; first | (rw [if_pos (by decide +kernel)]; kernel_rfl) | (rw [if_neg (by decide +kernel)]; exact ⟨rfl, rfl⟩))
    (fun os started H enc _ => lifted os started H enc)

theorem func_is {f : FuncId} (h : Tryd.prog.funcNamed Rows.keyWholeRow.func = some f) : f = 8 :=
  Option.some.inj (h.symm.trans (show Tryd.prog.funcNamed Rows.keyWholeRow.func = some 8 by kernel_rfl))
theorem proved : Rows.KeyWholeCardSaid :=
  Claim7.holds_tied_plain_at .later [] Rows.keyWholeCard.laidKinds true Rows.keyWholeCard.stood.harness false
    over (fun _ h => by cases h) (by kernel_rfl) (fun _ h => by cases h) keyWhole_row_tie rfl ⟨rfl, rfl⟩ (by kernel_rfl) rfl
    (fun f fn hf hfn => by
      obtain rfl := func_is hf
      obtain rfl : fn = Tryd.f8 := (Option.some.inj (Tryd.func8.symm.trans hfn)).symm
      exact ⟨by kernel_rfl, fun j t ht => by
        rw [Tryd.params8] at ht
        have hm : t ∈ [34] := by simpa using Array.mem_of_getElem? ht
        have hall : ([34].all fun u => !Tryd.prog.wantsStandIn u) = true := by kernel_rfl
        exact (show Tryd.prog.wantsStandIn t = false by simpa using List.all_eq_true.1 hall t hm)⟩)
    (by kernel_rfl)
#print axioms proved
end Go.Proofs.YtpfnjippdjhfgaaDoor.lawKeyWhole
