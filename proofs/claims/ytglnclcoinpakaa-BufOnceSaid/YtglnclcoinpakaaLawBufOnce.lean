/- Any bytes that are read as numbers are what these are written as. -/
import Derived.Test.YtglnclcoinpakaaRows
import Derived.WalkKit
import Derived.ProofKit
import Derived.OpenShut
import Derived.ShutString
import Derived.ChangeOld
import Derived.Below
import Derived.Test.YtglnclcoinpakaaBufL
import Derived.Deep.Cut
namespace Go.Proofs.Ytglnclcoinpakaa.lawBufOnce
open Go.ChangeShapes Go.WideShapes Go.ChangeAt Go.RowKit
open Go.ChangeMaps (open_string shut_string)
set_option linter.unusedVariables false

theorem own : ownKnob Try.prog.godebug = none := by kernel_rfl
theorem laidOut : laidOutB Try.prog = true := by kernel_rfl

/-- What the walk is told of a slice of integers that came in. -/
def IsRow (k : IntKind) (w : World) (a : Option Addr) (len cap : Nat) (zs : List Int) : Prop :=
  (a = none ∧ len = 0 ∧ cap = 0 ∧ zs = []) ∨
  ∃ x, a = some x ∧ len ≤ cap ∧ cap ≤ maxLen ∧ zs.length = cap ∧ (∀ i, i < zs.length → w.cell? (x.add i) = some (.int k (zs.getD i 0))) ∧ ∀ n ∈ zs, (Lit.int k n).wf = true

/-! The walk: the Go text returns true and writes nothing that was there. -/
set_option maxRecDepth 100000 in
set_option maxHeartbeats 1000000 in
theorem walk (a0 : Option Addr) (len0 cap0 : Nat) (z0 : List Int) (w : World) (w0 : IsRow .u8 w a0 len0 cap0 z0) :
    Calls Try.prog 6 #[.slice a0 len0 cap0] w fun e w' => e = .returned (.bool true) ∧ Below w.heap.size w w' := by
  obtain ⟨i0, hi, hz0, hz1, hz2⟩ := info_parts Byt.infoByte
  obtain ⟨x0, HX0, HXL0, hlc0, hcm0, HXN0, hxs0⟩ := Byt.rd_of_row w0
  have hl0 := HXL0.out
  have TK0 : Hid ((x0.take 200).length ≤ 200) := Lib.hid (by rw [List.length_take]; omega)
  have TA0 : Hid (¬ 200 < len0 → (Byt.bvs (x0.take 200)).length = len0 * 1) := Lib.hid (fun h => by rw [Byt.bvs_len, List.length_take]; omega)
  have TB0 : Hid (200 < len0 → (Byt.bvs (x0.take 200)).length = 200 * 1) := Lib.hid (fun h => by rw [Byt.bvs_len, List.length_take]; omega)
  have TC0 : Hid (∀ W, Below w.heap.size w W → ∀ a', a0 = some a' → ∀ j u, (Byt.bvs (x0.take 200))[j]? = some u → W.cell? (a'.add j) = some u) := Lib.hid (fun W hB => Byt.RdB.cells ((HX0.out.below hB).take 200))
  have TN0 : Hid (a0 = none → len0 = 0 ∧ cap0 = 0) := Lib.hid (Buf.nil_none hl0 HX0.out HXN0.out)
  have TI0 : (len0 : Int) ≤ (cap0 : Int) ∧ (len0 : Int) ≤ 9223372036854775807 := by omega
  obtain ⟨TI0, TJ0⟩ := TI0
  clear w0 HX0 HXL0 HXN0 hxs0 hl0
  generalize x0.take 200 = y0 at *
  have hown0 := Buf.own_zero w
  unfold Byt.OwnB at hown0
  have hB0 : Below w.heap.size w (w.alloc (.cells #[] 5)) := (Below.refl _ _).alloc (Nat.le_refl _) _
  have TC := Lib.hid (TC0.out _ hB0)
  have HQ : Hid (∀ w1 v m, w1.ownsRow w.heap.size 5 1 v m (Byt.bvs [] ++ Byt.bvs y0) → m = (Byt.bvs y0).length → (w.alloc (.cells #[] 5)).grownBy w1 (some w.heap.size) → Byt.OwnB w1 w.heap.size v y0 ∧ Below w.heap.size w w1 ∧ ∃ ad cap, v = .slice ad y0.length cap) := Lib.hid (fun w1 v m h hm hg => by
    rw [Byt.bvs_len] at hm
    subst hm
    have ho : Byt.OwnB w1 w.heap.size v y0 := h
    refine ⟨ho, hB0.grown hg (by simp) (fun k e => by cases e; exact Nat.le_refl _), ?_⟩
    obtain ⟨ad, cap, e, _⟩ := Own.shape ho
    exact ⟨ad, cap, e⟩)
  clear TC0 hB0
  have HM : Hid (y0.length ≤ 200) := TK0
  have hkey : (200 < len0 ∧ Hid ((Byt.bvs y0).length = 200 * 1) ∧ Hid (a0 = none → 200 = 0 ∧ cap0 = 0)) ∨ (len0 ≤ 200 ∧ Hid ((Byt.bvs y0).length = len0 * 1) ∧ Hid (a0 = none → len0 = 0 ∧ cap0 = 0)) := by
    by_cases h : 200 < len0
    · exact .inl ⟨h, Lib.hid (TB0.out h), Lib.hid (fun hh => by have := TN0.out hh; omega)⟩
    · exact .inr ⟨by omega, Lib.hid (TA0.out h), TN0⟩
  clear TA0 TB0 TN0 TK0
  rcases hkey with ⟨h200, HE, TN⟩ | ⟨h200, HE, TN⟩
  all_goals
    go_enter Try.func6, Try.ntmps6
    go_upto_region 2 with (at_builtin; refine Own.wpList_append2_any _ rfl _ _ 25 rfl w.heap.size 5 i0 (.int .u8 0) 1 1 Try.underlying25 hi hz0 hz1 hz2 rfl (by decide) (.slice (some ⟨w.heap.size, 0, none⟩) 0 0) 0 _ rfl hown0 a0 _ cap0 (Byt.bvs y0) rfl HE.out TN.out TC.out (Byt.bvs_oneCell _) (by unfold maxLen; omega) (by omega) (by simp) ?_; intro v' w1 hown' hgrow _)
    obtain ⟨ho, hB, ad, cap, rfl⟩ := HQ.out w1 v' _ hown' (by have := HE.out; omega) hgrow
    have HM2 := HM.out
    have CR := Lib.hid (Buf.read_any ad y0.length cap y0 w1 rfl (by omega) ho.rd.1 ho.pos.2.2.1)
    have HS : Hid (∀ W, Below w1.heap.size w1 W → (convert 25 9 (.slice ad y0.length cap)).run Try.prog W = .ok (.string (Byt.strB y0)) W) := Lib.hid (fun W h => ho.str h)
    have HB1 := Lib.hid hB
    clear hown' hgrow hown0 TC HQ HE TN h200 hlc0 hcm0 TI0 TJ0 hi hz0 hz1 hz2 ho hB
    go_wp2_with fail
    refine (CR.out).mono ?_; rintro e w2 ⟨gr, rfl, hr, hB2, hge, hsz⟩
    have CN := Lib.hid (Buf.new_any 300 (by omega) w2)
    have HR := Lib.hid hr
    have HB2 := Lib.hid hB2
    have HGE := Lib.hid hge
    have HSZ := Lib.hid hsz
    clear hr hB2 hge hsz
    go_wp2_with fail
    refine (CN.out).mono ?_; rintro e w3 ⟨rfl, hw, hB3, hsz3⟩
    have HBo : Hid (Buf.Both w2 w3 gr w2.heap.size 300 y0 []) := Lib.hid ⟨HR.out.kept hB3, ⟨none, hw⟩, by have := HSZ.out; omega, hB3.mono (by have := HSZ.out; omega)⟩
    clear hw hB3 hsz3 HR CN CR
    generalize w2.heap.size = gw at *
    go_wp2_with fail
    go_loopw [5] (fun _ wr => ∃ (l p : List UInt8), Hid (y0 = p ++ l) ∧ Hid (Buf.Both w2 wr gr gw 300 l p)) (fun _ wr => Buf.leftIn gr wr)
    case atStart => exact ⟨y0, [], Lib.hid rfl, HBo⟩
    case round =>
      obtain ⟨l, p, hy, hb⟩ := hrel
      have hlen := congrArg List.length hy.out
      rw [List.length_append] at hlen
      cases l with
      | nil =>
        have CL := Lib.hid (Buf.left_any gr _ wr hb.out.rd)
        simp only [List.length_nil] at CL
        have hpy : p = y0 := by have := hy.out; rw [List.append_nil] at this; exact this.symm
        subst hpy
        have HBW : Hid (Below w1.heap.size w1 wr ∧ Below w.heap.size w wr) := Lib.hid (by
          have h1 := HB2.out.trans (hb.out.below.mono HGE.out)
          exact ⟨h1, HB1.out.trans (h1.mono HB1.out.size)⟩)
        have HRD := Lib.hid hb.out.rd
        obtain ⟨row, hw⟩ := hb.out.wr
        have CD := Lib.hid (Buf.done_any gw gw 300 (0, p) row wr hw (by simp only; omega))
        clear hy hb hw hlen HB1 HB2 HGE HSZ HBo
        go_wp2_with fail
        refine (CL.out).mono ?_; rintro e w' ⟨rfl, rfl⟩
        go_wp2_with fail
        refine (CD.out).mono ?_; rintro e w5 ⟨v, rfl, ho, hB5⟩
        obtain ⟨cd, ccap, rfl, -⟩ := Own.shape ho
        have hR1 := Byt.OwnB.str ho (Below.refl _ _)
        have hR2 := HS.out w5 (HBW.out.1.trans (hB5.mono HBW.out.1.size))
        have CE := Lib.hid (Buf.end_any gr _ w5 (HRD.out.kept hB5))
        have HB5 := Lib.hid (HBW.out.2.trans (hB5.mono HBW.out.2.size))
        have CW := Lib.hid (Buf.works_any w5)
        simp only [if_true] at hR1 CE
        clear ho hB5 HBW HRD CD CL HS
        go_wp2_with fail
        refine (CE.out).mono ?_; rintro e w' ⟨rfl, rfl⟩
        go_wp2_with fail
        refine (CW.out).mono ?_; rintro e w6 ⟨rfl, hB6⟩
        go_wp2_with fail
        go_ret
        exact ⟨rfl, HB5.out.trans (hB6.mono HB5.out.size)⟩
      | cons b l =>
        have CL := Lib.hid (Buf.left_any gr _ wr hb.out.rd)
        have CN := Lib.hid (hb.out.num (by omega) (by omega))
        have hpos : 0 < (b :: l).length := by simp
        have HL := Lib.hid (hb.out.rd.left)
        simp only at CL HL
        generalize b :: l = l at *
        have hpos' : (0 : Int) < (l.length : Int) := by omega
        have HLEN := Lib.hid hlen
        clear hlen hb
        go_wp2_with fail
        refine (CL.out).mono ?_; rintro e w' ⟨rfl, rfl⟩
        go_wp2_with fail
        refine (CL.out).mono ?_; rintro e w' ⟨rfl, rfl⟩
        go_wp2_with fail
        refine (CN.out).mono ?_; rintro e w4 (⟨x, r, hx, hlr, rfl, hb⟩ | ⟨x, er, her, rfl, hrr, hB4⟩)
        · have h1 := BufM.sev_pos x
          have h2 := congrArg List.length hlr
          rw [List.length_append] at h2
          have h3 := HLEN.out
          have CE := Lib.hid (Buf.err_any gr _ w4 hb.rd)
          have CL2 := Lib.hid (Buf.left_any gr _ w4 hb.rd)
          have CP := Lib.hid (hb.put x hx (by omega) (by omega))
          have hlt : (r.length : Int) < (l.length : Int) := by omega
          have HY : Hid (y0 = (p ++ BufM.sev x) ++ r) := Lib.hid (by rw [hy.out, hlr, List.append_assoc])
          have HLT : Hid (r.length < l.length) := Lib.hid (by omega)
          simp only at CE CL2
          clear h1 h2 h3 hlr hb CN CL hy HBo
          go_wp2_with fail
          refine (CE.out).mono ?_; rintro e w' ⟨rfl, rfl⟩
          go_wp2_with fail
          refine (CL2.out).mono ?_; rintro e w' ⟨rfl, rfl⟩
          go_wp2_with fail
          refine (CP.out).mono ?_; rintro e w5 ⟨rfl, hb⟩
          have HBo := Lib.hid hb
          have HL5 := Lib.hid hb.rd.left
          clear hb
          go_wp2_with fail
          go_roundw
          case rel => exact ⟨r, p ++ BufM.sev x, HY, HBo⟩
          case measure => rw [HL5.out, HL.out]; exact HLT.out
        · have CE := Lib.hid (Buf.err_any gr _ w4 hrr)
          have CW := Lib.hid (Buf.works_any w4)
          have hne : (er != 0) = true := by simpa using her
          have HB4 : Hid (Below w.heap.size w w4) := Lib.hid (by
            have h1 := HB2.out.trans (hB4.mono HGE.out)
            exact HB1.out.trans (h1.mono HB1.out.size))
          simp only at CE
          clear hrr her hB4 CN CL hy HBo
          go_wp2_with fail
          refine (CE.out).mono ?_; rintro e w' ⟨rfl, rfl⟩
          go_wp2_with fail
          refine (CW.out).mono ?_; rintro e w6 ⟨rfl, hB6⟩
          go_wp2_with fail
          first | exact ⟨rfl, HB4.out.trans (hB6.mono HB4.out.size)⟩ | (go_ret; exact ⟨rfl, HB4.out.trans (hB6.mono HB4.out.size)⟩)

set_option maxRecDepth 100000 in
theorem lifted (os : Os) (started : os.Started) (H : Type) (enc : TypeId × Value → H) :
    ReturnsInHanded {} Try.checked os 6 .any (Rows.bufOnceSpec.pre6 enc Try.prog Try.f6 Rows.bufOnceRow.domain false) (Rows.bufOnceSpec.post enc Try.prog Try.f6 false true false false) := by
  refine returnsInHanded_of_change (C := Try.checked) own started (by kernel_rfl) Try.func6
    (ChangeSpec.witness6 (enc := enc) (C := Try.checked) false ⟨#[], #[.slice none 0 0], []⟩ 8 (by kernel_rfl) (by kernel_rfl) (by kernel_rfl) (by kernel_rfl)) ?_
  intro W base args ds gs before hval0 hW hcnd _
  have hval : ∀ (j : Nat) t v, Try.f6.params[j]? = some t → args[j]? = some v → Value.okWide Try.prog W .any base t v := hval0
  have hW' := hW
  obtain ⟨p, q, hA0, hV, rfl, hfz, hnd⟩ := hW
  have hA : DataW.TrodAll enc Try.prog W 0 (fun _ => true) true Try.f6.params.toList args.toList ds p := hA0
  rw [Try.params6] at hA hval
  obtain ⟨v0, vs0, d0, ds0, p0, q0, hargs, rfl, rfl, h0, r0⟩ := trodAll_cons hA
  obtain ⟨rfl, rfl, rfl⟩ := trodAll_nil r0
  obtain rfl : args = #[v0] := by cases args; simp_all
  obtain ⟨rfl, rfl⟩ := trodVars_none hV
  obtain ⟨a0, len0, cap0, rfl⟩ := okWide_slice Try.underlying25 (hval 0 25 v0 rfl rfl)
  have k0 := h0
  have lt0 : ∀ x ∈ p0, x.block < W.heap.size := by obtain ⟨m, hm⟩ := k0; exact DataW.trod_lt m _ _ _ hm
  obtain ⟨z0, w0⟩ : ∃ zs, IsRow .u8 W a0 len0 cap0 zs := by
    obtain ⟨fuel, hf⟩ := h0
    rcases open_ints Try.underlying25 Try.underlying5 (by kernel_rfl) hf with ⟨hcs, _⟩ | ⟨x, l, c, zs, hcs, _, hl, hm, hz, _, hcell, hwz⟩
    · simp [Value.cells] at hcs
      obtain ⟨rfl, rfl, rfl⟩ := hcs
      exact ⟨[], .inl ⟨rfl, rfl, rfl, rfl⟩⟩
    · simp [Value.cells] at hcs
      obtain ⟨rfl, rfl, rfl⟩ := hcs
      exact ⟨zs, .inr ⟨_, rfl, hl, hm, by simpa using hz, hcell, hwz⟩⟩
  clear hA0 hval0
  refine (walk a0 len0 cap0 z0 W w0).mono fun e W' ⟨he, bel⟩ => ?_
  subst he
  exact ⟨_, rfl, _, _, _, [], _, [], hW', trodAll_mk1 (shut_bool Try.underlying4 _), (trodAll_cons_mk (Below.trod laidOut (by kernel_rfl) (of_decide_eq_true (by kernel_rfl)) k0 bel lt0) trodAll_mk0), rfl, bel.frame _, fun h => by cases h⟩

theorem over : Rows.bufOnceRow.holds Try.pinned (OpenSpec.ofChange Rows.bufOnceSpec) :=
  OpenClaim.holds_of_wide 6 Try.f6 rfl rfl rfl rfl rfl rfl rfl ⟨rfl, rfl, rfl, rfl, rfl⟩ rfl rfl rfl rfl rfl (by kernel_rfl) Try.func6 (by kernel_rfl)
    (of_decide_eq_true (by kernel_rfl)) (by unfold Func.isWrapper; first | (rw [if_pos (by decide +kernel)]; kernel_rfl) | (rw [if_neg (by decide +kernel)]; exact ⟨rfl, rfl⟩))
    (fun os started H enc _ => lifted os started H enc)

theorem proved : Rows.BufOnceSaid := over
#print axioms proved
end Go.Proofs.Ytglnclcoinpakaa.lawBufOnce
