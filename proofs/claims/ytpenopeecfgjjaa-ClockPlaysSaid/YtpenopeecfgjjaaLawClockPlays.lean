/- Whatever calls are made, a clock is in the phase and tells what the document says. -/
import Derived.Test.YtpenopeecfgjjaaRows
import Derived.WalkKit
import Derived.ProofKit
import Derived.OpenShut
import Derived.ShutString
import Derived.ChangeOld
import Derived.Below
import Derived.Test.YtpenopeecfgjjaaClkD
import Derived.Test.YtpenopeecfgjjaaClkV
import Derived.Deep.CutRange
import Derived.BigQuiet
import Derived.Deep.QuietTactic
namespace Go.Proofs.Ytpenopeecfgjjaa.lawClockPlays
open Go.ChangeShapes Go.WideShapes Go.ChangeAt Go.RowKit
open Go.ChangeMaps (open_string shut_string)
set_option linter.unusedVariables false

theorem own : ownKnob Try.prog.godebug = none := by kernel_rfl
theorem laidOut : laidOutB Try.prog = true := by kernel_rfl

/-! The walk: the Go text returns true and writes nothing that was there. -/
set_option linter.unusedSimpArgs false in
set_option maxRecDepth 100000 in
set_option maxHeartbeats 4000000 in
theorem walk (a0 : Int) (a1 : Option Addr) (len1 cap1 : Nat) (z1 : List Clk.Ac) (w : World) (w0 : (Lit.int .i64 a0).wf = true) (w1 : Clk.Acts w w.heap.size a1 len1 cap1 z1) :
    Calls Try.prog 3 #[.int .i64 a0, .slice a1 len1 cap1] w fun e w' => e = .returned (.bool true) ∧ Below w.heap.size w w' := by
  have hlen := w1.len_
  have hl1 := w1.le
  have hl2 := w1.max
  have HLA : Hid (∀ k, k < len1 → ∃ b off, a1 = some ⟨b, off, none⟩ ∧ (0 ≤ (z1.getD k default).1 ∧ (z1.getD k default).1 ≤ 255) ∧ ∀ W, Below w.heap.size w W → W.cell? ⟨b, off + k * 2, none⟩ = some (.int .u8 (z1.getD k default).1) ∧ W.cell? ⟨b, off + k * 2 + 1, none⟩ = some (.int .i64 (z1.getD k default).2)) := Lib.hid (fun k hk => by
    obtain ⟨b, off, e1, hb, hc⟩ := w1.rd.at_ (i := k) (by omega)
    have ho := w1.ok (z1.getD k default) (by rw [List.getD_eq_getElem?_getD, List.getElem?_eq_getElem (by omega)]; exact List.getElem_mem _)
    exact ⟨b, off, e1, ho.1, fun W hB => Clk.at22 (hc.below hB hb)⟩)
  clear w0 w1 hlen
  have C9 := Lib.hid (fun W => Clk.works22_any W)
  have CN := Lib.hid (Clk.knew_any a0 (Below.refl w.heap.size w))
  have CR := Lib.hid (fun W => Clk.rknew_any a0 W)
  obtain ⟨s0, s1⟩ := Slw.sg_bd a0
  obtain ⟨v, hv⟩ : ∃ v, Hid (Slw.sgV a0 = v) := ⟨_, Lib.hid rfl⟩
  have CR2 := CR.out
  rw [hv.out] at s0 s1 CR2
  clear CR
  have CR := Lib.hid CR2
  clear CR2
  unfold Clk.rkV at CR
  go_enter Try.func3, Try.ntmps3
  go_wp2_with fail
  refine (CN.out).mono ?_; rintro x w3 ⟨g, _, rfl, hZ, _⟩
  have HZ := Lib.hid hZ
  clear hZ CN
  go_wp2_with fail
  refine (CR.out _).mono ?_; rintro x w4 ⟨rfl, hB⟩
  have HT := Lib.hid (Clk.Two.begin (HZ.out.on hB) hv.out (0, 0, 0))
  clear HZ hB CR
  obtain ⟨e, he⟩ : ∃ e, Hid (w4.heap.size = e) := ⟨_, Lib.hid rfl⟩
  go_wp2_with fail
  generalize (w4.alloc (.cells #[.int .i64 0, .int .i64 0, .int .i64 0, .int .i64 v] 28)) = w5 at *
  rw [he.out] at HT ⊢
  clear he
  go_loopw [8] (fun i wr => ∃ (k : Nat) (s : Clk.Kl), k ≤ len1 ∧ k ≤ 60 ∧ i = .int .i64 k ∧ Hid (Clk.Two w wr g e a0 v s s)) (fun i _ => 60 - (intOf i).toNat)
  case atStart => exact ⟨0, (0, 0, 0), by omega, by omega, rfl, HT⟩
  case round =>
    clear HT
    obtain ⟨k, s, hk1, hk2, rfl, HB⟩ := hrel
    by_cases hlt : k < len1 ∧ k < 60
    · obtain ⟨hlt1, hlt2⟩ := hlt
      obtain ⟨b, off, rfl, hbd, hcl⟩ := HLA.out k hlt1
      have HCL := Lib.hid hcl
      generalize z1.getD k default = z at *
      obtain ⟨kk, x⟩ := z
      clear hcl
      simp only at HCL hbd
      obtain ⟨kk0, kk1⟩ := hbd
      have CO : Hid (∀ W, Clk.Two w W g e a0 v s s → Calls Try.prog 9 #[.pointer (some ⟨g, 0, none⟩), .agg #[.int .i64 s.1, .int .i64 s.2.1, .int .i64 s.2.2, .int .i64 v], .int .i64 a0, .agg #[.int .u8 kk, .int .i64 x]] W fun q w' => ∃ p2 a2 l2, q = .returned (.tuple #[.agg #[.int .i64 p2, .int .i64 a2, .int .i64 l2, .int .i64 v], .bool true]) ∧ Clk.Two w w' g e a0 v (p2, a2, l2) s) := Lib.hid (fun W hW => by
        refine (Clk.tone_any kk x kk0 kk1 hW).mono ?_
        rintro q w' ⟨hq, h2⟩
        generalize Clk.nxt v kk x s = s2 at *
        obtain ⟨p2, a2, l2⟩ := s2
        exact ⟨p2, a2, l2, hq, h2⟩)
      have HF : Hid (∀ W, Below wr.heap.size wr W → Clk.Two w W g e a0 v s s ∧ (W.cell? ⟨b, off + k * 2, none⟩ = some (.int .u8 kk) ∧ W.cell? ⟨b, off + k * 2 + 1, none⟩ = some (.int .i64 x))) := Lib.hid (fun W hW => ⟨HB.out.on hW, HCL.out W (HB.out.on hW).kept.bel⟩)
      obtain ⟨p, a, l⟩ := s
      simp only at CO
      obtain ⟨c0, c1⟩ := (HF.out wr (Below.refl _ _)).2
      obtain ⟨q0, q1, q2, q3⟩ := Clk.blk4 HB.out.box
      simp only at q0 q1 q2 q3
      have HO := Lib.hid (HF.out wr (Below.refl _ _)).1
      have HOd := Lib.hid (HF.out wr.drew ((Below.refl _ _).drew)).1
      clear HB
      go_upto_region 6 with fail
      go_cut [7] from 15 to 70 (fun y W => y = .bool true ∧ ∃ s2 : Clk.Kl, Hid (Clk.Two w W g e a0 v s2 s2))
      case first =>
        go_region_with (go_at_call 9; refine (CO.out _ (by first | exact HO.out | exact HOd.out)).mono ?_; rintro q W ⟨p2, a2, l2, rfl, hZ⟩; obtain ⟨t0, t1, t2, t3⟩ := Clk.blk4 hZ.box; obtain ⟨f0, f1, f2, f3⟩ := Clk.free4 hZ.box; have HX := Lib.hid hZ; clear hZ)
        all_goals
          go_wp2_with fail
          go_meet
          case rel => exact ⟨rfl, (p2, a2, l2), Lib.hid (by first | exact HX.out.put (p2, a2, l2) | exact (HX.out.put (p2, a2, l2)).on ((Below.refl _ _).drew))⟩
      case rest =>
        obtain ⟨rfl, s2, HX⟩ := hcut
        obtain ⟨w7, rfl⟩ : ∃ z, z = wc := ⟨_, rfl⟩
        clear CO c0 c1 q0 q1 q2 q3 HO HOd HF HCL
        have b0 := HX.out.kept.ok.p0
        have CW := Lib.hid (Clk.know_any HX.out.kept)
        have HT4 : Hid (∀ n, Clk.Two w (w7.drewN n) g e a0 v s2 s2) := Lib.hid (fun n => HX.out.on (Own.below_drewN (Below.refl _ _) n))
        have CP := Lib.hid (fun n => Clk.kphase_any (HT4.out n).kept)
        have CL := Lib.hid (fun n => Clk.kleft_any (HT4.out n).kept)
        obtain ⟨q0, q1, q2, q3⟩ := Clk.blk4 HX.out.box
        have en : (Clk.nowB s2 == decide (0 < s2.1)) = true := by
          unfold Clk.nowB
          by_cases h : s2.1 = 0
          · rw [h]; rfl
          · rw [show (s2.1 == 0) = false from beq_eq_false_iff_ne.2 h, show decide (0 < s2.1) = true from decide_eq_true (by omega)]; rfl
        generalize Clk.nowB s2 = nb at *
        obtain ⟨p2, a2, l2⟩ := s2
        simp only at b0 CW CP CL q0 q1 q2 q3 en
        have e1 : (p2 != p2) = false := bne_self_eq_false _
        have e2 : (a2 != a2) = false := bne_self_eq_false _
        have e3 : (l2 != l2) = false := bne_self_eq_false _
        go_wp2_with fail
        refine (CW.out).mono ?_; rintro q w' ⟨rfl, rfl⟩
        go_upto_region 8 with fail
        go_quiet (first | (with_reducible exact Clk.quiet_same (CP.out _)) | (with_reducible exact Clk.quiet_same (CL.out _)))
        go_wp2_with fail
        go_roundw
        case rel => exact ⟨k + 1, (p2, a2, l2), by omega, by omega, by go_num, Lib.hid (HT4.out _)⟩
        case measure => simp [intOf]; omega
    · have HF := Lib.hid HB.out.kept.bel
      clear HB
      have HE : Hid (∀ W, Below wr.heap.size wr W → Below w.heap.size w W) := Lib.hid (fun W h => HF.out.trans (h.mono HF.out.size))
      by_cases hl : k < len1
      · have e1 : decide ((k : Int) < 60) = false := decide_eq_false (by omega)
        clear hlt
        go_wp2_with fail
        refine (C9.out _).mono ?_; rintro e w' ⟨rfl, hB⟩
        go_wp2_with fail
        go_ret
        exact ⟨rfl, HE.out _ hB⟩
      · clear hlt
        go_wp2_with fail
        refine (C9.out _).mono ?_; rintro e w' ⟨rfl, hB⟩
        go_wp2_with fail
        go_ret
        exact ⟨rfl, HE.out _ hB⟩

set_option maxRecDepth 100000 in
theorem lifted (os : Os) (started : os.Started) (H : Type) (enc : TypeId × Value → H) :
    ReturnsInHanded {} Try.checked os 3 .any (Rows.clockPlaysSpec.pre6 enc Try.prog Try.f3 Rows.clockPlaysRow.domain false) (Rows.clockPlaysSpec.post enc Try.prog Try.f3 false true false false) := by
  refine returnsInHanded_of_change (C := Try.checked) own started (by kernel_rfl) Try.func3
    (ChangeSpec.witness6 (enc := enc) (C := Try.checked) false ⟨#[], #[.int .i64 0, .slice none 0 0], []⟩ 8 (by kernel_rfl) (by kernel_rfl) (by kernel_rfl) (by kernel_rfl)) ?_
  intro W base args ds gs before hval0 hW hcnd _
  have hval : ∀ (j : Nat) t v, Try.f3.params[j]? = some t → args[j]? = some v → Value.okWide Try.prog W .any base t v := hval0
  have hW' := hW
  obtain ⟨p, q, hA0, hV, rfl, hfz, hnd⟩ := hW
  have hA : DataW.TrodAll enc Try.prog W 0 (fun _ => true) true Try.f3.params.toList args.toList ds p := hA0
  rw [Try.params3] at hA hval
  obtain ⟨v0, vs0, d0, ds0, p0, q0, hargs, rfl, rfl, h0, r0⟩ := trodAll_cons hA
  obtain ⟨v1, vs1, d1, ds1, p1, q1, rfl, rfl, rfl, h1, r1⟩ := trodAll_cons r0
  obtain ⟨rfl, rfl, rfl⟩ := trodAll_nil r1
  obtain rfl : args = #[v0, v1] := by cases args; simp_all
  obtain ⟨rfl, rfl⟩ := trodVars_none hV
  obtain ⟨a0, rfl, rfl, rfl, w0⟩ := open_int Try.underlying2 (hval 0 2 v0 rfl rfl) h0
  obtain ⟨a1, len1, cap1, rfl⟩ := okWide_slice Try.underlying22 (hval 1 22 v1 rfl rfl)
  have k1 := h1
  have lt1 : ∀ x ∈ p1, x.block < W.heap.size := by obtain ⟨m, hm⟩ := k1; exact DataW.trod_lt m _ _ _ hm
  obtain ⟨z1, w1⟩ : ∃ zs, Clk.Acts W W.heap.size a1 len1 cap1 zs := by
    obtain ⟨fuel, hf⟩ := h1
    exact Clk.open_acts rfl (by simpa [Value.cells] using hf)
  clear hA0 hval0
  refine (walk a0 a1 len1 cap1 z1 W w0 w1).mono fun e W' ⟨he, bel⟩ => ?_
  subst he
  exact ⟨_, rfl, _, _, _, [], _, [], hW', trodAll_mk1 (shut_bool Try.underlying4 _), (trodAll_cons_mk (shut_int Try.underlying2 w0) (trodAll_cons_mk (Below.trod laidOut (by kernel_rfl) (of_decide_eq_true (by kernel_rfl)) k1 bel lt1) trodAll_mk0)), rfl, bel.frame _, fun h => by cases h⟩

theorem over : Rows.clockPlaysRow.holds Try.pinned (OpenSpec.ofChange Rows.clockPlaysSpec) :=
  OpenClaim.holds_of_wide 3 Try.f3 rfl rfl rfl rfl rfl rfl rfl ⟨rfl, rfl, rfl, rfl, rfl⟩ rfl rfl rfl rfl rfl (by kernel_rfl) Try.func3 (by kernel_rfl)
    (of_decide_eq_true (by kernel_rfl)) (by unfold Func.isWrapper; first | (rw [if_pos (by decide +kernel)]; kernel_rfl) | (rw [if_neg (by decide +kernel)]; exact ⟨rfl, rfl⟩))
    (fun os started H enc _ => lifted os started H enc)

theorem proved : Rows.ClockPlaysSaid := over
#print axioms proved
end Go.Proofs.Ytpenopeecfgjjaa.lawClockPlays
