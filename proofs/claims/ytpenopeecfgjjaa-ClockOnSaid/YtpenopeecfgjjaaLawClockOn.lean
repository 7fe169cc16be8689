/- Once it is synced a clock never goes back, whatever is corrected and however its hardware clock goes. -/
import Derived.Test.YtpenopeecfgjjaaRows
import Derived.WalkKit
import Derived.ProofKit
import Derived.OpenShut
import Derived.ShutString
import Derived.ChangeOld
import Derived.Below
import Derived.Test.YtpenopeecfgjjaaClkD
import Derived.Test.YtpenopeecfgjjaaClkV
namespace Go.Proofs.Ytpenopeecfgjjaa.lawClockOn
open Go.ChangeShapes Go.WideShapes Go.ChangeAt Go.RowKit
open Go.ChangeMaps (open_string shut_string)
set_option linter.unusedVariables false

theorem own : ownKnob Try.prog.godebug = none := by kernel_rfl
theorem laidOut : laidOutB Try.prog = true := by kernel_rfl

/-! The walk: the Go text returns true and writes nothing that was there. -/
set_option linter.unusedSimpArgs false in
set_option maxRecDepth 100000 in
set_option maxHeartbeats 4000000 in
theorem walk (a0 : Int) (a1 : Option Addr) (len1 cap1 : Nat) (z1 : List Clk.Ac) (w : World) (w0 : (Lit.int .i64 a0).wf = true) (w1 : Clk.Acts w w.heap.size a1 len1 cap1 z1) :
    Calls Try.prog 4 #[.int .i64 a0, .slice a1 len1 cap1] w fun e w' => e = .returned (.bool true) ∧ Below w.heap.size w w' := by
  have hlen := w1.len_
  have hl1 := w1.le
  have hl2 := w1.max
  have HLA : Hid (∀ k, k < len1 → ∃ b off, a1 = some ⟨b, off, none⟩ ∧ (0 ≤ (z1.getD k default).1 ∧ (z1.getD k default).1 ≤ 255) ∧ ∀ W, Below w.heap.size w W → W.cell? ⟨b, off + k * 2, none⟩ = some (.int .u8 (z1.getD k default).1) ∧ W.cell? ⟨b, off + k * 2 + 1, none⟩ = some (.int .i64 (z1.getD k default).2)) := Lib.hid (fun k hk => by
    obtain ⟨b, off, e1, hb, hc⟩ := w1.rd.at_ (i := k) (by omega)
    have ho := w1.ok (z1.getD k default) (by rw [List.getD_eq_getElem?_getD, List.getElem?_eq_getElem (by omega)]; exact List.getElem_mem _)
    exact ⟨b, off, e1, ho.1, fun W hB => Clk.at22 (hc.below hB hb)⟩)
  clear w0 w1 hlen
  have CN := Lib.hid (Clk.knew_any 256 (Below.refl w.heap.size w))
  have CB : Hid (∀ g W, Clk.Kept w W g 256 (0, 0, 0) → Calls Try.prog 14 #[.pointer (some ⟨g, 0, none⟩), .int .i64 a0] W fun e w' => e = .returned (.int .i64 0) ∧ Clk.Kept w w' g 256 (2, Clk.tiV a0, 0)) := Lib.hid (fun g W h => Clk.kboot_any a0 h)
  have CW : Hid (∀ g W a l, Clk.Kept w W g 256 (2, a, l) → Calls Try.prog 10 #[.pointer (some ⟨g, 0, none⟩)] W fun e w' => e = .returned (.tuple #[.int .i64 a, .bool true]) ∧ W = w') := Lib.hid (fun g W a l h => Clk.know_any h)
  have CP : Hid (∀ g W a l, Clk.Kept w W g 256 (2, a, l) → Calls Try.prog 11 #[.pointer (some ⟨g, 0, none⟩)] W fun e w' => e = .returned (.int .i64 2) ∧ W = w') := Lib.hid (fun g W a l h => Clk.kphase_any h)
  have CO : Hid (∀ g W a l k x, 0 ≤ k → k ≤ 255 → k % 8 ≠ 3 → Clk.Kept w W g 256 (2, a, l) → Calls Try.prog 9 #[.pointer (some ⟨g, 0, none⟩), .agg #[.int .i64 0, .int .i64 0, .int .i64 0, .int .i64 0], .int .i64 256, .agg #[.int .u8 k, .int .i64 x]] W fun e w' => ∃ y b a' l', e = .returned (.tuple #[y, .bool b]) ∧ a ≤ a' ∧ Clk.Kept w w' g 256 (2, a', l')) := Lib.hid (fun g W a l k x k0 k1 hk h => by
    refine (Clk.kone_any 256 k x k0 k1 hk h).mono ?_
    rintro e w' ⟨y, b, he, hp⟩
    obtain ⟨h1, h2⟩ := Clk.on_step k x (Slw.sg_bd 256).1 (Slw.sg_bd 256).2 h.ok rfl hk
    generalize Clk.nxt (Slw.sgV 256) k x (2, a, l) = s at *
    obtain ⟨p, a', l'⟩ := s
    simp only at h1 h2
    subst h1
    exact ⟨y, b, a', l', he, h2, hp⟩)
  have C9 := Lib.hid (fun W => Clk.works22_any W)
  generalize Clk.tiV a0 = t at *
  go_enter Try.func4, Try.ntmps4
  go_wp2_with fail
  refine (CN.out).mono ?_; rintro e w3 ⟨g, _, rfl, hZ, _⟩
  have HZ := Lib.hid hZ
  clear hZ CN
  go_wp2_with fail
  refine (CB.out _ _ HZ.out).mono ?_; rintro e w4 ⟨rfl, hZ⟩
  have HY := Lib.hid hZ
  clear hZ HZ CB
  go_wp2_with fail
  refine (CW.out _ _ _ _ HY.out).mono ?_; rintro e w' ⟨rfl, rfl⟩
  go_wp2_with fail
  go_loopw [6, 8] (fun o i wr => ∃ (k : Nat) (a l : Int), k ≤ len1 ∧ k ≤ 60 ∧ o = .int .i64 a ∧ i = .int .i64 k ∧ Hid (Clk.Kept w wr g 256 (2, a, l))) (fun o i _ => 60 - (intOf i).toNat)
  case atStart => exact ⟨0, t, 0, by omega, by omega, rfl, rfl, HY⟩
  case round =>
    clear HY
    obtain ⟨k, a, l, hk1, hk2, rfl, rfl, HB⟩ := hrel
    by_cases hlt : k < len1 ∧ k < 60
    · obtain ⟨hlt1, hlt2⟩ := hlt
      obtain ⟨b, off, rfl, hbd, hcl⟩ := HLA.out k hlt1
      have HCL := Lib.hid hcl
      generalize z1.getD k default = z at *
      obtain ⟨kk, x⟩ := z
      clear hcl
      simp only at HCL hbd
      obtain ⟨kk0, kk1⟩ := hbd
      obtain ⟨c0, c1⟩ := HCL.out wr HB.out.bel
      by_cases hm : kk % 8 = 3
      · clear CO CW CP
        go_wp2_with fail
        go_roundw
        case rel => exact ⟨k + 1, a, l, by omega, by omega, rfl, by go_num, HB⟩
        case measure => simp [intOf]; omega
      · have e0 : (kk % 8 == 3) = false := beq_eq_false_iff_ne.2 hm
        have CO1 := Lib.hid (CO.out g wr a l kk x kk0 kk1 hm HB.out)
        clear CO hm
        go_wp2_with fail
        refine (CO1.out).mono ?_; rintro e w5 ⟨y, b2, a2, l2, rfl, ha, hP⟩
        have HP := Lib.hid hP
        clear hP CO1 c0 c1 HCL HB
        have e2 : decide (a2 < a) = false := decide_eq_false (by omega)
        go_wp2_with fail
        refine (CW.out _ _ _ _ HP.out).mono ?_; rintro e w' ⟨rfl, rfl⟩
        go_wp2_with fail
        refine (CP.out _ _ _ _ HP.out).mono ?_; rintro e w' ⟨rfl, rfl⟩
        go_wp2_with fail
        go_roundw
        case rel => exact ⟨k + 1, a2, l2, by omega, by omega, rfl, by go_num, HP⟩
        case measure => simp [intOf]; omega
    · have HF := Lib.hid HB.out.bel
      clear HB
      have HE : Hid (∀ W, Below wr.heap.size wr W → Below w.heap.size w W) := Lib.hid (fun W h => HF.out.trans (h.mono HF.out.size))
      by_cases hl : k < len1
      · have e1 : decide ((k : Int) < 60) = false := decide_eq_false (by omega)
        clear hlt
        go_wp2_with fail
        refine (C9.out _).mono ?_; rintro e w' ⟨rfl, hB⟩
        go_wp2_with fail
        go_ret
        exact ⟨rfl, HE.out _ hB⟩
      · clear hlt
        go_wp2_with fail
        refine (C9.out _).mono ?_; rintro e w' ⟨rfl, hB⟩
        go_wp2_with fail
        go_ret
        exact ⟨rfl, HE.out _ hB⟩

set_option maxRecDepth 100000 in
theorem lifted (os : Os) (started : os.Started) (H : Type) (enc : TypeId × Value → H) :
    ReturnsInHanded {} Try.checked os 4 .any (Rows.clockOnSpec.pre6 enc Try.prog Try.f4 Rows.clockOnRow.domain false) (Rows.clockOnSpec.post enc Try.prog Try.f4 false true false false) := by
  refine returnsInHanded_of_change (C := Try.checked) own started (by kernel_rfl) Try.func4
    (ChangeSpec.witness6 (enc := enc) (C := Try.checked) false ⟨#[], #[.int .i64 0, .slice none 0 0], []⟩ 8 (by kernel_rfl) (by kernel_rfl) (by kernel_rfl) (by kernel_rfl)) ?_
  intro W base args ds gs before hval0 hW hcnd _
  have hval : ∀ (j : Nat) t v, Try.f4.params[j]? = some t → args[j]? = some v → Value.okWide Try.prog W .any base t v := hval0
  have hW' := hW
  obtain ⟨p, q, hA0, hV, rfl, hfz, hnd⟩ := hW
  have hA : DataW.TrodAll enc Try.prog W 0 (fun _ => true) true Try.f4.params.toList args.toList ds p := hA0
  rw [Try.params4] at hA hval
  obtain ⟨v0, vs0, d0, ds0, p0, q0, hargs, rfl, rfl, h0, r0⟩ := trodAll_cons hA
  obtain ⟨v1, vs1, d1, ds1, p1, q1, rfl, rfl, rfl, h1, r1⟩ := trodAll_cons r0
  obtain ⟨rfl, rfl, rfl⟩ := trodAll_nil r1
  obtain rfl : args = #[v0, v1] := by cases args; simp_all
  obtain ⟨rfl, rfl⟩ := trodVars_none hV
  obtain ⟨a0, rfl, rfl, rfl, w0⟩ := open_int Try.underlying2 (hval 0 2 v0 rfl rfl) h0
  obtain ⟨a1, len1, cap1, rfl⟩ := okWide_slice Try.underlying22 (hval 1 22 v1 rfl rfl)
  have k1 := h1
  have lt1 : ∀ x ∈ p1, x.block < W.heap.size := by obtain ⟨m, hm⟩ := k1; exact DataW.trod_lt m _ _ _ hm
  obtain ⟨z1, w1⟩ : ∃ zs, Clk.Acts W W.heap.size a1 len1 cap1 zs := by
    obtain ⟨fuel, hf⟩ := h1
    exact Clk.open_acts rfl (by simpa [Value.cells] using hf)
  clear hA0 hval0
  refine (walk a0 a1 len1 cap1 z1 W w0 w1).mono fun e W' ⟨he, bel⟩ => ?_
  subst he
  exact ⟨_, rfl, _, _, _, [], _, [], hW', trodAll_mk1 (shut_bool Try.underlying4 _), (trodAll_cons_mk (shut_int Try.underlying2 w0) (trodAll_cons_mk (Below.trod laidOut (by kernel_rfl) (of_decide_eq_true (by kernel_rfl)) k1 bel lt1) trodAll_mk0)), rfl, bel.frame _, fun h => by cases h⟩

theorem over : Rows.clockOnRow.holds Try.pinned (OpenSpec.ofChange Rows.clockOnSpec) :=
  OpenClaim.holds_of_wide 4 Try.f4 rfl rfl rfl rfl rfl rfl rfl ⟨rfl, rfl, rfl, rfl, rfl⟩ rfl rfl rfl rfl rfl (by kernel_rfl) Try.func4 (by kernel_rfl)
    (of_decide_eq_true (by kernel_rfl)) (by unfold Func.isWrapper; first | (rw [if_pos (by decide +kernel)]; kernel_rfl) | (rw [if_neg (by decide +kernel)]; exact ⟨rfl, rfl⟩))
    (fun os started H enc _ => lifted os started H enc)

theorem proved : Rows.ClockOnSaid := over
#print axioms proved
end Go.Proofs.Ytpenopeecfgjjaa.lawClockOn
