/- No step goes back, whatever is aimed at, and what a step adds to what the clock would go, or takes from it, is no more than may be made. -/
import Derived.Test.YtogdbdpncnnjbaaRows
import Derived.WalkKit
import Derived.ProofKit
import Derived.OpenShut
import Derived.ShutString
import Derived.ChangeOld
import Derived.Below
import Derived.Test.YtogdbdpncnnjbaaSlwB
import Derived.Test.YtogdbdpncnnjbaaIntK
namespace Go.Proofs.Ytogdbdpncnnjbaa.lawSlewOn
open Go.ChangeShapes Go.WideShapes Go.ChangeAt Go.RowKit
open Go.ChangeMaps (open_string shut_string)
set_option linter.unusedVariables false

theorem own : ownKnob Try.prog.godebug = none := by kernel_rfl
theorem laidOut : laidOutB Try.prog = true := by kernel_rfl

/-- What the walk is told of a slice of integers that came in. -/
def IsRow (k : IntKind) (w : World) (a : Option Addr) (len cap : Nat) (zs : List Int) : Prop :=
  (a = none ∧ len = 0 ∧ cap = 0 ∧ zs = []) ∨
  ∃ x, a = some x ∧ len ≤ cap ∧ cap ≤ maxLen ∧ zs.length = cap ∧ (∀ i, i < zs.length → w.cell? (x.add i) = some (.int k (zs.getD i 0))) ∧ ∀ n ∈ zs, (Lit.int k n).wf = true

/-! The walk: the Go text returns true and writes nothing that was there. -/
set_option linter.unusedSimpArgs false in
set_option maxRecDepth 100000 in
set_option maxHeartbeats 4000000 in
theorem walk (a0 : Int) (a1 : Int) (a2 : Option Addr) (len2 cap2 : Nat) (z2 : List Int) (w : World) (w0 : (Lit.int .i64 a0).wf = true) (w1 : (Lit.int .i64 a1).wf = true) (w2 : IsRow .i64 w a2 len2 cap2 z2) :
    Calls Try.prog 4 #[.int .i64 a0, .int .i64 a1, .slice a2 len2 cap2] w fun e w' => e = .returned (.bool true) ∧ Below w.heap.size w w' := by
  obtain ⟨hl1, hl2⟩ := IntK.RowK.len (k := .i64) w2
  unfold maxLen at hl2
  have HLA := Lib.hid (fun i (hi : i < len2) => IntK.RowK.at (k := .i64) w2 hi)
  have CN := Lib.hid (Slw.hnew_any a0 (Below.refl w.heap.size w))
  have CA := Lib.hid (fun W (h : Slw.Has w W w.heap.size a0 0) => Slw.haim_any a1 h)
  have C9 := Lib.hid (fun W => Slw.works21_any W)
  clear w0 w1 w2
  generalize Slw.saV a1 = c at *
  obtain ⟨g, hg⟩ : ∃ g, Hid (w.heap.size = g) := ⟨_, Lib.hid rfl⟩
  have CN2 := CN.out
  rw [hg.out] at CN2 CA
  clear CN
  have CN := Lib.hid CN2
  clear CN2
  go_enter Try.func4, Try.ntmps4
  go_wp2_with fail
  refine (CN.out).mono ?_; rintro e w3 ⟨rfl, hZ⟩
  have HZ := Lib.hid hZ
  clear hZ
  go_wp2_with fail
  refine (CA.out _ HZ.out).mono ?_; rintro e w4 ⟨rfl, hZ⟩
  have HY := Lib.hid hZ
  clear hZ HZ CN CA
  go_wp2_with fail
  go_loopw [8] (fun i wr => ∃ (k : Nat) (l : Int), k ≤ len2 ∧ k ≤ 60 ∧ i = .int .i64 k ∧ Hid (Slw.Has w wr g a0 l)) (fun i _ => 60 - (intOf i).toNat)
  case atStart => exact ⟨0, c, by omega, by omega, rfl, HY⟩
  case round =>
    clear HY
    obtain ⟨k, l, hk1, hk2, rfl, HB⟩ := hrel
    by_cases hlt : k < len2 ∧ k < 60
    · obtain ⟨hlt1, hlt2⟩ := hlt
      obtain ⟨b, off, rfl, hcl, hwf⟩ := HLA.out k hlt1
      have HCL := Lib.hid hcl
      generalize z2.getD k 0 = z at *
      clear hcl hwf
      have hck := HCL.out wr HB.out.bel
      have CL := Lib.hid (Slw.hleft_any HB.out)
      have CS := Lib.hid (Slw.hstep_any z HB.out)
      obtain ⟨i0, i1⟩ := Slw.si_bd z
      obtain ⟨s0, s1⟩ := Slw.sg_bd a0
      have hj : min (max z 0) 1048576 = Slw.siV z := by unfold Slw.siV Span.clampV; split <;> (try split) <;> omega
      generalize Slw.siV z = j at *
      obtain ⟨m0, m1, m2, m3, m4⟩ := Slw.sm_bd (l := l) s0 i0
      generalize Slw.smV (Slw.sgV a0) l j = d at *
      obtain ⟨v, hv⟩ : ∃ v, j + d = v := ⟨_, rfl⟩
      obtain ⟨l2, hl2⟩ : ∃ x, l - d = x := ⟨_, rfl⟩
      rw [hv, hl2] at CS
      have hlo := HB.out.lo
      have hhi := HB.out.hi
      have CM := Lib.hid (fun W (h : Slw.Has w W g a0 l2) => Slw.hleft_any h)
      have e1 : decide (v < 0) = false := decide_eq_false (by omega)
      have e2 : decide (256 < v - j) = false := decide_eq_false (by omega)
      have e3 : decide (256 < j - v) = false := decide_eq_false (by omega)
      have e4 : (l - l2 != v - j) = false := by rw [show l - l2 = v - j by omega]; exact bne_self_eq_false _
      have b1 : 0 ≤ v ∧ v ≤ 2000000 := by omega
      have b2 : -1152921504606847976 ≤ l2 ∧ l2 ≤ 1152921504606847976 := by omega
      obtain ⟨b3, b4⟩ := b1
      obtain ⟨b5, b6⟩ := b2
      clear m0 m1 m2 m3 m4 hv hl2 s0 s1
      go_wp2_with fail
      refine (CL.out).mono ?_; rintro e w' ⟨rfl, rfl⟩
      go_wp2_with fail
      refine (CS.out).mono ?_; rintro e w5 ⟨rfl, hP⟩
      have HP := Lib.hid hP
      clear hP hck CL CS HCL HB
      go_wp2_with fail
      refine (CM.out _ HP.out).mono ?_; rintro e w' ⟨rfl, rfl⟩
      go_wp2_with fail
      go_roundw
      case rel => exact ⟨k + 1, l2, by omega, by omega, by go_num, HP⟩
      case measure => simp [intOf]; omega
    · have HF := Lib.hid HB.out.bel
      clear HB
      have HE : Hid (∀ W, Below wr.heap.size wr W → Below w.heap.size w W) := Lib.hid (fun W h => HF.out.trans (h.mono HF.out.size))
      by_cases hl : k < len2
      · have e1 : decide ((k : Int) < 60) = false := decide_eq_false (by omega)
        clear hlt
        go_wp2_with fail
        refine (C9.out _).mono ?_; rintro e w' ⟨rfl, hB⟩
        go_wp2_with fail
        go_ret
        exact ⟨rfl, HE.out _ hB⟩
      · clear hlt
        go_wp2_with fail
        refine (C9.out _).mono ?_; rintro e w' ⟨rfl, hB⟩
        go_wp2_with fail
        go_ret
        exact ⟨rfl, HE.out _ hB⟩

set_option maxRecDepth 100000 in
theorem lifted (os : Os) (started : os.Started) (H : Type) (enc : TypeId × Value → H) :
    ReturnsInHanded {} Try.checked os 4 .any (Rows.slewOnSpec.pre6 enc Try.prog Try.f4 Rows.slewOnRow.domain false) (Rows.slewOnSpec.post enc Try.prog Try.f4 false true false false) := by
  refine returnsInHanded_of_change (C := Try.checked) own started (by kernel_rfl) Try.func4
    (ChangeSpec.witness6 (enc := enc) (C := Try.checked) false ⟨#[], #[.int .i64 0, .int .i64 0, .slice none 0 0], []⟩ 8 (by kernel_rfl) (by kernel_rfl) (by kernel_rfl) (by kernel_rfl)) ?_
  intro W base args ds gs before hval0 hW hcnd _
  have hval : ∀ (j : Nat) t v, Try.f4.params[j]? = some t → args[j]? = some v → Value.okWide Try.prog W .any base t v := hval0
  have hW' := hW
  obtain ⟨p, q, hA0, hV, rfl, hfz, hnd⟩ := hW
  have hA : DataW.TrodAll enc Try.prog W 0 (fun _ => true) true Try.f4.params.toList args.toList ds p := hA0
  rw [Try.params4] at hA hval
  obtain ⟨v0, vs0, d0, ds0, p0, q0, hargs, rfl, rfl, h0, r0⟩ := trodAll_cons hA
  obtain ⟨v1, vs1, d1, ds1, p1, q1, rfl, rfl, rfl, h1, r1⟩ := trodAll_cons r0
  obtain ⟨v2, vs2, d2, ds2, p2, q2, rfl, rfl, rfl, h2, r2⟩ := trodAll_cons r1
  obtain ⟨rfl, rfl, rfl⟩ := trodAll_nil r2
  obtain rfl : args = #[v0, v1, v2] := by cases args; simp_all
  obtain ⟨rfl, rfl⟩ := trodVars_none hV
  obtain ⟨a0, rfl, rfl, rfl, w0⟩ := open_int Try.underlying2 (hval 0 2 v0 rfl rfl) h0
  obtain ⟨a1, rfl, rfl, rfl, w1⟩ := open_int Try.underlying2 (hval 1 2 v1 rfl rfl) h1
  obtain ⟨a2, len2, cap2, rfl⟩ := okWide_slice Try.underlying39 (hval 2 39 v2 rfl rfl)
  have k2 := h2
  have lt2 : ∀ x ∈ p2, x.block < W.heap.size := by obtain ⟨m, hm⟩ := k2; exact DataW.trod_lt m _ _ _ hm
  obtain ⟨z2, w2⟩ : ∃ zs, IsRow .i64 W a2 len2 cap2 zs := by
    obtain ⟨fuel, hf⟩ := h2
    rcases open_ints Try.underlying39 Try.underlying2 (by kernel_rfl) hf with ⟨hcs, _⟩ | ⟨x, l, c, zs, hcs, _, hl, hm, hz, _, hcell, hwz⟩
    · simp [Value.cells] at hcs
      obtain ⟨rfl, rfl, rfl⟩ := hcs
      exact ⟨[], .inl ⟨rfl, rfl, rfl, rfl⟩⟩
    · simp [Value.cells] at hcs
      obtain ⟨rfl, rfl, rfl⟩ := hcs
      exact ⟨zs, .inr ⟨_, rfl, hl, hm, by simpa using hz, hcell, hwz⟩⟩
  clear hA0 hval0
  refine (walk a0 a1 a2 len2 cap2 z2 W w0 w1 w2).mono fun e W' ⟨he, bel⟩ => ?_
  subst he
  exact ⟨_, rfl, _, _, _, [], _, [], hW', trodAll_mk1 (shut_bool Try.underlying4 _), (trodAll_cons_mk (shut_int Try.underlying2 w0) (trodAll_cons_mk (shut_int Try.underlying2 w1) (trodAll_cons_mk (Below.trod laidOut (by kernel_rfl) (of_decide_eq_true (by kernel_rfl)) k2 bel lt2) trodAll_mk0))), rfl, bel.frame _, fun h => by cases h⟩

theorem over : Rows.slewOnRow.holds Try.pinned (OpenSpec.ofChange Rows.slewOnSpec) :=
  OpenClaim.holds_of_wide 4 Try.f4 rfl rfl rfl rfl rfl rfl rfl ⟨rfl, rfl, rfl, rfl, rfl⟩ rfl rfl rfl rfl rfl (by kernel_rfl) Try.func4 (by kernel_rfl)
    (of_decide_eq_true (by kernel_rfl)) (by unfold Func.isWrapper; first | (rw [if_pos (by decide +kernel)]; kernel_rfl) | (rw [if_neg (by decide +kernel)]; exact ⟨rfl, rfl⟩))
    (fun os started H enc _ => lifted os started H enc)

theorem proved : Rows.SlewOnSaid := over
#print axioms proved
end Go.Proofs.Ytogdbdpncnnjbaa.lawSlewOn
