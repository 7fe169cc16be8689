/- Behind as many steps as are told, each wide enough, the clock has gone on by all of them and the whole correction, and nothing is left. -/
import Derived.Test.YtogdbdpncnnjbaaRows
import Derived.WalkKit
import Derived.ProofKit
import Derived.OpenShut
import Derived.ShutString
import Derived.ChangeOld
import Derived.Below
import Derived.Test.YtogdbdpncnnjbaaSlwM
import Derived.Test.YtogdbdpncnnjbaaIntK
namespace Go.Proofs.Ytogdbdpncnnjbaa.lawSlewDone
open Go.ChangeShapes Go.WideShapes Go.ChangeAt Go.RowKit
open Go.ChangeMaps (open_string shut_string)
set_option linter.unusedVariables false

theorem own : ownKnob Try.prog.godebug = none := by kernel_rfl
theorem laidOut : laidOutB Try.prog = true := by kernel_rfl

/-- What the walk is told of a slice of integers that came in. -/
def IsRow (k : IntKind) (w : World) (a : Option Addr) (len cap : Nat) (zs : List Int) : Prop :=
  (a = none ∧ len = 0 ∧ cap = 0 ∧ zs = []) ∨
  ∃ x, a = some x ∧ len ≤ cap ∧ cap ≤ maxLen ∧ zs.length = cap ∧ (∀ i, i < zs.length → w.cell? (x.add i) = some (.int k (zs.getD i 0))) ∧ ∀ n ∈ zs, (Lit.int k n).wf = true

/-! The walk: the Go text returns true and writes nothing that was there. -/
set_option linter.unusedSimpArgs false in
set_option maxRecDepth 100000 in
set_option maxHeartbeats 4000000 in
theorem walk (a0 : Int) (a1 : Int) (a2 : Option Addr) (len2 cap2 : Nat) (z2 : List Int) (w : World) (w0 : (Lit.int .u8 a0).wf = true) (w1 : (Lit.int .i16 a1).wf = true) (w2 : IsRow .u8 w a2 len2 cap2 z2) :
    Calls Try.prog 5 #[.int .u8 a0, .int .i16 a1, .slice a2 len2 cap2] w fun e w' => e = .returned (.bool true) ∧ Below w.heap.size w w' := by
  obtain ⟨hl1, hl2⟩ := IntK.RowK.len (k := .u8) w2
  unfold maxLen at hl2
  obtain ⟨k0, k1⟩ := bounds_u8 w0
  obtain ⟨k2, k3⟩ := bounds_i16 w1
  have HLA := Lib.hid (fun i (hi : i < len2) => IntK.RowK.at (k := .u8) w2 hi)
  have C9 := Lib.hid (fun W => Slw.works21_any W)
  obtain ⟨m, hm⟩ : ∃ m, a0 + 1 = m := ⟨_, rfl⟩
  have m0 : 1 ≤ m := by omega
  have m1 : m ≤ 256 := by omega
  clear w0 w1 w2
  obtain ⟨q, hq⟩ : ∃ q, a1.tmod (100 * m) = q := ⟨_, rfl⟩
  have hq2 := IntK.tmod_two a1 (100 * m - 1) (by omega)
  rw [show 100 * m - 1 + 1 = 100 * m by omega, hq] at hq2
  obtain ⟨q0, q1⟩ := hq2
  have hne : 100 * m ≠ 0 := by omega
  obtain ⟨N, hN, N0, HN⟩ := Slw.done_ticks m0 (show (q.natAbs : Int) ≤ 100 * m by omega)
  have hsa : Slw.saV q = q := by unfold Slw.saV Span.clampV; rw [if_neg (by omega), if_neg (by omega)]
  have hsg : Slw.sgV m = m := by unfold Slw.sgV Span.clampV; rw [if_neg (by omega), if_neg (by omega)]
  have CN := Slw.hnew_any m (Below.refl w.heap.size w)
  have CA := fun W (h : Slw.Has w W w.heap.size m 0) => Slw.haim_any q h
  have CL := fun W (h : Slw.Has w W w.heap.size m q) => Slw.hleft_any h
  have CT := fun W (h : Slw.Has w W w.heap.size m q) => Slw.hticks_any h
  have CL0 := fun W (h : Slw.Has w W w.heap.size m 0) => Slw.hleft_any h
  have CT0 := fun W (h : Slw.Has w W w.heap.size m 0) => Slw.hticks_any h
  rw [hsa] at CA
  rw [hsg, hN] at CT
  rw [hsg, show Slw.stV m 0 = 0 from Slw.st_zero m0] at CT0
  obtain ⟨g, hg⟩ : ∃ g, Hid (w.heap.size = g) := ⟨_, Lib.hid rfl⟩
  have HB0 := Lib.hid (fun W (h : Slw.Has w W w.heap.size m 0) => h.bel)
  rw [hg.out] at CN CA CL CT CL0 CT0
  have DN := Lib.hid CN
  have DA := Lib.hid CA
  have DL := Lib.hid CL
  have DT := Lib.hid CT
  have DL0 := Lib.hid CL0
  have DT0 := Lib.hid CT0
  clear CN CA CL CT CL0 CT0 hsa hN HB0
  have hsgH := Lib.hid hsg
  clear hsg
  have t1 : decide (100 < (N : Int)) = false := decide_eq_false (by omega)
  have t2 : decide ((N : Int) < 0) = false := decide_eq_false (by omega)
  go_enter Try.func5, Try.ntmps5
  go_wp2_with fail
  refine (DN.out).mono ?_; rintro e w3 ⟨rfl, hZ⟩
  have HZ := Lib.hid hZ
  clear hZ
  go_wp2_with fail
  refine (DA.out _ HZ.out).mono ?_; rintro e w4 ⟨rfl, hZ⟩
  have HY := Lib.hid hZ
  clear hZ HZ DN DA
  go_wp2_with fail
  refine (DL.out _ HY.out).mono ?_; rintro e w' ⟨rfl, rfl⟩
  go_wp2_with fail
  refine (DT.out _ HY.out).mono ?_; rintro e w5 ⟨rfl, hZ⟩
  have HX := Lib.hid hZ
  clear hZ HY DL DT
  go_wp2_with fail
  clear t1 t2 hq hne
  go_loopw [11, 12, 13] (fun a v i wr => ∃ (k : Nat) (A G l : Int), k ≤ N ∧ i = .int .i64 k ∧ a = .int .i64 A ∧ v = .int .i64 G ∧ 0 ≤ A ∧ A ≤ 512 * (k : Int) ∧ Hid (G = A + (q - l)) ∧ -100000 ≤ G ∧ G ≤ 200000 ∧ -25600 ≤ l ∧ l ≤ 25600 ∧ Hid ((l.natAbs : Int) ≤ ((N - k : Nat) : Int) * m) ∧ Hid (Slw.Has w wr g m l)) (fun _ _ i _ => N - (intOf i).toNat)
  case atStart => exact ⟨0, 0, 0, q, by omega, rfl, rfl, rfl, by omega, by omega, Lib.hid (by omega), by omega, by omega, by omega, by omega, HN, HX⟩
  case round =>
    clear HX HN
    obtain ⟨k, A, G, l, hk1, rfl, rfl, rfl, hA0, hA1, HG, hG0, hG1, hl0, hl3, HL, HB⟩ := hrel
    by_cases hlt : k < N
    · have CS := fun i : Int => Slw.hstep_any i HB.out
      rw [hsgH.out] at CS
      have DS : Hid (∀ i : Int, m ≤ i → i ≤ 512 → ∃ d, -256 ≤ d ∧ d ≤ 256 ∧ -25600 ≤ l - d ∧ l - d ≤ 25600 ∧ Hid (((l - d).natAbs : Int) ≤ ((N - (k + 1) : Nat) : Int) * m) ∧
          Hid (Calls Try.prog 10 #[.pointer (some ⟨g, 0, none⟩), .int .i64 i] wr fun e w' => e = .returned (.int .i64 (i + d)) ∧ Slw.Has w w' g m (l - d))) := Lib.hid (fun i h0 h1 => by
        have hi : Slw.siV i = i := by unfold Slw.siV Span.clampV; rw [if_neg (by omega), if_neg (by omega)]
        have C := CS i
        rw [hi] at C
        obtain ⟨d0, d1, d2, d3, d4⟩ := Slw.sm_bd (l := l) m0 (show 0 ≤ i by omega)
        exact ⟨_, by omega, by omega, by omega, by omega, Lib.hid (Slw.done_step hlt m0 h0 HL.out), Lib.hid C⟩)
      clear CS HL
      by_cases hlm : k < len2
      · obtain ⟨b, off, rfl, hcl, hwf⟩ := HLA.out k hlm
        have hck := hcl wr HB.out.bel
        obtain ⟨y0, y1⟩ := bounds_u8 hwf
        generalize z2.getD k 0 = z at *
        clear hcl hwf HB
        obtain ⟨d, d0, d1, d2, d3, HL2, CS⟩ := DS.out (m + z) (by omega) (by omega)
        have HG2 : Hid (G + (m + z + d) = A + (m + z) + (q - (l - d))) := Lib.hid (by have := HG.out; omega)
        clear DS HG
        generalize l - d = l2 at *
        go_wp2_with fail
        refine (CS.out).mono ?_; rintro e w6 ⟨rfl, hP⟩
        have HP := Lib.hid hP
        clear hP
        go_wp2_with fail
        go_roundw
        case rel => exact ⟨k + 1, A + (m + z), G + (m + z + d), l2, by omega, by go_num, rfl, rfl, by omega, by omega, HG2, by have := HG2.out; omega, by have := HG2.out; omega, d2, d3, HL2, HP⟩
        case measure => simp [intOf]; omega
      · clear HB
        obtain ⟨d, d0, d1, d2, d3, HL2, CS⟩ := DS.out m (by omega) (by omega)
        have HG2 : Hid (G + (m + d) = A + m + (q - (l - d))) := Lib.hid (by have := HG.out; omega)
        clear DS HG
        generalize l - d = l2 at *
        have t3 : decide ((k : Int) < (len2 : Int)) = false := decide_eq_false (by omega)
        go_wp2_with fail
        refine (CS.out).mono ?_; rintro e w6 ⟨rfl, hP⟩
        have HP := Lib.hid hP
        clear hP
        go_wp2_with fail
        go_roundw
        case rel => exact ⟨k + 1, A + m, G + (m + d), l2, by omega, by go_num, rfl, rfl, by omega, by omega, HG2, by have := HG2.out; omega, by have := HG2.out; omega, d2, d3, HL2, HP⟩
        case measure => simp [intOf]; omega
    · obtain rfl : k = N := by omega
      have hl : l = 0 := by have := HL.out; rw [Nat.sub_self, Int.ofNat_zero, Int.zero_mul] at this; omega
      subst hl
      have e1 : (G == A + q) = true := beq_iff_eq.2 (by have := HG.out; omega)
      have t3 : decide ((k : Int) < (k : Int)) = false := decide_eq_false (by omega)
      clear HG HL hlt
      go_wp2_with fail
      refine (DL0.out _ HB.out).mono ?_; rintro e w' ⟨rfl, rfl⟩
      go_wp2_with fail
      refine (DT0.out _ HB.out).mono ?_; rintro e w6 ⟨rfl, hZ⟩
      have HE : Hid (∀ W, Below w6.heap.size w6 W → Below w.heap.size w W) := Lib.hid (fun W h => hZ.bel.trans (h.mono hZ.bel.size))
      clear hZ HB
      go_wp2_with fail
      refine (C9.out _).mono ?_; rintro e w' ⟨rfl, hB⟩
      go_wp2_with fail
      go_ret
      exact ⟨rfl, HE.out _ hB⟩

set_option maxRecDepth 100000 in
theorem lifted (os : Os) (started : os.Started) (H : Type) (enc : TypeId × Value → H) :
    ReturnsInHanded {} Try.checked os 5 .any (Rows.slewDoneSpec.pre6 enc Try.prog Try.f5 Rows.slewDoneRow.domain false) (Rows.slewDoneSpec.post enc Try.prog Try.f5 false true false false) := by
  refine returnsInHanded_of_change (C := Try.checked) own started (by kernel_rfl) Try.func5
    (ChangeSpec.witness6 (enc := enc) (C := Try.checked) false ⟨#[], #[.int .u8 0, .int .i16 0, .slice none 0 0], []⟩ 8 (by kernel_rfl) (by kernel_rfl) (by kernel_rfl) (by kernel_rfl)) ?_
  intro W base args ds gs before hval0 hW hcnd _
  have hval : ∀ (j : Nat) t v, Try.f5.params[j]? = some t → args[j]? = some v → Value.okWide Try.prog W .any base t v := hval0
  have hW' := hW
  obtain ⟨p, q, hA0, hV, rfl, hfz, hnd⟩ := hW
  have hA : DataW.TrodAll enc Try.prog W 0 (fun _ => true) true Try.f5.params.toList args.toList ds p := hA0
  rw [Try.params5] at hA hval
  obtain ⟨v0, vs0, d0, ds0, p0, q0, hargs, rfl, rfl, h0, r0⟩ := trodAll_cons hA
  obtain ⟨v1, vs1, d1, ds1, p1, q1, rfl, rfl, rfl, h1, r1⟩ := trodAll_cons r0
  obtain ⟨v2, vs2, d2, ds2, p2, q2, rfl, rfl, rfl, h2, r2⟩ := trodAll_cons r1
  obtain ⟨rfl, rfl, rfl⟩ := trodAll_nil r2
  obtain rfl : args = #[v0, v1, v2] := by cases args; simp_all
  obtain ⟨rfl, rfl⟩ := trodVars_none hV
  obtain ⟨a0, rfl, rfl, rfl, w0⟩ := open_int Try.underlying5 (hval 0 5 v0 rfl rfl) h0
  obtain ⟨a1, rfl, rfl, rfl, w1⟩ := open_int Try.underlying41 (hval 1 41 v1 rfl rfl) h1
  obtain ⟨a2, len2, cap2, rfl⟩ := okWide_slice Try.underlying42 (hval 2 42 v2 rfl rfl)
  have k2 := h2
  have lt2 : ∀ x ∈ p2, x.block < W.heap.size := by obtain ⟨m, hm⟩ := k2; exact DataW.trod_lt m _ _ _ hm
  obtain ⟨z2, w2⟩ : ∃ zs, IsRow .u8 W a2 len2 cap2 zs := by
    obtain ⟨fuel, hf⟩ := h2
    rcases open_ints Try.underlying42 Try.underlying5 (by kernel_rfl) hf with ⟨hcs, _⟩ | ⟨x, l, c, zs, hcs, _, hl, hm, hz, _, hcell, hwz⟩
    · simp [Value.cells] at hcs
      obtain ⟨rfl, rfl, rfl⟩ := hcs
      exact ⟨[], .inl ⟨rfl, rfl, rfl, rfl⟩⟩
    · simp [Value.cells] at hcs
      obtain ⟨rfl, rfl, rfl⟩ := hcs
      exact ⟨zs, .inr ⟨_, rfl, hl, hm, by simpa using hz, hcell, hwz⟩⟩
  clear hA0 hval0
  refine (walk a0 a1 a2 len2 cap2 z2 W w0 w1 w2).mono fun e W' ⟨he, bel⟩ => ?_
  subst he
  exact ⟨_, rfl, _, _, _, [], _, [], hW', trodAll_mk1 (shut_bool Try.underlying4 _), (trodAll_cons_mk (shut_int Try.underlying5 w0) (trodAll_cons_mk (shut_int Try.underlying41 w1) (trodAll_cons_mk (Below.trod laidOut (by kernel_rfl) (of_decide_eq_true (by kernel_rfl)) k2 bel lt2) trodAll_mk0))), rfl, bel.frame _, fun h => by cases h⟩

theorem over : Rows.slewDoneRow.holds Try.pinned (OpenSpec.ofChange Rows.slewDoneSpec) :=
  OpenClaim.holds_of_wide 5 Try.f5 rfl rfl rfl rfl rfl rfl rfl ⟨rfl, rfl, rfl, rfl, rfl⟩ rfl rfl rfl rfl rfl (by kernel_rfl) Try.func5 (by kernel_rfl)
    (of_decide_eq_true (by kernel_rfl)) (by unfold Func.isWrapper; first | (rw [if_pos (by decide +kernel)]; kernel_rfl) | (rw [if_neg (by decide +kernel)]; exact ⟨rfl, rfl⟩))
    (fun os started H enc _ => lifted os started H enc)

theorem proved : Rows.SlewDoneSaid := over
#print axioms proved
end Go.Proofs.Ytogdbdpncnnjbaa.lawSlewDone
