/- Any readings, sorted, and without those at both ends, are as the document says, and those that were handed in stay. -/
import Derived.Test.YtldlgonpkeekdaaRows
import Derived.WalkKit
import Derived.ProofKit
import Derived.OpenShut
import Derived.ShutString
import Derived.ChangeOld
import Derived.Below
import Derived.Test.YtldlgonpkeekdaaTrmE
namespace Go.Proofs.Ytldlgonpkeekdaa.lawTrimTrims
open Go.ChangeShapes Go.WideShapes Go.ChangeAt Go.RowKit
open Go.ChangeMaps (open_string shut_string)
set_option linter.unusedVariables false

theorem own : ownKnob Try.prog.godebug = none := by kernel_rfl
theorem laidOut : laidOutB Try.prog = true := by kernel_rfl

/-- What the walk is told of a slice of integers that came in. -/
def IsRow (k : IntKind) (w : World) (a : Option Addr) (len cap : Nat) (zs : List Int) : Prop :=
  (a = none ∧ len = 0 ∧ cap = 0 ∧ zs = []) ∨
  ∃ x, a = some x ∧ len ≤ cap ∧ cap ≤ maxLen ∧ zs.length = cap ∧ (∀ i, i < zs.length → w.cell? (x.add i) = some (.int k (zs.getD i 0))) ∧ ∀ n ∈ zs, (Lit.int k n).wf = true

/-! The walk: the Go text returns true and writes nothing that was there. -/
set_option linter.unusedSimpArgs false in
set_option maxRecDepth 100000 in
set_option maxHeartbeats 4000000 in
theorem walk (a0 : Int) (a1 : Option Addr) (len1 cap1 : Nat) (z1 : List Int) (w : World) (w0 : (Lit.int .i64 a0).wf = true) (w1 : IsRow .i64 w a1 len1 cap1 z1) :
    Calls Try.prog 3 #[.int .i64 a0, .slice a1 len1 cap1] w fun e w' => e = .returned (.bool true) ∧ Below w.heap.size w w' := by
  obtain ⟨l, hS, rfl, h64⟩ := I64s.row_sl w1
  have C0 := Lib.hid (Trm.tcut_any a1 cap1 l w hS)
  have HN := Lib.hid (show (l.take 40).length ≤ 40 by rw [List.length_take]; omega)
  have HT : (l.take 40).take 40 = l.take 40 := List.take_of_length_le HN.out
  have H64 := Lib.hid (h64.take 40)
  have HB1 : Hid (∀ W V, Below w.heap.size w W → Below W.heap.size W V → Below w.heap.size w V) := Lib.hid (fun W V h1 h2 => h1.trans (h2.mono h1.size))
  have C9 := Lib.hid (fun W => Trm.works24_any W)
  clear w0 w1 h64
  generalize l.take 40 = m at *
  have HM : m.length ≤ 1000 := by have := HN.out; omega
  have CC : Hid (∀ W ad cap, I64s.Sl W ad cap m → Calls Try.prog 8 #[.slice ad m.length cap] W (I64s.ListPost m W)) := Lib.hid (fun W ad cap h => by
    have := Trm.tcut_any ad cap m W h
    rwa [HT] at this)
  have C1 := Lib.hid (fun W ad cap (h : I64s.Sl W ad cap m) => Trm.tsort_any ad cap m W h HM)
  have C2 := Lib.hid (fun W ad cap (h : I64s.Sl W ad cap m) => Trm.rtsort_any ad cap m W h HM)
  have C3 := Lib.hid (fun W ad cap (h : I64s.Sl W ad cap m) => Trm.ttrim_any a0 ad cap m W h HM)
  have C4 := Lib.hid (fun W ad cap (h : I64s.Sl W ad cap m) => Trm.rttrim_any a0 ad cap m W h HM)
  have C5 := Lib.hid (fun W ad1 ad2 cap1 cap2 (h1 : I64s.Sl W ad1 cap1 (Trm.srt m)) (h2 : I64s.Sl W ad2 cap2 (Trm.srt m)) => Trm.tsame_yes ad1 ad2 cap1 cap2 (Trm.srt m) W h1 h2 (by rw [Trm.srt_len]; exact HM))
  have C6 := Lib.hid (fun W ad1 ad2 cap1 cap2 (h1 : I64s.Sl W ad1 cap1 (Trm.trm a0 m)) (h2 : I64s.Sl W ad2 cap2 (Trm.trm a0 m)) => Trm.tsame_yes ad1 ad2 cap1 cap2 (Trm.trm a0 m) W h1 h2 (by rw [Trm.trm_len]; omega))
  have C7 := Lib.hid (fun W ad1 ad2 cap1 cap2 (h1 : I64s.Sl W ad1 cap1 m) (h2 : I64s.Sl W ad2 cap2 m) => Trm.tsame_yes ad1 ad2 cap1 cap2 m W h1 h2 HM)
  clear HM HT HN H64
  unfold I64s.ListPost Trm.PartPost at *
  generalize Trm.srt m = s at *
  generalize Trm.trm a0 m = t at *
  go_enter Try.func3, Try.ntmps3
  go_wp2_with fail
  refine (C0.out).mono ?_; rintro e w1 ⟨ad1, cp1, rfl, ho1, hB1⟩
  have S1 := ho1.sl
  have B1 := Lib.hid hB1
  clear ho1 hB1
  go_wp2_with fail
  refine (CC.out w1 ad1 cp1 S1).mono ?_; rintro e w2 ⟨ad2, cp2, rfl, ho2, hB2⟩
  have S2 := ho2.sl
  have S12 := S1.below hB2
  have B2 := Lib.hid (HB1.out _ _ B1.out hB2)
  clear ho2 hB2 S1
  go_wp2_with fail
  refine (C1.out w2 ad1 cp1 S12).mono ?_; rintro e w3 ⟨ad3, cp3, rfl, ho3, hB3⟩
  have S3 := ho3.sl
  have S13 := S12.below hB3
  have S23 := S2.below hB3
  have B3 := Lib.hid (HB1.out _ _ B2.out hB3)
  clear ho3 hB3 S12 S2
  go_wp2_with fail
  refine (C2.out w3 ad2 cp2 S23).mono ?_; rintro e w4 ⟨ad4, cp4, rfl, ho4, hB4⟩
  have S4 := ho4.sl
  have S14 := S13.below hB4
  have S24 := S23.below hB4
  have S34 := S3.below hB4
  have B4 := Lib.hid (HB1.out _ _ B3.out hB4)
  clear ho4 hB4 S13 S23 S3
  go_wp2_with fail
  refine (C5.out w4 ad3 ad4 cp3 cp4 S34 S4).mono ?_; rintro e w5 ⟨rfl, hB5⟩
  have S15 := S14.below hB5
  have S25 := S24.below hB5
  have B5 := Lib.hid (HB1.out _ _ B4.out hB5)
  clear hB5 S14 S24 S34 S4
  go_wp2_with fail
  refine (C3.out w5 ad1 cp1 S15).mono ?_; rintro e w6 ⟨ad6, cp6, rfl, S6, hB6⟩
  have S16 := S15.below hB6
  have S26 := S25.below hB6
  have B6 := Lib.hid (HB1.out _ _ B5.out hB6)
  clear hB6 S15 S25
  go_wp2_with fail
  refine (C4.out w6 ad2 cp2 S26).mono ?_; rintro e w7 ⟨ad7, cp7, rfl, S7, hB7⟩
  have S17 := S16.below hB7
  have S27 := S26.below hB7
  have S67 := S6.below hB7
  have B7 := Lib.hid (HB1.out _ _ B6.out hB7)
  clear hB7 S16 S26 S6
  go_wp2_with fail
  refine (C6.out w7 ad6 ad7 cp6 cp7 S67 S7).mono ?_; rintro e w8 ⟨rfl, hB8⟩
  have S18 := S17.below hB8
  have S28 := S27.below hB8
  have B8 := Lib.hid (HB1.out _ _ B7.out hB8)
  clear hB8 S17 S27 S67 S7
  go_wp2_with fail
  refine (C7.out w8 ad1 ad2 cp1 cp2 S18 S28).mono ?_; rintro e w10 ⟨rfl, hB10⟩
  have BE := Lib.hid (HB1.out _ _ B8.out hB10)
  clear hB10 S18 S28
  go_wp2_with fail
  refine (C9.out _).mono ?_; rintro e w9 ⟨rfl, hB⟩
  have B9 := Lib.hid (BE.out.trans (hB.mono BE.out.size))
  clear hB
  go_wp2_with fail
  go_ret
  exact ⟨rfl, B9.out⟩

set_option maxRecDepth 100000 in
theorem lifted (os : Os) (started : os.Started) (H : Type) (enc : TypeId × Value → H) :
    ReturnsInHanded {} Try.checked os 3 .any (Rows.trimTrimsSpec.pre6 enc Try.prog Try.f3 Rows.trimTrimsRow.domain false) (Rows.trimTrimsSpec.post enc Try.prog Try.f3 false true false false) := by
  refine returnsInHanded_of_change (C := Try.checked) own started (by kernel_rfl) Try.func3
    (ChangeSpec.witness6 (enc := enc) (C := Try.checked) false ⟨#[], #[.int .i64 0, .slice none 0 0], []⟩ 8 (by kernel_rfl) (by kernel_rfl) (by kernel_rfl) (by kernel_rfl)) ?_
  intro W base args ds gs before hval0 hW hcnd _
  have hval : ∀ (j : Nat) t v, Try.f3.params[j]? = some t → args[j]? = some v → Value.okWide Try.prog W .any base t v := hval0
  have hW' := hW
  obtain ⟨p, q, hA0, hV, rfl, hfz, hnd⟩ := hW
  have hA : DataW.TrodAll enc Try.prog W 0 (fun _ => true) true Try.f3.params.toList args.toList ds p := hA0
  rw [Try.params3] at hA hval
  obtain ⟨v0, vs0, d0, ds0, p0, q0, hargs, rfl, rfl, h0, r0⟩ := trodAll_cons hA
  obtain ⟨v1, vs1, d1, ds1, p1, q1, rfl, rfl, rfl, h1, r1⟩ := trodAll_cons r0
  obtain ⟨rfl, rfl, rfl⟩ := trodAll_nil r1
  obtain rfl : args = #[v0, v1] := by cases args; simp_all
  obtain ⟨rfl, rfl⟩ := trodVars_none hV
  obtain ⟨a0, rfl, rfl, rfl, w0⟩ := open_int Try.underlying3 (hval 0 3 v0 rfl rfl) h0
  obtain ⟨a1, len1, cap1, rfl⟩ := okWide_slice Try.underlying22 (hval 1 22 v1 rfl rfl)
  have k1 := h1
  have lt1 : ∀ x ∈ p1, x.block < W.heap.size := by obtain ⟨m, hm⟩ := k1; exact DataW.trod_lt m _ _ _ hm
  obtain ⟨z1, w1⟩ : ∃ zs, IsRow .i64 W a1 len1 cap1 zs := by
    obtain ⟨fuel, hf⟩ := h1
    rcases open_ints Try.underlying22 Try.underlying2 (by kernel_rfl) hf with ⟨hcs, _⟩ | ⟨x, l, c, zs, hcs, _, hl, hm, hz, _, hcell, hwz⟩
    · simp [Value.cells] at hcs
      obtain ⟨rfl, rfl, rfl⟩ := hcs
      exact ⟨[], .inl ⟨rfl, rfl, rfl, rfl⟩⟩
    · simp [Value.cells] at hcs
      obtain ⟨rfl, rfl, rfl⟩ := hcs
      exact ⟨zs, .inr ⟨_, rfl, hl, hm, by simpa using hz, hcell, hwz⟩⟩
  clear hA0 hval0
  refine (walk a0 a1 len1 cap1 z1 W w0 w1).mono fun e W' ⟨he, bel⟩ => ?_
  subst he
  exact ⟨_, rfl, _, _, _, [], _, [], hW', trodAll_mk1 (shut_bool Try.underlying4 _), (trodAll_cons_mk (shut_int Try.underlying3 w0) (trodAll_cons_mk (Below.trod laidOut (by kernel_rfl) (of_decide_eq_true (by kernel_rfl)) k1 bel lt1) trodAll_mk0)), rfl, bel.frame _, fun h => by cases h⟩

theorem over : Rows.trimTrimsRow.holds Try.pinned (OpenSpec.ofChange Rows.trimTrimsSpec) :=
  OpenClaim.holds_of_wide 3 Try.f3 rfl rfl rfl rfl rfl rfl rfl ⟨rfl, rfl, rfl, rfl, rfl⟩ rfl rfl rfl rfl rfl (by kernel_rfl) Try.func3 (by kernel_rfl)
    (of_decide_eq_true (by kernel_rfl)) (by unfold Func.isWrapper; first | (rw [if_pos (by decide +kernel)]; kernel_rfl) | (rw [if_neg (by decide +kernel)]; exact ⟨rfl, rfl⟩))
    (fun os started H enc _ => lifted os started H enc)

theorem proved : Rows.TrimTrimsSaid := over
#print axioms proved
end Go.Proofs.Ytldlgonpkeekdaa.lawTrimTrims
