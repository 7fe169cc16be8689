/- The middle of any readings is as the document says, however great they are, and lies between those that are not left out. -/
import Derived.Test.YtldlgonpkeekdaaRows
import Derived.WalkKit
import Derived.ProofKit
import Derived.OpenShut
import Derived.ShutString
import Derived.ChangeOld
import Derived.Below
import Derived.Test.YtldlgonpkeekdaaTrmE
namespace Go.Proofs.Ytldlgonpkeekdaa.lawTrimMiddles
open Go.ChangeShapes Go.WideShapes Go.ChangeAt Go.RowKit
open Go.ChangeMaps (open_string shut_string)
set_option linter.unusedVariables false

theorem own : ownKnob Try.prog.godebug = none := by kernel_rfl
theorem laidOut : laidOutB Try.prog = true := by kernel_rfl

/-- What the walk is told of a slice of integers that came in. -/
def IsRow (k : IntKind) (w : World) (a : Option Addr) (len cap : Nat) (zs : List Int) : Prop :=
  (a = none ∧ len = 0 ∧ cap = 0 ∧ zs = []) ∨
  ∃ x, a = some x ∧ len ≤ cap ∧ cap ≤ maxLen ∧ zs.length = cap ∧ (∀ i, i < zs.length → w.cell? (x.add i) = some (.int k (zs.getD i 0))) ∧ ∀ n ∈ zs, (Lit.int k n).wf = true

/-! The walk: the Go text returns true and writes nothing that was there. -/
set_option linter.unusedSimpArgs false in
set_option maxRecDepth 100000 in
set_option maxHeartbeats 4000000 in
theorem walk (a0 : Int) (a1 : Option Addr) (len1 cap1 : Nat) (z1 : List Int) (w : World) (w0 : (Lit.int .i64 a0).wf = true) (w1 : IsRow .i64 w a1 len1 cap1 z1) :
    Calls Try.prog 5 #[.int .i64 a0, .slice a1 len1 cap1] w fun e w' => e = .returned (.bool true) ∧ Below w.heap.size w w' := by
  obtain ⟨l, hS, rfl, h64⟩ := I64s.row_sl w1
  have C0 := Lib.hid (Trm.tcut_any a1 cap1 l w hS)
  have HN := Lib.hid (show (l.take 40).length ≤ 40 by rw [List.length_take]; omega)
  have HT : (l.take 40).take 40 = l.take 40 := List.take_of_length_le HN.out
  have H64 := Lib.hid (h64.take 40)
  have HB1 : Hid (∀ W V, Below w.heap.size w W → Below W.heap.size W V → Below w.heap.size w V) := Lib.hid (fun W V h1 h2 => h1.trans (h2.mono h1.size))
  have C9 := Lib.hid (fun W => Trm.works24_any W)
  clear w0 w1 h64
  generalize l.take 40 = m at *
  have HM : m.length ≤ 1000 := by have := HN.out; omega
  have C1 := Lib.hid (fun W ad cap (h : I64s.Sl W ad cap m) => Trm.tmid_any a0 ad cap m W h HM H64.out)
  have C2 := Lib.hid (fun W ad cap (h : I64s.Sl W ad cap m) => Trm.rtmid_any a0 ad cap m W h HM H64.out)
  have C4 := Lib.hid (fun W ad cap (h : I64s.Sl W ad cap m) => Trm.rttrim_any a0 ad cap m W h HM)
  have HP := Trm.trm_pos a0 m
  have HBT := Lib.hid (fun h0 : 0 < m.length => Trm.mid_between a0 m _ _ h0 (fun x hx => Trm.trm_ends a0 m hx))
  have HK : (Trm.trm a0 m).length ≤ 1000 := by rw [Trm.trm_len]; omega
  have HBB : Trm.midB m = decide (0 < (Trm.trm a0 m).length) := by unfold Trm.midB; rw [decide_eq_decide]; exact HP.symm
  rw [HBB] at C1 C2
  have HBT2 := Lib.hid (fun h0 : 0 < (Trm.trm a0 m).length => HBT.out (HP.1 h0))
  clear HM HT HN H64 HBT HBB HP
  unfold I64s.ListPost Trm.PartPost at *
  generalize Trm.midV a0 m = v at *
  generalize Trm.trm a0 m = t at *
  have e0 : (v != v) = false := by simp
  have e1 : (true != true) = false := rfl
  have e2 : (false != false) = false := rfl
  go_enter Try.func5, Try.ntmps5
  go_wp2_with fail
  refine (C0.out).mono ?_; rintro e w1 ⟨ad1, cp1, rfl, ho1, hB1⟩
  have S1 := ho1.sl
  have B1 := Lib.hid hB1
  clear ho1 hB1
  go_wp2_with fail
  refine (C1.out w1 ad1 cp1 S1).mono ?_; rintro e w2 ⟨rfl, hB2⟩
  have S2 := S1.below hB2
  have B2 := Lib.hid (HB1.out _ _ B1.out hB2)
  clear hB2 S1
  go_wp2_with fail
  refine (C2.out w2 ad1 cp1 S2).mono ?_; rintro e w3 ⟨rfl, hB3⟩
  have S3 := S2.below hB3
  have B3 := Lib.hid (HB1.out _ _ B2.out hB3)
  clear hB3 S2
  by_cases h0 : 0 < t.length
  · obtain ⟨q0, q1⟩ := HBT2.out h0
    rw [decide_eq_true h0]
    go_wp2_with fail
    refine (C4.out w3 ad1 cp1 S3).mono ?_; rintro e w4 ⟨ad4, cp4, rfl, S4, hB4⟩
    have BE := Lib.hid (HB1.out _ _ B3.out hB4)
    obtain ⟨b, off, rfl, c0⟩ := S4.at (k := 0) h0
    obtain ⟨b', off', e', c1⟩ := S4.at (k := t.length - 1) (by omega)
    simp only [Option.some.injEq, Addr.mk.injEq] at e'
    obtain ⟨rfl, rfl, -⟩ := e'
    have g0 := c0 w4 (Below.refl _ _)
    have g1 := c1 w4 (Below.refl _ _)
    rw [Nat.add_zero] at g0
    generalize t.getD 0 0 = x at *
    generalize t.getD (t.length - 1) 0 = y at *
    obtain ⟨j, hj⟩ : ∃ j, t.length - 1 = j := ⟨_, rfl⟩
    have hj1 : t.length = j + 1 := by omega
    rw [hj] at g1
    rw [hj1]
    have d0 : decide (x ≤ v) = true := decide_eq_true q0
    have d1 : decide (v ≤ y) = true := decide_eq_true q1
    clear hB4 S3 S4 c0 c1 C4 hj q0 q1 HBT2
    go_wp2_with fail
    refine (C9.out _).mono ?_; rintro e w9 ⟨rfl, hB⟩
    have B9 := Lib.hid (BE.out.trans (hB.mono BE.out.size))
    clear hB
    go_wp2_with fail
    go_ret
    exact ⟨rfl, B9.out⟩
  · rw [decide_eq_false h0]
    go_wp2_with fail
    refine (C4.out w3 ad1 cp1 S3).mono ?_; rintro e w4 ⟨ad4, cp4, rfl, S4, hB4⟩
    have BE := Lib.hid (HB1.out _ _ B3.out hB4)
    clear hB4 S3 S4 C4
    go_wp2_with fail
    refine (C9.out _).mono ?_; rintro e w9 ⟨rfl, hB⟩
    have B9 := Lib.hid (BE.out.trans (hB.mono BE.out.size))
    clear hB
    go_wp2_with fail
    go_ret
    exact ⟨rfl, B9.out⟩

set_option maxRecDepth 100000 in
theorem lifted (os : Os) (started : os.Started) (H : Type) (enc : TypeId × Value → H) :
    ReturnsInHanded {} Try.checked os 5 .any (Rows.trimMiddlesSpec.pre6 enc Try.prog Try.f5 Rows.trimMiddlesRow.domain false) (Rows.trimMiddlesSpec.post enc Try.prog Try.f5 false true false false) := by
  refine returnsInHanded_of_change (C := Try.checked) own started (by kernel_rfl) Try.func5
    (ChangeSpec.witness6 (enc := enc) (C := Try.checked) false ⟨#[], #[.int .i64 0, .slice none 0 0], []⟩ 8 (by kernel_rfl) (by kernel_rfl) (by kernel_rfl) (by kernel_rfl)) ?_
  intro W base args ds gs before hval0 hW hcnd _
  have hval : ∀ (j : Nat) t v, Try.f5.params[j]? = some t → args[j]? = some v → Value.okWide Try.prog W .any base t v := hval0
  have hW' := hW
  obtain ⟨p, q, hA0, hV, rfl, hfz, hnd⟩ := hW
  have hA : DataW.TrodAll enc Try.prog W 0 (fun _ => true) true Try.f5.params.toList args.toList ds p := hA0
  rw [Try.params5] at hA hval
  obtain ⟨v0, vs0, d0, ds0, p0, q0, hargs, rfl, rfl, h0, r0⟩ := trodAll_cons hA
  obtain ⟨v1, vs1, d1, ds1, p1, q1, rfl, rfl, rfl, h1, r1⟩ := trodAll_cons r0
  obtain ⟨rfl, rfl, rfl⟩ := trodAll_nil r1
  obtain rfl : args = #[v0, v1] := by cases args; simp_all
  obtain ⟨rfl, rfl⟩ := trodVars_none hV
  obtain ⟨a0, rfl, rfl, rfl, w0⟩ := open_int Try.underlying3 (hval 0 3 v0 rfl rfl) h0
  obtain ⟨a1, len1, cap1, rfl⟩ := okWide_slice Try.underlying22 (hval 1 22 v1 rfl rfl)
  have k1 := h1
  have lt1 : ∀ x ∈ p1, x.block < W.heap.size := by obtain ⟨m, hm⟩ := k1; exact DataW.trod_lt m _ _ _ hm
  obtain ⟨z1, w1⟩ : ∃ zs, IsRow .i64 W a1 len1 cap1 zs := by
    obtain ⟨fuel, hf⟩ := h1
    rcases open_ints Try.underlying22 Try.underlying2 (by kernel_rfl) hf with ⟨hcs, _⟩ | ⟨x, l, c, zs, hcs, _, hl, hm, hz, _, hcell, hwz⟩
    · simp [Value.cells] at hcs
      obtain ⟨rfl, rfl, rfl⟩ := hcs
      exact ⟨[], .inl ⟨rfl, rfl, rfl, rfl⟩⟩
    · simp [Value.cells] at hcs
      obtain ⟨rfl, rfl, rfl⟩ := hcs
      exact ⟨zs, .inr ⟨_, rfl, hl, hm, by simpa using hz, hcell, hwz⟩⟩
  clear hA0 hval0
  refine (walk a0 a1 len1 cap1 z1 W w0 w1).mono fun e W' ⟨he, bel⟩ => ?_
  subst he
  exact ⟨_, rfl, _, _, _, [], _, [], hW', trodAll_mk1 (shut_bool Try.underlying4 _), (trodAll_cons_mk (shut_int Try.underlying3 w0) (trodAll_cons_mk (Below.trod laidOut (by kernel_rfl) (of_decide_eq_true (by kernel_rfl)) k1 bel lt1) trodAll_mk0)), rfl, bel.frame _, fun h => by cases h⟩

theorem over : Rows.trimMiddlesRow.holds Try.pinned (OpenSpec.ofChange Rows.trimMiddlesSpec) :=
  OpenClaim.holds_of_wide 5 Try.f5 rfl rfl rfl rfl rfl rfl rfl ⟨rfl, rfl, rfl, rfl, rfl⟩ rfl rfl rfl rfl rfl (by kernel_rfl) Try.func5 (by kernel_rfl)
    (of_decide_eq_true (by kernel_rfl)) (by unfold Func.isWrapper; first | (rw [if_pos (by decide +kernel)]; kernel_rfl) | (rw [if_neg (by decide +kernel)]; exact ⟨rfl, rfl⟩))
    (fun os started H enc _ => lifted os started H enc)

theorem proved : Rows.TrimMiddlesSaid := over
#print axioms proved
end Go.Proofs.Ytldlgonpkeekdaa.lawTrimMiddles
