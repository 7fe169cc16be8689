/- What was added to any int64 is taken away again; the middle of two numbers is not nearer to one than to the other by more than one. -/
import Derived.Test.YtjdllkmnhckpaaaRows
import Derived.WalkKit
import Derived.ProofKit
import Derived.OpenShut
import Derived.ShutString
import Derived.ChangeOld
import Derived.Below
import Derived.Test.YtjdllkmnhckpaaaSpanE
namespace Go.Proofs.Ytjdllkmnhckpaaa.lawSpanBack
open Go.ChangeShapes Go.WideShapes Go.ChangeAt Go.RowKit
open Go.ChangeMaps (open_string shut_string)
set_option linter.unusedVariables false

theorem own : ownKnob Try.prog.godebug = none := by kernel_rfl
theorem laidOut : laidOutB Try.prog = true := by kernel_rfl

/-! The walk: the Go text returns true and writes nothing that was there. -/
theorem walk (a0 : Int) (a1 : Int) (w : World) (w0 : (Lit.int .i64 a0).wf = true) (w1 : (Lit.int .i64 a1).wf = true) :
    Calls Try.prog 9 #[.int .i64 a0, .int .i64 a1] w fun e w' => e = .returned (.bool true) ∧ Below w.heap.size w w' := by
  have hA := bounds_i64 w0
  have hB := bounds_i64 w1
  have CM := Lib.hid (fun W => Span.mid_any a0 a1 hA hB W)
  have hM : -9223372036854775808 ≤ (a0 + a1) / 2 ∧ (a0 + a1) / 2 ≤ 9223372036854775807 := by omega
  obtain ⟨l, CL, l0, l1⟩ : ∃ l : Int, Hid (∀ W, Calls Try.prog 28 #[.int .i64 a0, .int .i64 ((a0 + a1) / 2)] W fun e w' => e = .returned (.int .u64 l) ∧ W = w') ∧ 0 ≤ l ∧ l ≤ 9223372036854775808 ∧ Hid (l = ((a0 - (a0 + a1) / 2).natAbs : Int)) := by
    refine ⟨_, Lib.hid (fun W => Span.gap_any a0 _ hA hM W), ?_, ?_, Lib.hid rfl⟩ <;> omega
  obtain ⟨r, CR, r0, r1⟩ : ∃ r : Int, Hid (∀ W, Calls Try.prog 28 #[.int .i64 ((a0 + a1) / 2), .int .i64 a1] W fun e w' => e = .returned (.int .u64 r) ∧ W = w') ∧ 0 ≤ r ∧ r ≤ 9223372036854775808 ∧ Hid (r = (((a0 + a1) / 2 - a1).natAbs : Int)) := by
    refine ⟨_, Lib.hid (fun W => Span.gap_any _ a1 hM hB W), ?_, ?_, Lib.hid rfl⟩ <;> omega
  obtain ⟨l1, l2⟩ := l1
  obtain ⟨r1, r2⟩ := r1
  have h1 : l ≤ r + 1 := by have := l2.out; have := r2.out; omega
  have h2 : r ≤ l + 1 := by have := l2.out; have := r2.out; omega
  by_cases hf : -9223372036854775808 ≤ a0 + a1 ∧ a0 + a1 ≤ 9223372036854775807
  · have CA : Hid (∀ W, Calls Try.prog 11 #[.int .i64 a0, .int .i64 a1] W fun e w' => e = .returned (.tuple #[.int .i64 (a0 + a1), .bool true]) ∧ W = w') := by
      refine Lib.hid (fun W => (Span.add_any a0 a1 hA hB W).mono fun e w' h => ?_)
      rw [(Span.fit_yes _ hf).1, (Span.fit_yes _ hf).2] at h
      exact h
    have CS : Hid (∀ W, Calls Try.prog 13 #[.int .i64 (a0 + a1), .int .i64 a1] W fun e w' => e = .returned (.tuple #[.int .i64 a0, .bool true]) ∧ W = w') := by
      refine Lib.hid (fun W => (Span.sub_any (a0 + a1) a1 hf hB W).mono fun e w' h => ?_)
      have e1 : a0 + a1 - a1 = a0 := by omega
      rw [e1, (Span.fit_yes _ hA).1, (Span.fit_yes _ hA).2] at h
      exact h
    clear hA hB hM hf
    go_enter Try.func9, Try.ntmps9
    go_wp2_with fail
    refine (CA.out _).mono ?_; rintro e w' ⟨rfl, rfl⟩
    go_wp2_with fail
    refine (CS.out _).mono ?_; rintro e w' ⟨rfl, rfl⟩
    go_wp2_with fail
    refine (CM.out _).mono ?_; rintro e w' ⟨rfl, rfl⟩
    go_wp2_with fail
    refine (CL.out _).mono ?_; rintro e w' ⟨rfl, rfl⟩
    go_wp2_with fail
    refine (CR.out _).mono ?_; rintro e w' ⟨rfl, rfl⟩
    go_wp2_with fail
    refine (Span.works_any _).mono ?_; rintro e w' ⟨rfl, bel⟩
    go_wp2_with fail
    go_ret
    exact ⟨rfl, bel⟩
  · have CA : Hid (∀ W, Calls Try.prog 11 #[.int .i64 a0, .int .i64 a1] W fun e w' => e = .returned (.tuple #[.int .i64 0, .bool false]) ∧ W = w') := by
      refine Lib.hid (fun W => (Span.add_any a0 a1 hA hB W).mono fun e w' h => ?_)
      rw [(Span.fit_no _ hf).1, (Span.fit_no _ hf).2] at h
      exact h
    have CS : Hid (∀ W, Calls Try.prog 13 #[.int .i64 0, .int .i64 a1] W fun e w' => e = .returned (.tuple #[.int .i64 (Span.fitV (0 - a1)), .bool (Span.fitB (0 - a1))]) ∧ W = w') :=
      Lib.hid (fun W => Span.sub_any 0 a1 (by omega) hB W)
    clear hA hB hM hf
    go_enter Try.func9, Try.ntmps9
    go_wp2_with fail
    refine (CA.out _).mono ?_; rintro e w' ⟨rfl, rfl⟩
    go_wp2_with fail
    refine (CS.out _).mono ?_; rintro e w' ⟨rfl, rfl⟩
    go_wp2_with fail
    refine (CM.out _).mono ?_; rintro e w' ⟨rfl, rfl⟩
    go_wp2_with fail
    refine (CL.out _).mono ?_; rintro e w' ⟨rfl, rfl⟩
    go_wp2_with fail
    refine (CR.out _).mono ?_; rintro e w' ⟨rfl, rfl⟩
    go_wp2_with fail
    refine (Span.works_any _).mono ?_; rintro e w' ⟨rfl, bel⟩
    go_wp2_with fail
    go_ret
    exact ⟨rfl, bel⟩

set_option maxRecDepth 100000 in
theorem lifted (os : Os) (started : os.Started) (H : Type) (enc : TypeId × Value → H) :
    ReturnsInHanded {} Try.checked os 9 .any (Rows.spanBackSpec.pre6 enc Try.prog Try.f9 Rows.spanBackRow.domain false) (Rows.spanBackSpec.post enc Try.prog Try.f9 false true false false) := by
  refine returnsInHanded_of_change (C := Try.checked) own started (by kernel_rfl) Try.func9
    (ChangeSpec.witness6 (enc := enc) (C := Try.checked) false ⟨#[], #[.int .i64 0, .int .i64 0], []⟩ 8 (by kernel_rfl) (by kernel_rfl) (by kernel_rfl) (by kernel_rfl)) ?_
  intro W base args ds gs before hval0 hW hcnd _
  have hval : ∀ (j : Nat) t v, Try.f9.params[j]? = some t → args[j]? = some v → Value.okWide Try.prog W .any base t v := hval0
  have hW' := hW
  obtain ⟨p, q, hA0, hV, rfl, hfz, hnd⟩ := hW
  have hA : DataW.TrodAll enc Try.prog W 0 (fun _ => true) true Try.f9.params.toList args.toList ds p := hA0
  rw [Try.params9] at hA hval
  obtain ⟨v0, vs0, d0, ds0, p0, q0, hargs, rfl, rfl, h0, r0⟩ := trodAll_cons hA
  obtain ⟨v1, vs1, d1, ds1, p1, q1, rfl, rfl, rfl, h1, r1⟩ := trodAll_cons r0
  obtain ⟨rfl, rfl, rfl⟩ := trodAll_nil r1
  obtain rfl : args = #[v0, v1] := by cases args; simp_all
  obtain ⟨rfl, rfl⟩ := trodVars_none hV
  obtain ⟨a0, rfl, rfl, rfl, w0⟩ := open_int Try.underlying2 (hval 0 2 v0 rfl rfl) h0
  obtain ⟨a1, rfl, rfl, rfl, w1⟩ := open_int Try.underlying2 (hval 1 2 v1 rfl rfl) h1
  clear hA0 hval0
  refine (walk a0 a1 W w0 w1).mono fun e W' ⟨he, bel⟩ => ?_
  subst he
  exact ⟨_, rfl, _, _, _, [], _, [], hW', trodAll_mk1 (shut_bool Try.underlying4 _), (trodAll_cons_mk (shut_int Try.underlying2 w0) (trodAll_cons_mk (shut_int Try.underlying2 w1) trodAll_mk0)), rfl, bel.frame _, fun h => by cases h⟩

theorem over : Rows.spanBackRow.holds Try.pinned (OpenSpec.ofChange Rows.spanBackSpec) :=
  OpenClaim.holds_of_wide 9 Try.f9 rfl rfl rfl rfl rfl rfl rfl ⟨rfl, rfl, rfl, rfl, rfl⟩ rfl rfl rfl rfl rfl (by kernel_rfl) Try.func9 (by kernel_rfl)
    (of_decide_eq_true (by kernel_rfl)) (by unfold Func.isWrapper; first | (rw [if_pos (by decide +kernel)]; kernel_rfl) | (rw [if_neg (by decide +kernel)]; exact ⟨rfl, rfl⟩))
    (fun os started H enc _ => lifted os started H enc)

theorem proved : Rows.SpanBackSaid := over
#print axioms proved
end Go.Proofs.Ytjdllkmnhckpaaa.lawSpanBack
