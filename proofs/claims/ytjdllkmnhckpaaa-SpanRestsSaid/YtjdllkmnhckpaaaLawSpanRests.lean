/- Of any quotient by a number above 0 what is left is from 0 to below it; rounded up it is one more just if something is left. -/
import Derived.Test.YtjdllkmnhckpaaaRows
import Derived.WalkKit
import Derived.ProofKit
import Derived.OpenShut
import Derived.ShutString
import Derived.ChangeOld
import Derived.Below
import Derived.Test.YtjdllkmnhckpaaaSpanE
namespace Go.Proofs.Ytjdllkmnhckpaaa.lawSpanRests
open Go.ChangeShapes Go.WideShapes Go.ChangeAt Go.RowKit
open Go.ChangeMaps (open_string shut_string)
set_option linter.unusedVariables false

theorem own : ownKnob Try.prog.godebug = none := by kernel_rfl
theorem laidOut : laidOutB Try.prog = true := by kernel_rfl

theorem ediv_facts (a n : Int) (h1 : 1 ≤ n) : 0 ≤ a - a / n * n ∧ a - a / n * n < n ∧ a - a / n * n = a % n := by
  have h := Int.emod_add_mul_ediv a n
  have h2 := Int.emod_nonneg a (show n ≠ 0 by omega)
  have h3 := Int.emod_lt_of_pos a (show 0 < n by omega)
  rw [Int.mul_comm n] at h
  omega
theorem cdiv_pos (a n : Int) (h1 : 1 ≤ n) : Math.cdiv a n = if a % n = 0 then a / n else a / n + 1 := by
  unfold Math.cdiv
  rw [Int.neg_fdiv, Int.fdiv_eq_ediv]
  rw [if_pos (Or.inl (by omega))]
  have hd : n ∣ a ↔ a % n = 0 := Int.dvd_iff_emod_eq_zero
  by_cases h : a % n = 0
  · rw [if_pos (Or.inr (hd.2 h)), if_pos h]; omega
  · rw [if_neg (fun g => g.elim (by omega) (fun g => h (hd.1 g))), if_neg h]; omega
theorem div_at (a n : Int) (hA : -9223372036854775808 ≤ a ∧ a ≤ 9223372036854775807) (h1 : 1 ≤ n) (h2 : n ≤ 4294967296) (W : World) :
    Calls Try.prog 18 #[.int .i64 a, .int .i64 n] W fun e w' => e = .returned (.tuple #[.int .i64 (a / n), .bool true]) ∧ ∃ m, w' = W.drewN m := by
  have h := Span.div_any a n hA (by omega) W
  have e : a.fdiv n = a / n := by rw [Int.fdiv_eq_ediv]; rw [if_pos (Or.inl (by omega))]; omega
  have q := Span.fit_yes _ (Span.ediv_bd a n hA (by omega))
  rw [show Span.divV a n = a / n from by unfold Span.divV; rw [if_neg (by omega), e, q.1], show Span.divB a n = true from by unfold Span.divB; rw [if_neg (by omega), e, q.2]] at h
  exact h
theorem up_at (a n : Int) (hA : -9223372036854775808 ≤ a ∧ a ≤ 9223372036854775807) (h1 : 1 ≤ n) (h2 : n ≤ 4294967296) (W : World) :
    Calls Try.prog 20 #[.int .i64 a, .int .i64 n] W fun e w' => e = .returned (.tuple #[.int .i64 (if a % n = 0 then a / n else a / n + 1), .bool true]) ∧ ∃ m, w' = W.drewN m := by
  have h := Span.up_any a n hA (by omega) W
  have q := Span.fit_yes _ (Math.cdiv_bd a n hA (by omega) (by omega))
  rw [show Span.upV a n = Math.cdiv a n from by unfold Span.upV; rw [if_neg (by omega), q.1], show Span.upB a n = true from by unfold Span.upB; rw [if_neg (by omega), q.2], cdiv_pos a n h1] at h
  exact h
theorem core_no (a b n q u : Int) (hn : Hid (b + 1 = n)) (h1 : 1 ≤ n) (h2 : n ≤ 4294967296) (h3 : a < -9223372036854775808 + n)
    (CD : Hid (∀ W, Calls Try.prog 18 #[.int .i64 a, .int .i64 n] W fun e w' => e = .returned (.tuple #[.int .i64 q, .bool true]) ∧ ∃ m, w' = W.drewN m))
    (CU : Hid (∀ W, Calls Try.prog 20 #[.int .i64 a, .int .i64 n] W fun e w' => e = .returned (.tuple #[.int .i64 u, .bool true]) ∧ ∃ m, w' = W.drewN m))
    (CP : Hid (∀ W, Calls Try.prog 16 #[.int .i64 q, .int .i64 n] W fun e w' => e = .returned (.tuple #[.int .i64 0, .bool false]) ∧ W = w')) (w : World) :
    Calls Try.prog 10 #[.int .i64 a, .int .u32 b] w fun e w' => e = .returned (.bool true) ∧ Below w.heap.size w w' := by
    have hb0 : 0 ≤ b := by have := hn.out; omega
    have hb1 : b ≤ 4294967295 := by have := hn.out; omega
    obtain rfl := hn.out
    go_enter Try.func10, Try.ntmps10
    go_wp2_with fail
    refine (CD.out _).mono ?_; rintro e w' ⟨rfl, n1, rfl⟩
    go_wp2_with fail
    refine (CU.out _).mono ?_; rintro e w' ⟨rfl, n2, rfl⟩
    go_wp2_with fail
    refine (CP.out _).mono ?_; rintro e w' ⟨rfl, rfl⟩
    go_wp2_with fail
    refine (Span.works_any _).mono ?_; rintro e w' ⟨rfl, bel⟩
    go_wp2_with fail
    go_ret
    exact ⟨rfl, (below_drewN (Below.refl _ _) (n1 + n2)).trans bel⟩
theorem core_yes (a b n q u p : Int) (hn : Hid (b + 1 = n)) (h1 : 1 ≤ n) (h2 : n ≤ 4294967296) (h3 : 0 ≤ a - p) (h4 : a - p < n)
    (e1 e2 : Bool) (t1 : (u == q) = e1) (t2 : (a - p == 0) = e1) (t3 : (u == wrap64 (q + 1)) = e2) (t3' : (u == q + 1) = e2) (t4 : decide (p < a) = e2) (he : e2 = !e1)
    (CD : Hid (∀ W, Calls Try.prog 18 #[.int .i64 a, .int .i64 n] W fun e w' => e = .returned (.tuple #[.int .i64 q, .bool true]) ∧ ∃ m, w' = W.drewN m))
    (CU : Hid (∀ W, Calls Try.prog 20 #[.int .i64 a, .int .i64 n] W fun e w' => e = .returned (.tuple #[.int .i64 u, .bool true]) ∧ ∃ m, w' = W.drewN m))
    (CP : Hid (∀ W, Calls Try.prog 16 #[.int .i64 q, .int .i64 n] W fun e w' => e = .returned (.tuple #[.int .i64 p, .bool true]) ∧ W = w')) (w : World) :
    Calls Try.prog 10 #[.int .i64 a, .int .u32 b] w fun e w' => e = .returned (.bool true) ∧ Below w.heap.size w w' := by
    have hb0 : 0 ≤ b := by have := hn.out; omega
    have hb1 : b ≤ 4294967295 := by have := hn.out; omega
    obtain rfl := hn.out
    subst he
    cases e1
    all_goals
      go_enter Try.func10, Try.ntmps10
      go_wp2_with fail
      refine (CD.out _).mono ?_; rintro e w' ⟨rfl, n1, rfl⟩
      go_wp2_with fail
      refine (CU.out _).mono ?_; rintro e w' ⟨rfl, n2, rfl⟩
      go_wp2_with fail
      refine (CP.out _).mono ?_; rintro e w' ⟨rfl, rfl⟩
      go_wp2_with fail
      refine (Span.works_any _).mono ?_; rintro e w' ⟨rfl, bel⟩
      go_wp2_with fail
      go_ret
      exact ⟨rfl, (below_drewN (Below.refl _ _) (n1 + n2)).trans bel⟩
  
theorem core (a b n : Int) (hn : Hid (b + 1 = n)) (hA : -9223372036854775808 ≤ a ∧ a ≤ 9223372036854775807) (h1 : 1 ≤ n) (h2 : n ≤ 4294967296) (w : World) :
    Calls Try.prog 10 #[.int .i64 a, .int .u32 b] w fun e w' => e = .returned (.bool true) ∧ Below w.heap.size w w' := by
  have CD := Lib.hid (fun W => div_at a n hA h1 h2 W)
  have CU := Lib.hid (fun W => up_at a n hA h1 h2 W)
  have hq := Span.ediv_bd a n hA (by omega)
  have CP := Lib.hid (fun W => Span.mul_any (a / n) n hq (by omega) W)
  obtain ⟨f1, f2, f3⟩ := ediv_facts a n h1
  by_cases hf : -9223372036854775808 ≤ a / n * n ∧ a / n * n ≤ 9223372036854775807
  · rw [(Span.fit_yes _ hf).1, (Span.fit_yes _ hf).2] at CP
    by_cases hr : a % n = 0
    · rw [if_pos hr] at CU
      refine core_yes a b n _ _ _ hn h1 h2 f1 f2 true false (by simp) (by rw [beq_iff_eq]; omega) ?_ ?_ ?_ rfl CD CU CP w
      · rw [beq_eq_false_iff_ne]; unfold wrap64; omega
      · rw [beq_eq_false_iff_ne]; omega
      · rw [decide_eq_false_iff_not]; omega
    · rw [if_neg hr] at CU
      have hn2 : 2 ≤ n := by
        by_cases h : n = 1
        · rw [h, Int.emod_one] at hr; exact absurd rfl hr
        · omega
      have hq2 : a / n < 9223372036854775807 := by
        by_cases h : 0 ≤ a
        · have h5 : a / n * 2 ≤ a / n * n := Int.mul_le_mul_of_nonneg_left hn2 (Int.ediv_nonneg h (by omega))
          omega
        · have h5 : a / n < 0 := Int.ediv_neg_of_neg_of_pos (by omega) (by omega)
          omega
      refine core_yes a b n _ _ _ hn h1 h2 f1 f2 false true ?_ ?_ ?_ ?_ ?_ rfl CD CU CP w
      · rw [beq_eq_false_iff_ne]; omega
      · rw [beq_eq_false_iff_ne]; omega
      · rw [beq_iff_eq]; exact (IntWalk.wrap64_in _ (by omega)).symm
      · simp
      · rw [decide_eq_true_iff]; omega
  · rw [(Span.fit_no _ hf).1, (Span.fit_no _ hf).2] at CP
    exact core_no a b n _ _ hn h1 h2 (by omega) CD CU CP w

/-! The walk: the Go text returns true and writes nothing that was there. -/
theorem walk (a0 : Int) (a1 : Int) (w : World) (w0 : (Lit.int .i64 a0).wf = true) (w1 : (Lit.int .u32 a1).wf = true) :
    Calls Try.prog 10 #[.int .i64 a0, .int .u32 a1] w fun e w' => e = .returned (.bool true) ∧ Below w.heap.size w w' := by
  have hA := bounds_i64 w0
  have hB := bounds_u32 w1
  obtain ⟨n, hn⟩ : ∃ n, Hid (a1 + 1 = n) := ⟨_, Lib.hid rfl⟩
  refine core a0 a1 n hn hA (by have := hn.out; omega) (by have := hn.out; omega) w

set_option maxRecDepth 100000 in
theorem lifted (os : Os) (started : os.Started) (H : Type) (enc : TypeId × Value → H) :
    ReturnsInHanded {} Try.checked os 10 .any (Rows.spanRestsSpec.pre6 enc Try.prog Try.f10 Rows.spanRestsRow.domain false) (Rows.spanRestsSpec.post enc Try.prog Try.f10 false true false false) := by
  refine returnsInHanded_of_change (C := Try.checked) own started (by kernel_rfl) Try.func10
    (ChangeSpec.witness6 (enc := enc) (C := Try.checked) false ⟨#[], #[.int .i64 0, .int .u32 0], []⟩ 8 (by kernel_rfl) (by kernel_rfl) (by kernel_rfl) (by kernel_rfl)) ?_
  intro W base args ds gs before hval0 hW hcnd _
  have hval : ∀ (j : Nat) t v, Try.f10.params[j]? = some t → args[j]? = some v → Value.okWide Try.prog W .any base t v := hval0
  have hW' := hW
  obtain ⟨p, q, hA0, hV, rfl, hfz, hnd⟩ := hW
  have hA : DataW.TrodAll enc Try.prog W 0 (fun _ => true) true Try.f10.params.toList args.toList ds p := hA0
  rw [Try.params10] at hA hval
  obtain ⟨v0, vs0, d0, ds0, p0, q0, hargs, rfl, rfl, h0, r0⟩ := trodAll_cons hA
  obtain ⟨v1, vs1, d1, ds1, p1, q1, rfl, rfl, rfl, h1, r1⟩ := trodAll_cons r0
  obtain ⟨rfl, rfl, rfl⟩ := trodAll_nil r1
  obtain rfl : args = #[v0, v1] := by cases args; simp_all
  obtain ⟨rfl, rfl⟩ := trodVars_none hV
  obtain ⟨a0, rfl, rfl, rfl, w0⟩ := open_int Try.underlying2 (hval 0 2 v0 rfl rfl) h0
  obtain ⟨a1, rfl, rfl, rfl, w1⟩ := open_int Try.underlying36 (hval 1 36 v1 rfl rfl) h1
  clear hA0 hval0
  refine (walk a0 a1 W w0 w1).mono fun e W' ⟨he, bel⟩ => ?_
  subst he
  exact ⟨_, rfl, _, _, _, [], _, [], hW', trodAll_mk1 (shut_bool Try.underlying4 _), (trodAll_cons_mk (shut_int Try.underlying2 w0) (trodAll_cons_mk (shut_int Try.underlying36 w1) trodAll_mk0)), rfl, bel.frame _, fun h => by cases h⟩

theorem over : Rows.spanRestsRow.holds Try.pinned (OpenSpec.ofChange Rows.spanRestsSpec) :=
  OpenClaim.holds_of_wide 10 Try.f10 rfl rfl rfl rfl rfl rfl rfl ⟨rfl, rfl, rfl, rfl, rfl⟩ rfl rfl rfl rfl rfl (by kernel_rfl) Try.func10 (by kernel_rfl)
    (of_decide_eq_true (by kernel_rfl)) (by unfold Func.isWrapper; first | (rw [if_pos (by decide +kernel)]; kernel_rfl) | (rw [if_neg (by decide +kernel)]; exact ⟨rfl, rfl⟩))
    (fun os started H enc _ => lifted os started H enc)

theorem proved : Rows.SpanRestsSaid := over
#print axioms proved
end Go.Proofs.Ytjdllkmnhckpaaa.lawSpanRests
