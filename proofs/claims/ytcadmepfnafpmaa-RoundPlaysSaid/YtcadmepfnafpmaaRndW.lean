/- When and First of layer 25, and the document's own. -/
import Derived.Test.YtcadmepfnafpmaaRows
import Derived.WalkKit
import Derived.WalkLawsBesides
import Derived.WalkSpells
import Derived.ProofKit
import Derived.Handy
import Derived.Lib.Hide
namespace Go.Proofs.Ytcadmepfnafpmaa.Rnd
open Go.ChangeShapes Go.WideShapes Go.ChangeAt Go.RowKit
set_option linter.unusedVariables false
set_option linter.unusedSimpArgs false
/-- Is it due? -/
def whenB (no every : Int) : Bool := decide (0 ≤ no ∧ 0 ≤ every ∧ no * every ≤ 1152921504606846976)
/-- When. -/
def whenV (no every : Int) : Int := if whenB no every = true then no * every else 0
theorem when_not {no every : Int} (h : ¬ (0 ≤ no ∧ 0 ≤ every ∧ no * every ≤ 1152921504606846976)) : whenB no every = false ∧ whenV no every = 0 := by
  have : whenB no every = false := decide_eq_false h
  exact ⟨this, by unfold whenV; rw [this]; rfl⟩
theorem when_is {no every : Int} (h : 0 ≤ no ∧ 0 ≤ every ∧ no * every ≤ 1152921504606846976) : whenB no every = true ∧ whenV no every = no * every := by
  have : whenB no every = true := decide_eq_true h
  exact ⟨this, by unfold whenV; rw [this]; rfl⟩
theorem wquo_bd (d : Int) (h : 0 < d) : 0 ≤ (1152921504606846976 : Int).tdiv d ∧ (1152921504606846976 : Int).tdiv d ≤ 1152921504606846976 := by
  rw [Int.tdiv_eq_ediv_of_nonneg (by omega)]
  exact ⟨Int.ediv_nonneg (by omega) (by omega), Int.ediv_le_self _ (by omega)⟩
theorem wquo_gt (d e : Int) (h : 0 < d) : decide (e > (1152921504606846976 : Int).tdiv d) = decide (1152921504606846976 < e * d) := by
  rw [Int.tdiv_eq_ediv_of_nonneg (by omega)]
  exact decide_eq_decide.2 (Int.ediv_lt_iff_lt_mul h)
theorem ret_when {a b : Int} {c d : Bool} (h : a = b) (h2 : c = d) : Ending.returned (.tuple #[.int .i64 a, .bool c]) = .returned (.tuple #[.int .i64 b, .bool d]) := by rw [h, h2]
set_option maxRecDepth 100000 in
theorem rwhen_any (no every : Int) (w : World) (hn : -9223372036854775808 ≤ no ∧ no ≤ 9223372036854775807) (he : -9223372036854775808 ≤ every ∧ every ≤ 9223372036854775807) :
    Calls Try.prog 19 #[.int .i64 no, .int .i64 every] w fun e w' => e = .returned (.tuple #[.int .i64 (whenV no every), .bool (whenB no every)]) ∧ w = w' := by
  obtain ⟨v, hv⟩ : ∃ v, whenV no every = v := ⟨_, rfl⟩
  obtain ⟨b, hb⟩ : ∃ b, whenB no every = b := ⟨_, rfl⟩
  rw [hv, hb]
  by_cases n0 : no < 0
  · have h1 : Hid (0 = v) := Lib.hid (by rw [← hv]; exact (when_not (by omega)).2.symm)
    have h2 : Hid (false = b) := Lib.hid (by rw [← hb]; exact (when_not (by omega)).1.symm)
    have t1 : decide (no < 0) = true := decide_eq_true n0
    clear hv hb n0
    go_enter Try.func19, Try.ntmps19
    go_wp2_with fail
    go_returns
    exact ⟨ret_when h1.out h2.out, rfl⟩
  · by_cases e0 : every < 0
    · have h1 : Hid (0 = v) := Lib.hid (by rw [← hv]; exact (when_not (by omega)).2.symm)
      have h2 : Hid (false = b) := Lib.hid (by rw [← hb]; exact (when_not (by omega)).1.symm)
      have t1 : decide (no < 0) = false := decide_eq_false n0
      have t2 : decide (every < 0) = true := decide_eq_true e0
      clear hv hb n0 e0
      go_enter Try.func19, Try.ntmps19
      go_wp2_with fail
      go_returns
      exact ⟨ret_when h1.out h2.out, rfl⟩
    · by_cases d0 : 0 < every
      · obtain ⟨qb1, qb2⟩ := wquo_bd every d0
        have hg := wquo_gt every no d0
        by_cases hx : 1152921504606846976 < no * every
        · have h1 : Hid (0 = v) := Lib.hid (by rw [← hv]; exact (when_not (fun h => by have := h.2.2; omega)).2.symm)
          have h2 : Hid (false = b) := Lib.hid (by rw [← hb]; exact (when_not (fun h => by have := h.2.2; omega)).1.symm)
          rw [decide_eq_true hx] at hg
          have hg2 : decide ((1152921504606846976 : Int).tdiv every < no) = true := hg
          have t1 : decide (no < 0) = false := decide_eq_false n0
          have t2 : decide (every < 0) = false := decide_eq_false e0
          have t3 : decide (every > 0) = true := decide_eq_true d0
          have t4 : decide (0 < every) = true := t3
          have nz : every ≠ 0 := by omega
          clear hv hb hx
          go_enter Try.func19, Try.ntmps19
          go_wp2_with fail
          go_returns
          exact ⟨ret_when h1.out h2.out, rfl⟩
        · have hp0 : 0 ≤ no * every := Int.mul_nonneg (by omega) (by omega)
          have hp1 : no * every ≤ 1152921504606846976 := by omega
          have h1 : Hid (no * every = v) := Lib.hid (by rw [← hv]; exact (when_is ⟨by omega, by omega, hp1⟩).2.symm)
          have h2 : Hid (true = b) := Lib.hid (by rw [← hb]; exact (when_is ⟨by omega, by omega, hp1⟩).1.symm)
          rw [decide_eq_false hx] at hg
          have hg2 : decide ((1152921504606846976 : Int).tdiv every < no) = false := hg
          have t1 : decide (no < 0) = false := decide_eq_false n0
          have t2 : decide (every < 0) = false := decide_eq_false e0
          have t3 : decide (every > 0) = true := decide_eq_true d0
          have t4 : decide (0 < every) = true := t3
          have nz : every ≠ 0 := by omega
          clear hv hb hx
          go_enter Try.func19, Try.ntmps19
          go_wp2_with fail
          go_returns
          exact ⟨ret_when h1.out h2.out, rfl⟩
      · have hz : every = 0 := by omega
        have hp : no * every = 0 := by rw [hz]; exact Int.mul_zero _
        have hp0 : 0 ≤ no * every := by omega
        have hp1 : no * every ≤ 1152921504606846976 := by omega
        have h1 : Hid (no * every = v) := Lib.hid (by rw [← hv]; exact (when_is ⟨by omega, by omega, by omega⟩).2.symm)
        have h2 : Hid (true = b) := Lib.hid (by rw [← hb]; exact (when_is ⟨by omega, by omega, by omega⟩).1.symm)
        have t1 : decide (no < 0) = false := decide_eq_false n0
        have t2 : decide (every < 0) = false := decide_eq_false e0
        have t3 : decide (every > 0) = false := decide_eq_false d0
        have t4 : decide (0 < every) = false := t3
        clear hv hb hp hz
        go_enter Try.func19, Try.ntmps19
        go_wp2_with fail
        go_returns
        exact ⟨ret_when h1.out h2.out, rfl⟩
set_option maxRecDepth 100000 in
theorem rdue12_any (no every : Int) (w : World) (hn : -9223372036854775808 ≤ no ∧ no ≤ 9223372036854775807) (he : -9223372036854775808 ≤ every ∧ every ≤ 9223372036854775807) :
    Calls Try.prog 20 #[.int .i64 no, .int .i64 every] w fun e w' => e = .returned (.tuple #[.int .i64 (whenV no every), .bool (whenB no every)]) ∧ w = w' := by
  obtain ⟨v, hv⟩ : ∃ v, whenV no every = v := ⟨_, rfl⟩
  obtain ⟨b, hb⟩ : ∃ b, whenB no every = b := ⟨_, rfl⟩
  rw [hv, hb]
  by_cases n0 : no < 0
  · have h1 : Hid (0 = v) := Lib.hid (by rw [← hv]; exact (when_not (by omega)).2.symm)
    have h2 : Hid (false = b) := Lib.hid (by rw [← hb]; exact (when_not (by omega)).1.symm)
    have t1 : decide (no < 0) = true := decide_eq_true n0
    clear hv hb n0
    go_enter Try.func20, Try.ntmps20
    go_wp2_with fail
    go_returns
    exact ⟨ret_when h1.out h2.out, rfl⟩
  · by_cases e0 : every < 0
    · have h1 : Hid (0 = v) := Lib.hid (by rw [← hv]; exact (when_not (by omega)).2.symm)
      have h2 : Hid (false = b) := Lib.hid (by rw [← hb]; exact (when_not (by omega)).1.symm)
      have t1 : decide (no < 0) = false := decide_eq_false n0
      have t2 : decide (every < 0) = true := decide_eq_true e0
      clear hv hb n0 e0
      go_enter Try.func20, Try.ntmps20
      go_wp2_with fail
      go_returns
      exact ⟨ret_when h1.out h2.out, rfl⟩
    · by_cases d0 : 0 < every
      · obtain ⟨qb1, qb2⟩ := wquo_bd every d0
        have hg := wquo_gt every no d0
        by_cases hx : 1152921504606846976 < no * every
        · have h1 : Hid (0 = v) := Lib.hid (by rw [← hv]; exact (when_not (fun h => by have := h.2.2; omega)).2.symm)
          have h2 : Hid (false = b) := Lib.hid (by rw [← hb]; exact (when_not (fun h => by have := h.2.2; omega)).1.symm)
          rw [decide_eq_true hx] at hg
          have hg2 : decide ((1152921504606846976 : Int).tdiv every < no) = true := hg
          have t1 : decide (no < 0) = false := decide_eq_false n0
          have t2 : decide (every < 0) = false := decide_eq_false e0
          have t3 : decide (every > 0) = true := decide_eq_true d0
          have t4 : decide (0 < every) = true := t3
          have nz : every ≠ 0 := by omega
          clear hv hb hx
          go_enter Try.func20, Try.ntmps20
          go_wp2_with fail
          go_returns
          exact ⟨ret_when h1.out h2.out, rfl⟩
        · have hp0 : 0 ≤ no * every := Int.mul_nonneg (by omega) (by omega)
          have hp1 : no * every ≤ 1152921504606846976 := by omega
          have h1 : Hid (no * every = v) := Lib.hid (by rw [← hv]; exact (when_is ⟨by omega, by omega, hp1⟩).2.symm)
          have h2 : Hid (true = b) := Lib.hid (by rw [← hb]; exact (when_is ⟨by omega, by omega, hp1⟩).1.symm)
          rw [decide_eq_false hx] at hg
          have hg2 : decide ((1152921504606846976 : Int).tdiv every < no) = false := hg
          have t1 : decide (no < 0) = false := decide_eq_false n0
          have t2 : decide (every < 0) = false := decide_eq_false e0
          have t3 : decide (every > 0) = true := decide_eq_true d0
          have t4 : decide (0 < every) = true := t3
          have nz : every ≠ 0 := by omega
          clear hv hb hx
          go_enter Try.func20, Try.ntmps20
          go_wp2_with fail
          go_returns
          exact ⟨ret_when h1.out h2.out, rfl⟩
      · have hz : every = 0 := by omega
        have hp : no * every = 0 := by rw [hz]; exact Int.mul_zero _
        have hp0 : 0 ≤ no * every := by omega
        have hp1 : no * every ≤ 1152921504606846976 := by omega
        have h1 : Hid (no * every = v) := Lib.hid (by rw [← hv]; exact (when_is ⟨by omega, by omega, by omega⟩).2.symm)
        have h2 : Hid (true = b) := Lib.hid (by rw [← hb]; exact (when_is ⟨by omega, by omega, by omega⟩).1.symm)
        have t1 : decide (no < 0) = false := decide_eq_false n0
        have t2 : decide (every < 0) = false := decide_eq_false e0
        have t3 : decide (every > 0) = false := decide_eq_false d0
        have t4 : decide (0 < every) = false := t3
        clear hv hb hp hz
        go_enter Try.func20, Try.ntmps20
        go_wp2_with fail
        go_returns
        exact ⟨ret_when h1.out h2.out, rfl⟩
/-- The first round that does not begin ahead of a time. -/
def firV (t e : Int) : Int := if t < 1 ∨ e < 1 then 1 else if 0 < t % e then t / e + 1 else t / e
theorem ret_fir {a b : Int} (h : a = b) : Ending.returned (.int .i64 a) = .returned (.int .i64 b) := by rw [h]
theorem fir_parts {t e : Int} (ht : 1 ≤ t) (he : 1 ≤ e) (ht2 : t ≤ 9223372036854775807) : t.tdiv e = t / e ∧ t.tmod e = t % e ∧ 0 ≤ t / e ∧ t / e ≤ t ∧ 0 ≤ t % e ∧ t % e < e ∧ e * (t / e) + t % e = t ∧ (0 < t % e → t / e ≤ 4611686018427387903) := by
  have h1 := Int.tdiv_eq_ediv_of_nonneg (a := t) (b := e) (by omega)
  have h2 := Int.tmod_eq_emod_of_nonneg (a := t) (b := e) (by omega)
  have h3 := Int.ediv_nonneg (a := t) (b := e) (by omega) (by omega)
  have h4 := Int.emod_nonneg t (b := e) (by omega)
  have h5 := Int.emod_lt_of_pos t (b := e) (by omega)
  have h6 := Int.mul_ediv_add_emod t e
  have h7 := Int.ediv_le_self e (show 0 ≤ t by omega)
  refine ⟨h1, h2, h3, h7, h4, h5, h6, fun hp => ?_⟩
  have h8 : 2 * (t / e) ≤ e * (t / e) := Int.mul_le_mul_of_nonneg_right (by omega) h3
  omega
theorem rfirst_any (t e : Int) (w : World) (ht : -9223372036854775808 ≤ t ∧ t ≤ 9223372036854775807) (he : -9223372036854775808 ≤ e ∧ e ≤ 9223372036854775807) :
    Calls Try.prog 21 #[.int .i64 t, .int .i64 e] w fun x w' => x = .returned (.int .i64 (firV t e)) ∧ w = w' := by
  obtain ⟨v, hv⟩ : ∃ v, firV t e = v := ⟨_, rfl⟩
  rw [hv]
  by_cases t0 : t < 1
  · have h1 := Lib.hid (show 1 = v by rw [← hv]; unfold firV; rw [if_pos (.inl t0)])
    have d0 : decide (t < 1) = true := decide_eq_true t0
    clear hv t0
    go_enter Try.func21, Try.ntmps21
    go_wp2_with fail
    go_ret
    exact ⟨ret_fir h1.out, rfl⟩
  · by_cases e0 : e < 1
    · have h1 := Lib.hid (show 1 = v by rw [← hv]; unfold firV; rw [if_pos (.inr e0)])
      have d0 : decide (t < 1) = false := decide_eq_false t0
      have d1 : decide (e < 1) = true := decide_eq_true e0
      clear hv t0 e0
      go_enter Try.func21, Try.ntmps21
      go_wp2_with fail
      go_ret
      exact ⟨ret_fir h1.out, rfl⟩
    · obtain ⟨p1, p2, p3, p4, p5, p6, p7, p8⟩ := fir_parts (t := t) (e := e) (by omega) (by omega) ht.2
      have d0 : decide (t < 1) = false := decide_eq_false t0
      have d1 : decide (e < 1) = false := decide_eq_false e0
      have nz : e ≠ 0 := by omega
      have hf : v = if 0 < t % e then t / e + 1 else t / e := by rw [← hv]; unfold firV; rw [if_neg (by omega)]
      by_cases hm : 0 < t % e
      · rw [if_pos hm] at hf
        have d2 : decide (0 < t % e) = true := decide_eq_true hm
        have p9 := p8 hm
        have h1 := Lib.hid hf
        have hw : wrap64 (t / e + 1) = t / e + 1 := by unfold wrap64; omega
        clear hv hf p7 p8
        generalize t % e = m at *
        generalize t / e = q at *
        go_enter Try.func21, Try.ntmps21
        go_wp2_with fail
        go_ret
        exact ⟨ret_fir h1.out.symm, rfl⟩
      · rw [if_neg hm] at hf
        have d2 : decide (0 < t % e) = false := decide_eq_false hm
        have h1 := Lib.hid hf
        clear hv hf p7 p8
        generalize t % e = m at *
        generalize t / e = q at *
        go_enter Try.func21, Try.ntmps21
        go_wp2_with fail
        go_ret
        exact ⟨ret_fir h1.out.symm, rfl⟩
theorem rrfirst_any (t e : Int) (w : World) (ht : -9223372036854775808 ≤ t ∧ t ≤ 9223372036854775807) (he : -9223372036854775808 ≤ e ∧ e ≤ 9223372036854775807) :
    Calls Try.prog 22 #[.int .i64 t, .int .i64 e] w fun x w' => x = .returned (.int .i64 (firV t e)) ∧ w = w' := by
  obtain ⟨v, hv⟩ : ∃ v, firV t e = v := ⟨_, rfl⟩
  rw [hv]
  by_cases e0 : e < 1
  · have h1 := Lib.hid (show 1 = v by rw [← hv]; unfold firV; rw [if_pos (.inr e0)])
    have d0 : decide (e < 1) = true := decide_eq_true e0
    clear hv e0
    go_enter Try.func22, Try.ntmps22
    go_wp2_with fail
    go_ret
    exact ⟨ret_fir h1.out, rfl⟩
  · by_cases t0 : t < 1
    · have h1 := Lib.hid (show 1 = v by rw [← hv]; unfold firV; rw [if_pos (.inl t0)])
      have d0 : decide (e < 1) = false := decide_eq_false e0
      have d1 : decide (t < 1) = true := decide_eq_true t0
      clear hv t0 e0
      go_enter Try.func22, Try.ntmps22
      go_wp2_with fail
      go_ret
      exact ⟨ret_fir h1.out, rfl⟩
    · obtain ⟨p1, p2, p3, p4, p5, p6, p7, p8⟩ := fir_parts (t := t) (e := e) (by omega) (by omega) ht.2
      have d0 : decide (t < 1) = false := decide_eq_false t0
      have d1 : decide (e < 1) = false := decide_eq_false e0
      have nz : e ≠ 0 := by omega
      have hf : v = if 0 < t % e then t / e + 1 else t / e := by rw [← hv]; unfold firV; rw [if_neg (by omega)]
      have hp : t / e * e = t - t % e := by have := Int.mul_comm e (t / e); omega
      have hw2 : wrap64 (t / e * e) = t - t % e := by rw [hp]; unfold wrap64; omega
      by_cases hm : 0 < t % e
      · rw [if_pos hm] at hf
        have d2 : decide (t - t % e < t) = true := decide_eq_true (by omega)
        have p9 := p8 hm
        have h1 := Lib.hid hf
        have hw : wrap64 (t / e + 1) = t / e + 1 := by unfold wrap64; omega
        clear hv hf p7 p8 hp
        generalize t % e = m at *
        generalize t / e = q at *
        go_enter Try.func22, Try.ntmps22
        go_wp2_with fail
        go_ret
        exact ⟨ret_fir h1.out.symm, rfl⟩
      · rw [if_neg hm] at hf
        have d2 : decide (t - t % e < t) = false := decide_eq_false (by omega)
        have h1 := Lib.hid hf
        clear hv hf p7 p8 hp
        generalize t % e = m at *
        generalize t / e = q at *
        go_enter Try.func22, Try.ntmps22
        go_wp2_with fail
        go_ret
        exact ⟨ret_fir h1.out.symm, rfl⟩
end Go.Proofs.Ytcadmepfnafpmaa.Rnd
