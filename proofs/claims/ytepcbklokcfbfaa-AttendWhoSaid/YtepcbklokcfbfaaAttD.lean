/- Due of both (layer 12). -/
import Derived.Test.YtepcbklokcfbfaaAttM
namespace Go.Proofs.Ytepcbklokcfbfaa.Att
open Go.ChangeShapes Go.WideShapes Go.ChangeAt Go.RowKit Go.Deep
open Go.Proofs.Ytepcbklokcfbfaa.Byt Go.Proofs.Ytepcbklokcfbfaa.Key Go.Proofs.Ytepcbklokcfbfaa.Buf Go.Proofs.Ytepcbklokcfbfaa.Hed Go.Proofs.Ytepcbklokcfbfaa.Dat Go.Proofs.Ytepcbklokcfbfaa.BufM Go.Proofs.Ytepcbklokcfbfaa.Pkt
set_option linter.unusedVariables false
set_option linter.unusedSimpArgs false
/-- Is it due? -/
def dueB (no every : Int) : Bool := decide (0 ≤ no ∧ 0 ≤ every ∧ no * every ≤ 1152921504606846976)
/-- When. -/
def dueV (no every : Int) : Int := if dueB no every = true then no * every else 0
theorem due_not {no every : Int} (h : ¬ (0 ≤ no ∧ 0 ≤ every ∧ no * every ≤ 1152921504606846976)) : dueB no every = false ∧ dueV no every = 0 := by
  have : dueB no every = false := decide_eq_false h
  exact ⟨this, by unfold dueV; rw [this]; rfl⟩
theorem due_is {no every : Int} (h : 0 ≤ no ∧ 0 ≤ every ∧ no * every ≤ 1152921504606846976) : dueB no every = true ∧ dueV no every = no * every := by
  have : dueB no every = true := decide_eq_true h
  exact ⟨this, by unfold dueV; rw [this]; rfl⟩
theorem quo_bd (d : Int) (h : 0 < d) : 0 ≤ (1152921504606846976 : Int).tdiv d ∧ (1152921504606846976 : Int).tdiv d ≤ 1152921504606846976 := by
  rw [Int.tdiv_eq_ediv_of_nonneg (by omega)]
  exact ⟨Int.ediv_nonneg (by omega) (by omega), Int.ediv_le_self _ (by omega)⟩
theorem quo_gt (d e : Int) (h : 0 < d) : decide (e > (1152921504606846976 : Int).tdiv d) = decide (1152921504606846976 < e * d) := by
  rw [Int.tdiv_eq_ediv_of_nonneg (by omega)]
  exact decide_eq_decide.2 (Int.ediv_lt_iff_lt_mul h)
theorem ret_due {a b : Int} {c d : Bool} (h : a = b) (h2 : c = d) : Ending.returned (.tuple #[.int .i64 a, .bool c]) = .returned (.tuple #[.int .i64 b, .bool d]) := by rw [h, h2]
set_option maxRecDepth 100000 in
theorem adue_any (no every : Int) (w : World) (hn : -9223372036854775808 ≤ no ∧ no ≤ 9223372036854775807) (he : -9223372036854775808 ≤ every ∧ every ≤ 9223372036854775807) :
    Calls Try.prog 25 #[.int .i64 no, .int .i64 every] w fun e w' => e = .returned (.tuple #[.int .i64 (dueV no every), .bool (dueB no every)]) ∧ w = w' := by
  obtain ⟨v, hv⟩ : ∃ v, dueV no every = v := ⟨_, rfl⟩
  obtain ⟨b, hb⟩ : ∃ b, dueB no every = b := ⟨_, rfl⟩
  rw [hv, hb]
  by_cases n0 : no < 0
  · have h1 : Hid (0 = v) := Lib.hid (by rw [← hv]; exact (due_not (by omega)).2.symm)
    have h2 : Hid (false = b) := Lib.hid (by rw [← hb]; exact (due_not (by omega)).1.symm)
    have t1 : decide (no < 0) = true := decide_eq_true n0
    clear hv hb n0
    go_enter Try.func25, Try.ntmps25
    go_wp2_with fail
    go_returns
    exact ⟨ret_due h1.out h2.out, rfl⟩
  · by_cases e0 : every < 0
    · have h1 : Hid (0 = v) := Lib.hid (by rw [← hv]; exact (due_not (by omega)).2.symm)
      have h2 : Hid (false = b) := Lib.hid (by rw [← hb]; exact (due_not (by omega)).1.symm)
      have t1 : decide (no < 0) = false := decide_eq_false n0
      have t2 : decide (every < 0) = true := decide_eq_true e0
      clear hv hb n0 e0
      go_enter Try.func25, Try.ntmps25
      go_wp2_with fail
      go_returns
      exact ⟨ret_due h1.out h2.out, rfl⟩
    · by_cases d0 : 0 < no
      · obtain ⟨qb1, qb2⟩ := quo_bd no d0
        have hg := quo_gt no every d0
        by_cases hx : 1152921504606846976 < every * no
        · have h1 : Hid (0 = v) := Lib.hid (by rw [← hv]; exact (due_not (fun h => by have := h.2.2; rw [Int.mul_comm] at this; omega)).2.symm)
          have h2 : Hid (false = b) := Lib.hid (by rw [← hb]; exact (due_not (fun h => by have := h.2.2; rw [Int.mul_comm] at this; omega)).1.symm)
          rw [decide_eq_true hx] at hg
          have hg2 : decide ((1152921504606846976 : Int).tdiv no < every) = true := hg
          have t1 : decide (no < 0) = false := decide_eq_false n0
          have t2 : decide (every < 0) = false := decide_eq_false e0
          have t3 : decide (no > 0) = true := decide_eq_true d0
          have t4 : decide (0 < no) = true := t3
          have nz : no ≠ 0 := by omega
          clear hv hb hx
          go_enter Try.func25, Try.ntmps25
          go_wp2_with fail
          go_returns
          exact ⟨ret_due h1.out h2.out, rfl⟩
        · have hp0 : 0 ≤ no * every := Int.mul_nonneg (by omega) (by omega)
          have hp1 : no * every ≤ 1152921504606846976 := by rw [Int.mul_comm]; omega
          have h1 : Hid (no * every = v) := Lib.hid (by rw [← hv]; exact (due_is ⟨by omega, by omega, hp1⟩).2.symm)
          have h2 : Hid (true = b) := Lib.hid (by rw [← hb]; exact (due_is ⟨by omega, by omega, hp1⟩).1.symm)
          rw [decide_eq_false hx] at hg
          have hg2 : decide ((1152921504606846976 : Int).tdiv no < every) = false := hg
          have t1 : decide (no < 0) = false := decide_eq_false n0
          have t2 : decide (every < 0) = false := decide_eq_false e0
          have t3 : decide (no > 0) = true := decide_eq_true d0
          have t4 : decide (0 < no) = true := t3
          have nz : no ≠ 0 := by omega
          clear hv hb hx
          go_enter Try.func25, Try.ntmps25
          go_wp2_with fail
          go_returns
          exact ⟨ret_due h1.out h2.out, rfl⟩
      · have hz : no = 0 := by omega
        have hp : no * every = 0 := by rw [hz]; exact Int.zero_mul _
        have hp0 : 0 ≤ no * every := by omega
        have hp1 : no * every ≤ 1152921504606846976 := by omega
        have h1 : Hid (no * every = v) := Lib.hid (by rw [← hv]; exact (due_is ⟨by omega, by omega, by omega⟩).2.symm)
        have h2 : Hid (true = b) := Lib.hid (by rw [← hb]; exact (due_is ⟨by omega, by omega, by omega⟩).1.symm)
        have t1 : decide (no < 0) = false := decide_eq_false n0
        have t2 : decide (every < 0) = false := decide_eq_false e0
        have t3 : decide (no > 0) = false := decide_eq_false d0
        have t4 : decide (0 < no) = false := t3
        clear hv hb hp hz
        go_enter Try.func25, Try.ntmps25
        go_wp2_with fail
        go_returns
        exact ⟨ret_due h1.out h2.out, rfl⟩
set_option maxRecDepth 100000 in
theorem radue_any (no every : Int) (w : World) (hn : -9223372036854775808 ≤ no ∧ no ≤ 9223372036854775807) (he : -9223372036854775808 ≤ every ∧ every ≤ 9223372036854775807) :
    Calls Try.prog 26 #[.int .i64 no, .int .i64 every] w fun e w' => e = .returned (.tuple #[.int .i64 (dueV no every), .bool (dueB no every)]) ∧ w = w' := by
  obtain ⟨v, hv⟩ : ∃ v, dueV no every = v := ⟨_, rfl⟩
  obtain ⟨b, hb⟩ : ∃ b, dueB no every = b := ⟨_, rfl⟩
  rw [hv, hb]
  by_cases n0 : no < 0
  · have h1 : Hid (0 = v) := Lib.hid (by rw [← hv]; exact (due_not (by omega)).2.symm)
    have h2 : Hid (false = b) := Lib.hid (by rw [← hb]; exact (due_not (by omega)).1.symm)
    have t1 : decide (no < 0) = true := decide_eq_true n0
    clear hv hb n0
    go_enter Try.func26, Try.ntmps26
    go_wp2_with fail
    go_returns
    exact ⟨ret_due h1.out h2.out, rfl⟩
  · by_cases e0 : every < 0
    · have h1 : Hid (0 = v) := Lib.hid (by rw [← hv]; exact (due_not (by omega)).2.symm)
      have h2 : Hid (false = b) := Lib.hid (by rw [← hb]; exact (due_not (by omega)).1.symm)
      have t1 : decide (no < 0) = false := decide_eq_false n0
      have t2 : decide (every < 0) = true := decide_eq_true e0
      clear hv hb n0 e0
      go_enter Try.func26, Try.ntmps26
      go_wp2_with fail
      go_returns
      exact ⟨ret_due h1.out h2.out, rfl⟩
    · by_cases d0 : 0 < every
      · obtain ⟨qb1, qb2⟩ := quo_bd every d0
        have hg := quo_gt every no d0
        by_cases hx : 1152921504606846976 < no * every
        · have h1 : Hid (0 = v) := Lib.hid (by rw [← hv]; exact (due_not (fun h => by have := h.2.2; omega)).2.symm)
          have h2 : Hid (false = b) := Lib.hid (by rw [← hb]; exact (due_not (fun h => by have := h.2.2; omega)).1.symm)
          rw [decide_eq_true hx] at hg
          have hg2 : decide ((1152921504606846976 : Int).tdiv every < no) = true := hg
          have t1 : decide (no < 0) = false := decide_eq_false n0
          have t2 : decide (every < 0) = false := decide_eq_false e0
          have t3 : decide (every > 0) = true := decide_eq_true d0
          have t4 : decide (0 < every) = true := t3
          have nz : every ≠ 0 := by omega
          clear hv hb hx
          go_enter Try.func26, Try.ntmps26
          go_wp2_with fail
          go_returns
          exact ⟨ret_due h1.out h2.out, rfl⟩
        · have hp0 : 0 ≤ no * every := Int.mul_nonneg (by omega) (by omega)
          have hp1 : no * every ≤ 1152921504606846976 := by omega
          have h1 : Hid (no * every = v) := Lib.hid (by rw [← hv]; exact (due_is ⟨by omega, by omega, hp1⟩).2.symm)
          have h2 : Hid (true = b) := Lib.hid (by rw [← hb]; exact (due_is ⟨by omega, by omega, hp1⟩).1.symm)
          rw [decide_eq_false hx] at hg
          have hg2 : decide ((1152921504606846976 : Int).tdiv every < no) = false := hg
          have t1 : decide (no < 0) = false := decide_eq_false n0
          have t2 : decide (every < 0) = false := decide_eq_false e0
          have t3 : decide (every > 0) = true := decide_eq_true d0
          have t4 : decide (0 < every) = true := t3
          have nz : every ≠ 0 := by omega
          clear hv hb hx
          go_enter Try.func26, Try.ntmps26
          go_wp2_with fail
          go_returns
          exact ⟨ret_due h1.out h2.out, rfl⟩
      · have hz : every = 0 := by omega
        have hp : no * every = 0 := by rw [hz]; exact Int.mul_zero _
        have hp0 : 0 ≤ no * every := by omega
        have hp1 : no * every ≤ 1152921504606846976 := by omega
        have h1 : Hid (no * every = v) := Lib.hid (by rw [← hv]; exact (due_is ⟨by omega, by omega, by omega⟩).2.symm)
        have h2 : Hid (true = b) := Lib.hid (by rw [← hb]; exact (due_is ⟨by omega, by omega, by omega⟩).1.symm)
        have t1 : decide (no < 0) = false := decide_eq_false n0
        have t2 : decide (every < 0) = false := decide_eq_false e0
        have t3 : decide (every > 0) = false := decide_eq_false d0
        have t4 : decide (0 < every) = false := t3
        clear hv hb hp hz
        go_enter Try.func26, Try.ntmps26
        go_wp2_with fail
        go_returns
        exact ⟨ret_due h1.out h2.out, rfl⟩
end Go.Proofs.Ytepcbklokcfbfaa.Att
