/- Contracts of package span (layer 1) and of the document's own answers for it: products and quotients. -/
import Derived.Test.YtmkdemdeejhonaaDoorSpanA
import Derived.BigQuiet
import Derived.Deep.QuietTactic
namespace Go.Proofs.YtmkdemdeejhonaaDoor.Span
open Go.ChangeShapes Go.WideShapes Go.ChangeAt Go.RowKit
set_option linter.unusedVariables false

/-- A quotient rounded towards 0, with whether a rest is left. -/
theorem cut_no0 (a : Int) (w : World) :
    Calls Tryd.prog 35 #[.int .i64 a, .int .i64 0] w fun e w' => e = .returned (.tuple #[.int .i64 0, .bool false, .bool false]) ∧ w = w' := by
  go_enter Tryd.func35, Tryd.ntmps35
  go_wp2
  go_ret3
  exact ⟨rfl, rfl⟩

theorem cut_nomin (w : World) :
    Calls Tryd.prog 35 #[.int .i64 (-9223372036854775808), .int .i64 (-1)] w fun e w' => e = .returned (.tuple #[.int .i64 0, .bool false, .bool false]) ∧ w = w' := by
  go_enter Tryd.func35, Tryd.ntmps35
  go_wp2
  go_ret3
  exact ⟨rfl, rfl⟩

theorem cut_yes (a b : Int) (ha : -9223372036854775808 ≤ a ∧ a ≤ 9223372036854775807) (hb : -9223372036854775808 ≤ b ∧ b ≤ 9223372036854775807)
    (h0 : b ≠ 0) (hm : ¬ (a = -9223372036854775808 ∧ b = -1)) (w : World) :
    Calls Tryd.prog 35 #[.int .i64 a, .int .i64 b] w fun e w' => e = .returned (.tuple #[.int .i64 (a.tdiv b), .bool (a.tmod b != 0), .bool true]) ∧ ∃ n, w' = w.drewN n := by
  have hq := Math.tdiv_bd a b ha h0 hm
  have hb0 : (b == 0) = false := beq_eq_false_iff_ne.2 h0
  obtain ⟨q1, q2⟩ := hq
  by_cases ham : a = -9223372036854775808
  · have hb1 : (b == -1) = false := beq_eq_false_iff_ne.2 (fun h => hm ⟨ham, h⟩)
    have HA : (a == -9223372036854775808) = true := beq_iff_eq.2 ham
    clear ham hm
    go_enter Tryd.func35, Tryd.ntmps35
    go_wp2
    go_quiet (fail)
    go_wp2
    go_ret3
    exact ⟨rfl, nq, rfl⟩
  · have HA : (a == -9223372036854775808) = false := beq_eq_false_iff_ne.2 ham
    clear ham hm
    go_enter Tryd.func35, Tryd.ntmps35
    go_wp2
    go_quiet (fail)
    go_wp2
    go_ret3
    exact ⟨rfl, nq, rfl⟩


/-- Quotients, rounded down and rounded up, with whether there is one. -/
def divV (a b : Int) : Int := if b = 0 then 0 else fitV (a.fdiv b)
def divB (a b : Int) : Bool := if b = 0 then false else fitB (a.fdiv b)
def upV (a b : Int) : Int := if b = 0 then 0 else fitV (Math.cdiv a b)
def upB (a b : Int) : Bool := if b = 0 then false else fitB (Math.cdiv a b)

theorem div_no0 (a : Int) (w : World) :
    Calls Tryd.prog 33 #[.int .i64 a, .int .i64 0] w fun e w' => e = .returned (.tuple #[.int .i64 0, .bool false]) ∧ ∃ n, w' = w.drewN n := by
  go_enter Tryd.func33, Tryd.ntmps33
  go_wp2_with (go_at_call 35; refine (cut_no0 a _).mono ?_; rintro e w' ⟨rfl, rfl⟩)
  go_ret2
  exact ⟨rfl, 0, rfl⟩
theorem div_nomin (w : World) :
    Calls Tryd.prog 33 #[.int .i64 (-9223372036854775808), .int .i64 (-1)] w fun e w' => e = .returned (.tuple #[.int .i64 0, .bool false]) ∧ ∃ n, w' = w.drewN n := by
  go_enter Tryd.func33, Tryd.ntmps33
  go_wp2_with (go_at_call 35; refine (cut_nomin _).mono ?_; rintro e w' ⟨rfl, rfl⟩)
  go_ret2
  exact ⟨rfl, 0, rfl⟩
theorem div_yes (a b : Int) (ha : -9223372036854775808 ≤ a ∧ a ≤ 9223372036854775807) (hb : -9223372036854775808 ≤ b ∧ b ≤ 9223372036854775807)
    (h0 : b ≠ 0) (hm : ¬ (a = -9223372036854775808 ∧ b = -1)) (w : World) :
    Calls Tryd.prog 33 #[.int .i64 a, .int .i64 b] w fun e w' => e = .returned (.tuple #[.int .i64 (a.fdiv b), .bool true]) ∧ ∃ n, w' = w.drewN n := by
  have C := Lib.hid (fun W => cut_yes a b ha hb h0 hm W)
  have HF := Lib.hid (Math.fdiv_of a b h0)
  have tb := Math.tdiv_bd a b ha h0 hm
  have th := Math.tdiv_half a b ha h0
  obtain ⟨t1, t2⟩ := tb
  clear hm
  by_cases hr : a.tmod b = 0
  · have HR : (a.tmod b != 0) = false := by simp [hr]
    have HE : Hid (a.fdiv b = a.tdiv b) := by apply Lib.hid; rw [HF.out, if_neg (fun h => h.1 hr)]
    clear hr th
    go_enter Tryd.func33, Tryd.ntmps33
    go_wp2_with (go_at_call 35; refine (C.out _).mono ?_; rintro e w' ⟨rfl, n, rfl⟩)
    go_ret2
    exact ⟨ret_ib HE.out.symm rfl, _, rfl⟩
  · have HR : (a.tmod b != 0) = true := by simp [hr]
    obtain ⟨t3, t4⟩ := th hr
    by_cases ha1 : a < 0 <;> by_cases hb1 : b < 0
    · have HE : Hid (a.fdiv b = a.tdiv b) := by apply Lib.hid; rw [HF.out, if_neg (fun h => absurd h.2 (by simp [ha1, hb1]))]
      have HA1 : decide (a < 0) = true := decide_eq_true ha1
      have HB1 : decide (b < 0) = true := decide_eq_true hb1
      clear hr th ha1 hb1
      go_enter Tryd.func33, Tryd.ntmps33
      go_wp2_with (go_at_call 35; refine (C.out _).mono ?_; rintro e w' ⟨rfl, n, rfl⟩)
      go_ret2
      exact ⟨ret_ib HE.out.symm rfl, _, rfl⟩
    · have HE : Hid (a.fdiv b = a.tdiv b - 1) := by apply Lib.hid; rw [HF.out, if_pos ⟨hr, by simp [ha1, hb1]⟩]
      have HA1 : decide (a < 0) = true := decide_eq_true ha1
      have HB1 : decide (b < 0) = false := decide_eq_false hb1
      clear hr th ha1 hb1
      go_enter Tryd.func33, Tryd.ntmps33
      go_wp2_with (go_at_call 35; refine (C.out _).mono ?_; rintro e w' ⟨rfl, n, rfl⟩)
      go_ret2
      exact ⟨ret_ib HE.out.symm rfl, _, rfl⟩
    · have HE : Hid (a.fdiv b = a.tdiv b - 1) := by apply Lib.hid; rw [HF.out, if_pos ⟨hr, by simp [ha1, hb1]⟩]
      have HA1 : decide (a < 0) = false := decide_eq_false ha1
      have HB1 : decide (b < 0) = true := decide_eq_true hb1
      clear hr th ha1 hb1
      go_enter Tryd.func33, Tryd.ntmps33
      go_wp2_with (go_at_call 35; refine (C.out _).mono ?_; rintro e w' ⟨rfl, n, rfl⟩)
      go_ret2
      exact ⟨ret_ib HE.out.symm rfl, _, rfl⟩
    · have HE : Hid (a.fdiv b = a.tdiv b) := by apply Lib.hid; rw [HF.out, if_neg (fun h => absurd h.2 (by simp [ha1, hb1]))]
      have HA1 : decide (a < 0) = false := decide_eq_false ha1
      have HB1 : decide (b < 0) = false := decide_eq_false hb1
      clear hr th ha1 hb1
      go_enter Tryd.func33, Tryd.ntmps33
      go_wp2_with (go_at_call 35; refine (C.out _).mono ?_; rintro e w' ⟨rfl, n, rfl⟩)
      go_ret2
      exact ⟨ret_ib HE.out.symm rfl, _, rfl⟩
theorem div_any (a b : Int) (ha : -9223372036854775808 ≤ a ∧ a ≤ 9223372036854775807) (hb : -9223372036854775808 ≤ b ∧ b ≤ 9223372036854775807) (w : World) :
    Calls Tryd.prog 33 #[.int .i64 a, .int .i64 b] w fun e w' => e = .returned (.tuple #[.int .i64 (divV a b), .bool (divB a b)]) ∧ ∃ n, w' = w.drewN n := by
  by_cases h0 : b = 0
  · subst h0
    exact div_no0 a w
  · by_cases hm : a = -9223372036854775808 ∧ b = -1
    · obtain ⟨rfl, rfl⟩ := hm
      exact div_nomin w
    · refine (div_yes a b ha hb h0 hm w).mono fun e w' h => ?_
      have q := fit_yes _ (Math.fdiv_bd a b ha h0 hm)
      rw [show divV a b = a.fdiv b from by unfold divV; rw [if_neg h0, q.1], show divB a b = true from by unfold divB; rw [if_neg h0, q.2]]
      exact h

theorem up_no0 (a : Int) (w : World) :
    Calls Tryd.prog 34 #[.int .i64 a, .int .i64 0] w fun e w' => e = .returned (.tuple #[.int .i64 0, .bool false]) ∧ ∃ n, w' = w.drewN n := by
  go_enter Tryd.func34, Tryd.ntmps34
  go_wp2_with (go_at_call 35; refine (cut_no0 a _).mono ?_; rintro e w' ⟨rfl, rfl⟩)
  go_ret2
  exact ⟨rfl, 0, rfl⟩
theorem up_nomin (w : World) :
    Calls Tryd.prog 34 #[.int .i64 (-9223372036854775808), .int .i64 (-1)] w fun e w' => e = .returned (.tuple #[.int .i64 0, .bool false]) ∧ ∃ n, w' = w.drewN n := by
  go_enter Tryd.func34, Tryd.ntmps34
  go_wp2_with (go_at_call 35; refine (cut_nomin _).mono ?_; rintro e w' ⟨rfl, rfl⟩)
  go_ret2
  exact ⟨rfl, 0, rfl⟩
theorem up_yes (a b : Int) (ha : -9223372036854775808 ≤ a ∧ a ≤ 9223372036854775807) (hb : -9223372036854775808 ≤ b ∧ b ≤ 9223372036854775807)
    (h0 : b ≠ 0) (hm : ¬ (a = -9223372036854775808 ∧ b = -1)) (w : World) :
    Calls Tryd.prog 34 #[.int .i64 a, .int .i64 b] w fun e w' => e = .returned (.tuple #[.int .i64 (Math.cdiv a b), .bool true]) ∧ ∃ n, w' = w.drewN n := by
  have C := Lib.hid (fun W => cut_yes a b ha hb h0 hm W)
  have HF := Lib.hid (Math.cdiv_of a b h0)
  have tb := Math.tdiv_bd a b ha h0 hm
  have th := Math.tdiv_half a b ha h0
  obtain ⟨t1, t2⟩ := tb
  clear hm
  by_cases hr : a.tmod b = 0
  · have HR : (a.tmod b != 0) = false := by simp [hr]
    have HE : Hid (Math.cdiv a b = a.tdiv b) := by apply Lib.hid; rw [HF.out, if_neg (fun h => h.1 hr)]
    clear hr th
    go_enter Tryd.func34, Tryd.ntmps34
    go_wp2_with (go_at_call 35; refine (C.out _).mono ?_; rintro e w' ⟨rfl, n, rfl⟩)
    go_ret2
    exact ⟨ret_ib HE.out.symm rfl, _, rfl⟩
  · have HR : (a.tmod b != 0) = true := by simp [hr]
    obtain ⟨t3, t4⟩ := th hr
    by_cases ha1 : a < 0 <;> by_cases hb1 : b < 0
    · have HE : Hid (Math.cdiv a b = a.tdiv b + 1) := by apply Lib.hid; rw [HF.out, if_pos ⟨hr, by simp [ha1, hb1]⟩]
      have HA1 : decide (a < 0) = true := decide_eq_true ha1
      have HB1 : decide (b < 0) = true := decide_eq_true hb1
      clear hr th ha1 hb1
      go_enter Tryd.func34, Tryd.ntmps34
      go_wp2_with (go_at_call 35; refine (C.out _).mono ?_; rintro e w' ⟨rfl, n, rfl⟩)
      go_ret2
      exact ⟨ret_ib HE.out.symm rfl, _, rfl⟩
    · have HE : Hid (Math.cdiv a b = a.tdiv b) := by apply Lib.hid; rw [HF.out, if_neg (fun h => absurd h.2 (by simp [ha1, hb1]))]
      have HA1 : decide (a < 0) = true := decide_eq_true ha1
      have HB1 : decide (b < 0) = false := decide_eq_false hb1
      clear hr th ha1 hb1
      go_enter Tryd.func34, Tryd.ntmps34
      go_wp2_with (go_at_call 35; refine (C.out _).mono ?_; rintro e w' ⟨rfl, n, rfl⟩)
      go_ret2
      exact ⟨ret_ib HE.out.symm rfl, _, rfl⟩
    · have HE : Hid (Math.cdiv a b = a.tdiv b) := by apply Lib.hid; rw [HF.out, if_neg (fun h => absurd h.2 (by simp [ha1, hb1]))]
      have HA1 : decide (a < 0) = false := decide_eq_false ha1
      have HB1 : decide (b < 0) = true := decide_eq_true hb1
      clear hr th ha1 hb1
      go_enter Tryd.func34, Tryd.ntmps34
      go_wp2_with (go_at_call 35; refine (C.out _).mono ?_; rintro e w' ⟨rfl, n, rfl⟩)
      go_ret2
      exact ⟨ret_ib HE.out.symm rfl, _, rfl⟩
    · have HE : Hid (Math.cdiv a b = a.tdiv b + 1) := by apply Lib.hid; rw [HF.out, if_pos ⟨hr, by simp [ha1, hb1]⟩]
      have HA1 : decide (a < 0) = false := decide_eq_false ha1
      have HB1 : decide (b < 0) = false := decide_eq_false hb1
      clear hr th ha1 hb1
      go_enter Tryd.func34, Tryd.ntmps34
      go_wp2_with (go_at_call 35; refine (C.out _).mono ?_; rintro e w' ⟨rfl, n, rfl⟩)
      go_ret2
      exact ⟨ret_ib HE.out.symm rfl, _, rfl⟩
theorem up_any (a b : Int) (ha : -9223372036854775808 ≤ a ∧ a ≤ 9223372036854775807) (hb : -9223372036854775808 ≤ b ∧ b ≤ 9223372036854775807) (w : World) :
    Calls Tryd.prog 34 #[.int .i64 a, .int .i64 b] w fun e w' => e = .returned (.tuple #[.int .i64 (upV a b), .bool (upB a b)]) ∧ ∃ n, w' = w.drewN n := by
  by_cases h0 : b = 0
  · subst h0
    exact up_no0 a w
  · by_cases hm : a = -9223372036854775808 ∧ b = -1
    · obtain ⟨rfl, rfl⟩ := hm
      exact up_nomin w
    · refine (up_yes a b ha hb h0 hm w).mono fun e w' h => ?_
      have q := fit_yes _ (Math.cdiv_bd a b ha h0 hm)
      rw [show upV a b = Math.cdiv a b from by unfold upV; rw [if_neg h0, q.1], show upB a b = true from by unfold upB; rw [if_neg h0, q.2]]
      exact h

end Go.Proofs.YtmkdemdeejhonaaDoor.Span
